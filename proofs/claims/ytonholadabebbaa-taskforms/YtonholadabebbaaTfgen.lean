/-
  A drawn region of moves, loads, makings of rows of instructions and stores into fields of a row of tasks: what has come up keeps what it says, whatever the order.
-/
import Derived.Test.YtonholadabebbaaTford
import Derived.Test.YtonholadabebbaaTthree
import Derived.Great.BuildSlice
namespace Go.Proofs.Ytonholadabebbaa
open Go.ChangeShapes Go.WideShapes Go.ChangeAt Go.RowKit
attribute [local go_sem ↓] Go.wp_at_zero Go.wp_at_succ

/-- what an operation's value is, or which task it turns, and into what -/
inductive Sp where
  | val (v : Value)
  | prog (l : List In)
  | stv (k : Nat) (X : Tv)
  | stp (k : Nat) (X : Option Addr → Tv) (l : List In)
def dv : Sp := .val undef
def tgt : Sp → Option Nat
  | .stv k _ => some k
  | .stp k _ _ => some k
  | _ => none
def OkV (b0 : Nat) : Sp → Value → World → Prop
  | .val x, v, _ => v = x
  | .prog l, v, w => ∃ b, b0 ≤ b ∧ v = .slice (some ⟨b, 0, none⟩) l.length l.length ∧ Rd eIn w (some ⟨b, 0, none⟩) l.length l
  | _, _, _ => True
def OkT (b0 : Nat) : Sp → List Tv → World → Prop
  | .stv k X, P, _ => P[k]? = some X
  | .stp k X l, P, w => ∃ b, b0 ≤ b ∧ P[k]? = some (X (some ⟨b, 0, none⟩)) ∧ Rd eIn w (some ⟨b, 0, none⟩) l.length l
  | _, _, _ => True
theorem rd_kp0 {w w' : World} {g b c : Nat} {l : List In} (h : Rd eIn w (some ⟨b, 0, none⟩) c l) (hb : g < b) (hk : Kp g w w') : Rd eIn w' (some ⟨b, 0, none⟩) c l := rd_kp h hk (fun b' o e _ => by cases e; omega)
theorem OkV.kp {b0 g : Nat} {s : Sp} {v : Value} {w w' : World} (h : OkV b0 s v w) (hg : g < b0) (hk : Kp g w w') : OkV b0 s v w' := by
  cases s with
  | val x => exact h
  | prog l => obtain ⟨b, hb, e, hr⟩ := h; exact ⟨b, hb, e, rd_kp0 hr (by omega) hk⟩
  | stv _ _ => trivial
  | stp _ _ _ => trivial
theorem OkT.kp {b0 g : Nat} {s : Sp} {P : List Tv} {w w' : World} (h : OkT b0 s P w) (hg : g < b0) (hk : Kp g w w') : OkT b0 s P w' := by
  cases s with
  | val x => trivial
  | prog l => trivial
  | stv k X => exact h
  | stp k X l => obtain ⟨b, hb, e, hr⟩ := h; exact ⟨b, hb, e, rd_kp0 hr (by omega) hk⟩
theorem OkT.no {b0 : Nat} {s : Sp} (h : tgt s = none) (P : List Tv) (w : World) : OkT b0 s P w := by
  cases s with
  | val x => trivial
  | prog l => trivial
  | stv k X => cases h
  | stp k X l => cases h
theorem OkT.other {b0 : Nat} {s : Sp} {P : List Tv} {w : World} {k : Nat} {X : Tv} (h : OkT b0 s P w) (hne : tgt s ≠ some k) : OkT b0 s (P.set k X) w := by
  cases s with
  | val x => trivial
  | prog l => trivial
  | stv j Y =>
    show (P.set k X)[j]? = some Y
    rw [List.getElem?_set_ne (fun e => hne (by rw [e]; rfl))]; exact h
  | stp j Y l =>
    obtain ⟨b, hb, e, hr⟩ := h
    exact ⟨b, hb, by rw [List.getElem?_set_ne (fun e => hne (by rw [e]; rfl))]; exact e, hr⟩
/-- a field of a task in an own row -/
theorem fl_fld (X : Tv) (f : Nat) (v : Value) (hf : f < 6) : ∀ (P : List Tv) (k : Nat) (hk : k < P.length), eTk.enc X = (eTk.enc P[k]).set f v → fl eTk (P.set k X) = (fl eTk P).set (k * 6 + f) v
  | x :: r, 0, _, h => by
    show eTk.enc X ++ fl eTk r = (eTk.enc x ++ fl eTk r).set (0 * 6 + f) v
    have e3 : (eTk.enc x).length = 6 := rfl
    rw [List.set_append, if_pos (by omega), h]
    show (eTk.enc x).set f v ++ _ = (eTk.enc x).set (0 * 6 + f) v ++ _
    rw [show 0 * 6 + f = f by omega]
  | x :: r, k + 1, hk, h => by
    have ih := fl_fld X f v hf r k (by simpa using hk) h
    have e3 : (eTk.enc x).length = 6 := rfl
    show eTk.enc x ++ fl eTk (r.set k X) = (eTk.enc x ++ fl eTk r).set ((k + 1) * 6 + f) v
    rw [ih, List.set_append, if_neg (by omega), e3]
    congr 2
    omega
theorem own_fld {w : World} {base g c : Nat} {P : List Tv} (h : Own eTk w base 24 (some ⟨g, 0, none⟩) c P) (k : Nat) (hk : k < P.length) (f : Nat) (hf : f < 6) (v : Value) (X : Tv) (hX : eTk.enc X = (eTk.enc P[k]).set f v) :
    Own eTk (w.setCell ⟨g, k * 6 + f, none⟩ v) base 24 (some ⟨g, 0, none⟩) c (P.set k X) := by
  rcases h.2 with ⟨h1, h2⟩ | ⟨g', cap, cur, h1, h2, h3, h4, h5, h6, h7⟩
  · simp only [Value.slice.injEq] at h1
    omega
  · simp only [Value.slice.injEq, Option.some.injEq, true_and] at h1
    obtain ⟨h1, rfl⟩ := h1
    cases h1
    refine ⟨fl_length eTk _, .inr ⟨g, c, cur.setIfInBounds (k * 6 + f) v, by simp, h2, ?_, by simpa using h4, h5, by simpa using h6, ?_⟩⟩
    · rw [setCell_eq_setRow w g (k * 6 + f) _ _ _ _ h3]
      exact setRow_heap w g _ _ _ _ h3
    · rw [fl_fld X f v hf P k hk hX, ← h7, Array.toList_setIfInBounds, List.length_set, List.take_set]
theorem own_at {w : World} {base g c : Nat} {P : List Tv} (h : Own eTk w base 24 (some ⟨g, 0, none⟩) c P) (k : Nat) (hk : k < P.length) (f : Nat) (hf : f < 6) :
    w.frozen? ⟨g, k * 6 + f, none⟩ = false ∧ ∃ v, w.cell? ⟨g, k * 6 + f, none⟩ = some v := by
  obtain ⟨b, o, e, hb, hc⟩ := (own_rd h).cells k hk
  simp only [Option.some.injEq, Addr.mk.injEq, and_true] at e
  obtain ⟨rfl, rfl⟩ := e
  have hl : f < (eTk.enc P[k]).length := hf
  have hcc := hc f _ (List.getElem?_eq_getElem hl)
  have e6 : eTk.k = 6 := rfl
  rw [Nat.zero_add, e6] at hcc
  refine ⟨?_, _, hcc⟩
  rcases h.2 with ⟨h1, h2⟩ | ⟨g', cap, cur, h1, h2, h3, h4, h5, h6, h7⟩
  · simp only [Value.slice.injEq] at h1
    omega
  · simp only [Value.slice.injEq, Option.some.injEq, true_and] at h1
    obtain ⟨h1, rfl⟩ := h1
    cases h1
    simp [World.frozen?, h3]
/-- where the variables lie -/
theorem info42s : (Try.prog.info? 42).map (·.size) = some 4 := by kernel_rfl
def aC (x : In) : Array Value := #[.int .i64 x.1, .int .i64 x.2.1, .int .i64 x.2.2.1, .int .i64 x.2.2.2]
def vars4 : Nat → In
  | 1 => (0, 0, 0, 0)
  | 2 => (1, 0, 0, 0)
  | 3 => (9, 0, 0, 0)
  | _ => (10, 0, 0, 0)
structure Vr (g : Nat) (rb : Nat → Nat) (w0 : World) (tm : Array Value) : Prop where
  at_ : ∀ t, 1 ≤ t → t ≤ 4 → tm.getD t undef = .pointer (some ⟨rb t, 0, none⟩) ∧ w0.heap[rb t]? = some (.cells (aC (vars4 t)) 42 (0, 0)) ∧ rb t ≠ g
  bad : tm.getD 7 undef = .slice (some ⟨g, 0, none⟩) 15 15
structure Iv (ops : Array Oper) (sp : List Sp) (ds : List Nat) (g base : Nat) (P0 : List Tv) (w0 : World) (tm : Array Value) (listed : Array Bool) (a : Act) (w : World) : Prop where
  size : listed.size = ops.size
  tmps : a.tmps.size = 153
  defs : a.defers = []
  keep : ∀ t, t ∉ ds → a.tmps.getD t undef = tm.getD t undef
  kp : Kp g w0 w
  val : ∀ j, j < ops.size → listed.getD j false = true → OkV w0.heap.size (sp.getD j dv) (a.tmps.getD (ds.getD j 0) undef) w
  mem : ∃ P : List Tv, Own eTk w base 24 (some ⟨g, 0, none⟩) 15 P ∧ P.length = 15 ∧ (∀ k, (∀ j, j < ops.size → listed.getD j false = true → tgt (sp.getD j dv) ≠ some k) → P[k]? = P0[k]?) ∧ ∀ j, j < ops.size → listed.getD j false = true → OkT w0.heap.size (sp.getD j dv) P w
structure Rg (ops : Array Oper) (sp : List Sp) (ds : List Nat) : Prop where
  nd : ds.Nodup
  len : ds.length = ops.size
  uq : ∀ i, i < ops.size → ∀ j, j < ops.size → tgt (sp.getD i dv) ≠ none → tgt (sp.getD i dv) = tgt (sp.getD j dv) → i = j
theorem tgt_getD (sp : List Sp) (j : Nat) : tgt (sp.getD j dv) = (sp.map tgt).getD j none := by
  rw [List.getD_eq_getElem?_getD, List.getD_eq_getElem?_getD, List.getElem?_map]
  cases sp[j]? <;> rfl
theorem getD_mem {ds : List Nat} {i : Nat} (h : i < ds.length) : ds.getD i 0 ∈ ds := by
  rw [List.getD_eq_getElem?_getD, List.getElem?_eq_getElem h]
  exact List.getElem_mem h
theorem getD_inj {ds : List Nat} (hn : ds.Nodup) {i j : Nat} (hi : i < ds.length) (hj : j < ds.length) (h : ds.getD i 0 = ds.getD j 0) : i = j := by
  rw [List.getD_eq_getElem?_getD, List.getD_eq_getElem?_getD, List.getElem?_eq_getElem hi, List.getElem?_eq_getElem hj] at h
  have hp := List.pairwise_iff_getElem.1 hn
  rcases Nat.lt_trichotomy i j with hlt | he | hgt
  · exact absurd h (hp i j hi hj hlt)
  · exact he
  · exact absurd h.symm (hp j i hj hi hgt)
theorem arr_same {xs : Array Value} {d : Nat} (h : d < xs.size) (v : Value) : (xs.setIfInBounds d v).getD d undef = v := by simp [Array.getD_eq_getD_getElem?, h]
theorem arr_other {xs : Array Value} {d t : Nat} (h : t ≠ d) (v : Value) : (xs.setIfInBounds d v).getD t undef = xs.getD t undef := by
  simp only [Array.getD_eq_getD_getElem?]
  rw [Array.getElem?_setIfInBounds_ne (fun e => h e.symm)]
theorem wp_one {ops : Array Oper} {Q : Exit → Act → World → Prop} {a : Act} {w : World} {i : Nat} {o : Oper} {K : Act → World → Prop} (ho : ops[i]? = some o) (hg : o.guard = none) (h : o.wp Try.prog a w K Q) : wpOp Try.prog ops Q i K a w := by
  unfold wpOp
  rw [ho]
  simp only
  have hw : Region.wanted o (yielded ops a.tmps) = true := by simp [Region.wanted, hg]
  rw [if_pos hw]
  exact .inl h
section
variable {ops : Array Oper} {sp : List Sp} {ds : List Nat} {g base : Nat} {P0 : List Tv} {w0 : World} {tm : Array Value} {listed : Array Bool} {a : Act} {w : World} {Q : Exit → Act → World → Prop}
theorem up_mono {i j : Nat} (h : listed.getD j false = true) : (listed.setIfInBounds i true).getD j false = true := by
  by_cases e : j = i
  · subst e
    have hj : j < listed.size := by
      apply Decidable.byContradiction
      intro hn
      simp [Array.getD_eq_getD_getElem?, Array.getElem?_eq_none (by omega : listed.size ≤ j)] at h
    simp [Array.getD_eq_getD_getElem?, hj]
  · rw [getD_set_other e]; exact h
theorem Iv.put (R : Rg ops sp ds) (h : Iv ops sp ds g base P0 w0 tm listed a w) (hg0 : g < w0.heap.size) {i : Nat} (hi : i < ops.size) {v : Value} {w' : World} (hb : Below w.heap.size w w') (hd2 : ds.getD i 0 < 153) (hv : OkV w0.heap.size (sp.getD i dv) v w') (ht : tgt (sp.getD i dv) = none) : Iv ops sp ds g base P0 w0 tm (listed.setIfInBounds i true) (a.put (some (ds.getD i 0)) v) w' := by
  have hl := R.len
  have hd := getD_mem (ds := ds) (i := i) (by omega)
  have hk : Kp g w w' := Kp.of_below hb
  refine ⟨by rw [Array.size_setIfInBounds]; exact h.size, by simp [Act.put, h.tmps], h.defs, fun t ht => ?_, h.kp.trans hk, fun j hj hjl => ?_, ?_⟩
  · show (a.tmps.setIfInBounds _ v).getD t undef = _
    rw [arr_other (fun e => ht (by rw [e]; exact hd))]
    exact h.keep t ht
  · show OkV _ _ ((a.tmps.setIfInBounds _ v).getD _ undef) w'
    by_cases e : j = i
    · subst e
      rw [arr_same (by rw [h.tmps]; exact hd2)]
      exact hv
    · rw [arr_other (fun e' => e (getD_inj R.nd (by omega) (by omega) e'))]
      rw [getD_set_other e] at hjl
      exact (h.val j hj hjl).kp hg0 hk
  · obtain ⟨P, o1, o2, o3, o4⟩ := h.mem
    refine ⟨P, own_below o1 hb, o2, fun k hk => o3 k fun j hj hjl => hk j hj (up_mono hjl), fun j hj hjl => ?_⟩
    by_cases e : j = i
    · subst e
      exact OkT.no ht _ _
    · rw [getD_set_other e] at hjl
      exact (o4 j hj hjl).kp hg0 hk
theorem Iv.sto (R : Rg ops sp ds) (h : Iv ops sp ds g base P0 w0 tm listed a w) (hg0 : g < w0.heap.size) {i : Nat} (hi : i < ops.size) (hl : listed.getD i true = false) {k : Nat} (ht : tgt (sp.getD i dv) = some k) (hk : k < 15) {f : Nat} (hf : f < 6) {v : Value} {X0 X : Tv} (h0 : P0[k]? = some X0) (hX : eTk.enc X = (eTk.enc X0).set f v)
    (hok : ∀ (P : List Tv) (w' : World), P[k]? = some X → Kp g w w' → OkT w0.heap.size (sp.getD i dv) P w') : (w.frozen? ⟨g, k * 6 + f, none⟩ = false ∧ ∃ v, w.cell? ⟨g, k * 6 + f, none⟩ = some v) ∧ Iv ops sp ds g base P0 w0 tm (listed.setIfInBounds i true) a (w.setCell ⟨g, k * 6 + f, none⟩ v) := by
  obtain ⟨P, o1, o2, o3, o4⟩ := h.mem
  have hne : tgt (sp.getD i dv) ≠ none := by rw [ht]; intro e; cases e
  have hfresh : ∀ j, j < ops.size → listed.getD j false = true → tgt (sp.getD j dv) ≠ some k := fun j hj hjl e => by
    have := R.uq i hi j hj hne (by rw [ht, e])
    subst this
    have hil : i < listed.size := by rw [h.size]; exact hi
    simp [Array.getD_eq_getD_getElem?, hil] at hl hjl
    rw [hl] at hjl; cases hjl
  have hPk := o3 k hfresh
  rw [h0] at hPk
  have hkP : k < P.length := by omega
  have ePk : P[k] = X0 := by rw [List.getElem?_eq_getElem hkP] at hPk; exact Option.some.inj hPk
  have hK : Kp g w (w.setCell ⟨g, k * 6 + f, none⟩ v) := Kp.set rfl v
  refine ⟨own_at o1 k hkP f hf, ?_⟩
  refine ⟨by rw [Array.size_setIfInBounds]; exact h.size, h.tmps, h.defs, h.keep, h.kp.trans hK, fun j hj hjl => ?_, ?_⟩
  · by_cases e : j = i
    · subst e
      cases hs : sp.getD j dv with
      | val x => rw [hs] at ht; cases ht
      | prog l => rw [hs] at ht; cases ht
      | stv _ _ => trivial
      | stp _ _ _ => trivial
    · rw [getD_set_other e] at hjl
      exact (h.val j hj hjl).kp hg0 hK
  · refine ⟨P.set k X, own_fld o1 k hkP f hf v X (by rw [ePk]; exact hX), by rw [List.length_set]; exact o2, fun k2 hk2 => ?_, fun j hj hjl => ?_⟩
    · have hne2 : k ≠ k2 := by
        rintro rfl
        refine hk2 i hi ?_ ht
        have hil : i < listed.size := by rw [h.size]; exact hi
        simp [Array.getD_eq_getD_getElem?, hil]
      rw [List.getElem?_set_ne hne2]
      exact o3 k2 fun j hj hjl => hk2 j hj (up_mono hjl)
    · by_cases e : j = i
      · subst e
        exact hok _ _ (by rw [List.getElem?_set_self hkP]) hK
      · rw [getD_set_other e] at hjl
        refine ((o4 j hj hjl).kp hg0 hK).other fun e2 => e ?_
        exact (R.uq i hi j hj hne (by rw [ht, e2])).symm
theorem st_move (R : Rg ops sp ds) (h : Iv ops sp ds g base P0 w0 tm listed a w) (hg0 : g < w0.heap.size) {i : Nat} {o : Oper} {t d : Nat} {v : Value} (ho : ops[i]? = some o) (hg : o.guard = none) (hop : o.op = .move (.tmp t)) (hd : o.dst = some d) (hds : ds.getD i 0 = d) (hd9 : d < 153) (ht : t ∉ ds) (htm : tm.getD t undef = v) (hs : sp.getD i dv = .val v) (hi : i < ops.size) :
    wpOp Try.prog ops Q i (fun a' w' => Iv ops sp ds g base P0 w0 tm (listed.setIfInBounds i true) a' w') a w := by
  have e : a.tmps.getD t undef = v := (h.keep t ht).trans htm
  refine wp_one ho hg ?_
  unfold Oper.wp execOp
  rw [hop]
  show Iv ops sp ds g base P0 w0 tm (listed.setIfInBounds i true) (a.put o.dst (a.tmps.getD t undef)) w
  rw [e, hd, ← hds]
  exact h.put R hg0 hi (Below.refl _ _) (by rw [hds]; exact hd9) (by rw [hs]; rfl) (by rw [hs]; rfl)
theorem st_load (R : Rg ops sp ds) (h : Iv ops sp ds g base P0 w0 tm listed a w) (hg0 : g < w0.heap.size) {rb : Nat → Nat} (hV : Vr g rb w0 tm) {i : Nat} {o : Oper} {t d : Nat} (ho : ops[i]? = some o) (hg : o.guard = none) (hop : o.op = .load 42 (.tmp t)) (hd : o.dst = some d) (hds : ds.getD i 0 = d) (hd9 : d < 153) (ht : t ∉ ds) (h1 : 1 ≤ t) (h4 : t ≤ 4) (hs : sp.getD i dv = .val (.agg (aC (vars4 t)))) (hi : i < ops.size) :
    wpOp Try.prog ops Q i (fun a' w' => Iv ops sp ds g base P0 w0 tm (listed.setIfInBounds i true) a' w') a w := by
  obtain ⟨v1, v2, v3⟩ := hV.at_ t h1 h4
  have hk := (h.keep t ht).trans v1
  have hrow := (h.kp.block (rb t) (lt_of_block v2) (by intro e; cases e; exact v3 rfl)).trans v2
  refine wp_one ho hg (wp_load_row 42 (.tmp t) hop (rb t) hk 42 (aC (vars4 t)) (0, 0) _ hrow Try.underlying42 rfl info42s ?_)
  rw [hd, ← hds]
  exact h.put R hg0 hi (Below.refl _ _) (by rw [hds]; exact hd9) (by rw [hs]; rfl) (by rw [hs]; rfl)
/-- a row of instructions -/
theorem st_row (R : Rg ops sp ds) (h : Iv ops sp ds g base P0 w0 tm listed a w) (hg0 : g < w0.heap.size) {i : Nat} {o : Oper} {d n : Nat} {parts : Array (Nat × Operand)} {l : List In} {cells : Array Value} (ho : ops[i]? = some o) (hg : o.guard = none) (hop : o.op = .buildSlice 22 n parts) (hd : o.dst = some d) (hds : ds.getD i 0 = d) (hd9 : d < 153) (hs : sp.getD i dv = .prog l) (hn : l.length = n) (hn1 : 1 ≤ n) (hn2 : n ≤ 24) (hi : i < ops.size)
    (hf : ∀ ie z, Try.prog.info? 42 = some ie → ie.zero = some z → ie.size = 4 → z = .agg #[.int .i64 0, .int .i64 0, .int .i64 0, .int .i64 0] → Instr.fill (fun i => some (i * ie.size, ie.size)) ((Array.range (n * ie.size)).map (z.cells[· % z.cells.size]!)) (parts.map fun (i, x) => (i, a.eval x)).toList = some cells) (hcl : cells.toList = fl eIn l) :
    wpOp Try.prog ops Q i (fun a' w' => Iv ops sp ds g base P0 w0 tm (listed.setIfInBounds i true) a' w') a w := by
  obtain ⟨ie, hie, hz, hsz, _⟩ := info_parts Try.info42
  refine wp_one ho hg (wp_buildSlice 22 42 n parts hop cells ie _ Try.underlying22 hie hz (by rw [hsz]; omega) (by rw [hsz]; omega) (hf ie _ hie hz hsz rfl) ?_)
  rw [hd, ← hds]
  refine h.put R hg0 hi ((Below.refl _ _).alloc (Nat.le_refl _) _) (by rw [hds]; exact hd9) ?_ (by rw [hs]; rfl)
  rw [hs]
  subst hn
  exact ⟨w.heap.size, h.kp.size, rfl, rd_block (heap_alloc_new w _) _ rfl hcl⟩
theorem st_val (R : Rg ops sp ds) (h : Iv ops sp ds g base P0 w0 tm listed a w) (hg0 : g < w0.heap.size) {i : Nat} {o : Oper} {d : Nat} {v : Value} (ho : ops[i]? = some o) (hg : o.guard = none) (hrun : (execOp a.eval o).run Try.prog w = .ok (.value v) w) (hd : o.dst = some d) (hds : ds.getD i 0 = d) (hd9 : d < 153) (hs : sp.getD i dv = .val v) (hi : i < ops.size) :
    wpOp Try.prog ops Q i (fun a' w' => Iv ops sp ds g base P0 w0 tm (listed.setIfInBounds i true) a' w') a w := by
  refine wp_one ho hg ?_
  unfold Oper.wp
  rw [hrun]
  show Iv ops sp ds g base P0 w0 tm (listed.setIfInBounds i true) (a.put o.dst v) w
  rw [hd, ← hds]
  exact h.put R hg0 hi (Below.refl _ _) (by rw [hds]; exact hd9) (by rw [hs]; rfl) (by rw [hs]; rfl)
theorem idx_run (g : Nat) (k : Nat) (hk : k < 15) (w : World) : (Instr.indexAt 32 (.slice (some ⟨g, 0, none⟩) 15 15) (.int .i64 (k : Int))).run Try.prog w = .ok (.pointer (some ⟨g, k * 6, none⟩)) w := by
  have h1 : (k : Int) < 15 := by omega
  have h2 : decide ((k : Int) < 15) = true := decide_eq_true h1
  go_simp
theorem fld_run (g o f : Nat) (hf : f < 6) (w : World) : (Instr.fieldAt 24 (.pointer (some ⟨g, o, none⟩)) f).run Try.prog w = .ok (.pointer (some ⟨g, o + f, none⟩)) w := by
  have : f = 0 ∨ f = 1 ∨ f = 2 ∨ f = 3 ∨ f = 4 ∨ f = 5 := by omega
  rcases this with rfl | rfl | rfl | rfl | rfl | rfl
  all_goals go_simp
theorem sto_run (ty : TypeId) (hty : ty = 2 ∨ ty = 3 ∨ ty = 22) (x : Addr) (v c : Value) (hv : (∃ k n, v = .int k n) ∨ ∃ p n d, v = .slice p n d) (w : World) (hc : w.cell? x = some c) (hf : w.frozen? x = false) : (Instr.storeAt ty (.pointer (some x)) v).run Try.prog w = .ok () (w.setCell x v) := by
  rcases hty with rfl | rfl | rfl
  all_goals
    rcases hv with ⟨k, n, rfl⟩ | ⟨p, n, d, rfl⟩
    all_goals go_simp
/-- a store into a field -/
theorem st_sto (R : Rg ops sp ds) (h : Iv ops sp ds g base P0 w0 tm listed a w) (hg0 : g < w0.heap.size) {i : Nat} {o : Oper} {t O : Nat} {ty : TypeId} {x : Operand} (ho : ops[i]? = some o) (hg : o.guard = none) (hop : o.op = .store ty (.tmp t) x) (hty : ty = 2 ∨ ty = 3 ∨ ty = 22) (hd : o.dst = none) (hi : i < ops.size) (hl : listed.getD i true = false) {k : Nat} (hk : k < 15) {f : Nat} (hf : f < 6) (hO : O = k * 6 + f) (hx : a.eval (.tmp t) = .pointer (some ⟨g, O, none⟩)) {v : Value} (hy : a.eval x = v) (hv : (∃ k n, v = .int k n) ∨ ∃ p n d, v = .slice p n d) (ht : tgt (sp.getD i dv) = some k) {X0 X : Tv} (h0 : P0[k]? = some X0) (hX : eTk.enc X = (eTk.enc X0).set f v)
    (hok : ∀ (P : List Tv) (w' : World), P[k]? = some X → Kp g w w' → OkT w0.heap.size (sp.getD i dv) P w') :
    wpOp Try.prog ops Q i (fun a' w' => Iv ops sp ds g base P0 w0 tm (listed.setIfInBounds i true) a' w') a w := by
  subst hO
  obtain ⟨⟨f1, c, f2⟩, hI⟩ := h.sto R hg0 hi hl ht hk hf h0 hX hok
  refine wp_one ho hg ?_
  unfold Oper.wp execOp
  rw [hop]
  simp only [hx, hy, Sem.run_bind, sto_run ty hty _ v c hv w f2 f1, Result.andThen_ok, Sem.run_pure]
  show Iv ops sp ds g base P0 w0 tm (listed.setIfInBounds i true) (a.put o.dst undef) _
  rw [hd]
  exact hI
end
end Go.Proofs.Ytonholadabebbaa
