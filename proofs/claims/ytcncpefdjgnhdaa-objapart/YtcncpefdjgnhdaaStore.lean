/-
  A store of a struct into a variable or into an own row, a load of a struct, as one step.
-/
import Derived.Test.YtcncpefdjgnhdaaSums
import Derived.Deep.MidRow
namespace Go.Proofs.Ytcncpefdjgnhdaa
open Go.ChangeShapes Go.WideShapes Go.ChangeAt Go.RowKit
attribute [local go_sem ↓] Go.wp_at_zero Go.wp_at_succ

/-- cells set one by one -/
def putA (cs : Array Value) : Nat → List Value → Array Value
  | _, [] => cs
  | o, v :: r => putA (cs.setIfInBounds o v) (o + 1) r
def putL (cs : List Value) : Nat → List Value → List Value
  | _, [] => cs
  | o, v :: r => putL (cs.set o v) (o + 1) r
theorem putA_toList : ∀ (vs : List Value) (cs : Array Value) (o : Nat), (putA cs o vs).toList = putL cs.toList o vs
  | [], _, _ => rfl
  | v :: r, cs, o => by rw [putA, putL, putA_toList r, Array.toList_setIfInBounds]
theorem putL_take : ∀ (vs : List Value) (l : List Value) (o m : Nat), (putL l o vs).take m = putL (l.take m) o vs
  | [], _, _, _ => rfl
  | v :: r, l, o, m => by rw [putL, putL, putL_take r, List.take_set]
theorem putL_length : ∀ (vs : List Value) (l : List Value) (o : Nat), (putL l o vs).length = l.length
  | [], _, _ => rfl
  | v :: r, l, o => by rw [putL, putL_length r, List.length_set]
theorem putL_mid : ∀ (b a p r : List Value), a.length = b.length → putL (p ++ a ++ r) p.length b = p ++ b ++ r
  | [], a, p, r, h => by
    have : a = [] := List.eq_nil_of_length_eq_zero h
    subst this; rfl
  | v :: b, [], p, r, h => by simp at h
  | v :: b, x :: a, p, r, h => by
    have e : (p ++ x :: a ++ r).set p.length v = (p ++ [v]) ++ a ++ r := by simp
    rw [putL, e]
    have := putL_mid b a (p ++ [v]) r (by simpa using h)
    rw [List.length_append, List.length_singleton] at this
    rw [this]; simp
theorem putL_right : ∀ (vs a l : List Value) (o : Nat), putL (a ++ l) (a.length + o) vs = a ++ putL l o vs
  | [], _, _, _ => rfl
  | v :: r, a, l, o => by
    rw [putL, putL, List.set_append_right _ _ (by omega), show a.length + o - a.length = o by omega]
    exact putL_right r a (l.set o v) (o + 1)
theorem putL_fl {α : Type} (E : Elt α) (v : α) : ∀ (l : List α) (k : Nat), k < l.length → putL (fl E l) (k * E.k) (E.enc v) = fl E (l.set k v)
  | x :: r, 0, _ => by
    rw [List.set_cons_zero, fl, fl, Nat.zero_mul]
    have := putL_mid (E.enc v) (E.enc x) [] (fl E r) (by rw [E.len, E.len])
    simpa using this
  | x :: r, k + 1, h => by
    rw [List.set_cons_succ, fl, fl, ← putL_fl E v r k (by simpa using h), Nat.succ_mul, Nat.add_comm, ← E.len x]
    exact putL_right _ _ _ _
theorem heap_setCells : ∀ (vs : List Value) (w : World) (g o : Nat) (cs : Array Value) (e : TypeId), w.heap[g]? = some (.cells cs e (0, 0)) → (w.setCells g o vs).heap[g]? = some (.cells (putA cs o vs) e (0, 0))
  | [], _, _, _, _, _, h => h
  | _ :: r, _, g, o, _, e, h => heap_setCells r _ g (o + 1) _ e (heap_setCell_same _ _ _ _ _ _ h)
theorem Kp.setCells : ∀ (vs : List Value) (w : World) (g o : Nat), Kp g w (w.setCells g o vs)
  | [], _, _, _ => Kp.refl _ _
  | v :: r, _, g, o => (Kp.set (a := ⟨g, o, none⟩) rfl v).trans (Kp.setCells r _ g (o + 1))
theorem there_of {w : World} {g : Nat} {cs : Array Value} {e : TypeId} (h : Lv w g cs e) (o n : Nat) (hn : o + n ≤ cs.size) : w.there g o n := fun j hj => by
  have h' : w.heap[g]? = some (.cells cs e (0, 0)) := h
  refine ⟨?_, h.fz _⟩
  rw [cell_of_row _ _ _ _ _ _ h']
  simp
  omega
theorem rng_of {w : World} {g : Nat} {cs : Array Value} {e : TypeId} (h : Lv w g cs e) : w.rangeAt g 0 cs.toList := fun j v hv => by
  rw [Nat.zero_add]
  exact h.c j (by rw [← Array.getElem?_toList]; exact hv)
theorem Rd.rng {α : Type} {E : Elt α} {w : World} {b o : Nat} {c : Nat} {l : List α} (h : Rd E w (some ⟨b, o, none⟩) c l) (i : Nat) (hi : i < l.length) : w.rangeAt b (o + i * E.k) (E.enc l[i]) := fun j v hv => by
  obtain ⟨b', o', e, _, hc⟩ := h.cells i hi
  cases e
  exact hc j v hv
theorem one_all {α : Type} (E : Elt α) (v : α) : (E.enc v).toArray.all (·.oneCell') = true := all_oneCell_toArray (fun x hx => E.one v x hx)
section
variable {P : Program}
/-- into a variable -/
theorem wp_stV {α : Type} {E : Elt α} {op : Oper} {a : Act} {w : World} {K : Act → World → Prop} {Q : Exit → Act → World → Prop} (e : TypeId) (x y : Operand) (ho : op.op = .store e x y)
    (hi : (P.info? e).map (·.size) = some E.k) (g : Nat) (cs : Array Value) (hl : Lv w g cs e) (hs : cs.size = E.k) (v : α) (hx : a.eval x = .pointer (some ⟨g, 0, none⟩)) (hy : a.eval y = .agg (E.enc v).toArray)
    (h : ∀ w', Lv w' g (E.enc v).toArray e → Kp g w w' → K (a.put op.dst undef) w') : op.wp P a w K Q := by
  have hsz : (E.enc v).toArray.size = E.k := by simp [E.len]
  refine wp_store_mid e x y ho g 0 (E.enc v).toArray hx hy (by rw [hsz, ← hs]; exact there_of hl 0 cs.size (by omega)) (by rw [hsz]; exact hi) (one_all E v) (h _ ?_ (Kp.setCells _ _ _ _))
  have h1 := heap_setCells (E.enc v).toArray.toList w g 0 cs e hl
  have h2 : putA cs 0 (E.enc v).toArray.toList = (E.enc v).toArray := by
    apply Array.toList_inj.1
    rw [putA_toList]
    have := putL_mid (E.enc v) cs.toList [] [] (by rw [E.len, Array.length_toList, hs])
    simpa using this
  rw [h2] at h1
  exact h1
theorem wpList_stV {α : Type} {E : Elt α} {ops : Array Oper} {rest : List Oper} {op : Oper} {a : Act} {w : World} {Q : Exit → Act → World → Prop} (hgd : op.guard = none) (e : TypeId) (x y : Operand) (ho : op.op = .store e x y)
    (hi : (P.info? e).map (·.size) = some E.k) (g : Nat) (cs : Array Value) (hl : Lv w g cs e) (hs : cs.size = E.k) (v : α) (hx : a.eval x = .pointer (some ⟨g, 0, none⟩)) (hy : a.eval y = .agg (E.enc v).toArray)
    (h : ∀ w', Lv w' g (E.enc v).toArray e → Kp g w w' → wpList P ops Q rest (a.put op.dst undef) w') : wpList P ops Q (op :: rest) a w :=
  wpList_plain hgd fun _ hK => wp_stV e x y ho hi g cs hl hs v hx hy fun w' h1 h2 => hK _ _ (h w' h1 h2)
/-- into an own row -/
theorem wp_stR {α : Type} {E : Elt α} {op : Oper} {a : Act} {w : World} {K : Act → World → Prop} {Q : Exit → Act → World → Prop} (e : TypeId) (x y : Operand) (ho : op.op = .store e x y)
    (hi : (P.info? e).map (·.size) = some E.k) (base g c : Nat) (l : List α) (hown : Own E w base e (some ⟨g, 0, none⟩) c l) (k : Nat) (hk : k < l.length) (O : Nat) (hO : O = k * E.k) (v : α) (hx : a.eval x = .pointer (some ⟨g, O, none⟩)) (hy : a.eval y = .agg (E.enc v).toArray)
    (h : ∀ w', Own E w' base e (some ⟨g, 0, none⟩) c (l.set k v) → Kp g w w' → K (a.put op.dst undef) w') : op.wp P a w K Q := by
  subst hO
  have hsz : (E.enc v).toArray.size = E.k := by simp [E.len]
  have hkk : k * E.k + E.k ≤ l.length * E.k := by
    rw [← Nat.succ_mul]; exact Nat.mul_le_mul_right _ hk
  rcases hown.2 with ⟨h1, _⟩ | ⟨g', cap, cur, h1, h2, h3, h4, h5, h6, h7⟩
  · simp at h1
  · simp only [Value.slice.injEq, Option.some.injEq, Addr.mk.injEq, and_true, true_and] at h1
    obtain ⟨rfl, rfl⟩ := h1
    have hc : c * E.k = cur.size := h6.symm
    have hlc : l.length * E.k ≤ c * E.k := Nat.mul_le_mul_right _ h4
    refine wp_store_mid e x y ho g _ (E.enc v).toArray hx hy (by rw [hsz]; exact there_of h3 _ _ (by omega)) (by rw [hsz]; exact hi) (one_all E v) (h _ ?_ (Kp.setCells _ _ _ _))
    have h9 := heap_setCells (E.enc v).toArray.toList w g (k * E.k) cur e h3
    refine ⟨fl_length E _, .inr ⟨g, c, _, by simp, h2, h9, by simpa using h4, h5, ?_, ?_⟩⟩
    · rw [← Array.length_toList, putA_toList, putL_length, Array.length_toList, h6]
    · rw [putA_toList, List.length_set, putL_take, h7]
      exact putL_fl E v l k hk
theorem wpList_stR {α : Type} {E : Elt α} {ops : Array Oper} {rest : List Oper} {op : Oper} {a : Act} {w : World} {Q : Exit → Act → World → Prop} (hgd : op.guard = none) (e : TypeId) (x y : Operand) (ho : op.op = .store e x y)
    (hi : (P.info? e).map (·.size) = some E.k) (base g c : Nat) (l : List α) (hown : Own E w base e (some ⟨g, 0, none⟩) c l) (k : Nat) (hk : k < l.length) (O : Nat) (hO : O = k * E.k) (v : α) (hx : a.eval x = .pointer (some ⟨g, O, none⟩)) (hy : a.eval y = .agg (E.enc v).toArray)
    (h : ∀ w', Own E w' base e (some ⟨g, 0, none⟩) c (l.set k v) → Kp g w w' → wpList P ops Q rest (a.put op.dst undef) w') : wpList P ops Q (op :: rest) a w :=
  wpList_plain hgd fun _ hK => wp_stR e x y ho hi base g c l hown k hk O hO v hx hy fun w' h1 h2 => hK _ _ (h w' h1 h2)
/-- .. in a region that draws its order -/
theorem step_stR {α : Type} {E : Elt α} {ops : Array Oper} {o : Oper} {a : Act} {w : World} {K : Act → World → Prop} {Q : Exit → Act → World → Prop} {G : Prop} (hgd : o.guard = none) (e : TypeId) (x y : Operand) (ho : o.op = .store e x y)
    (hi : (P.info? e).map (·.size) = some E.k) (base g c : Nat) (l : List α) (hown : Own E w base e (some ⟨g, 0, none⟩) c l) (k : Nat) (hk : k < l.length) (O : Nat) (hO : O = k * E.k) (v : α) (hx : a.eval x = .pointer (some ⟨g, O, none⟩)) (hy : a.eval y = .agg (E.enc v).toArray)
    (h : ∀ w', Own E w' base e (some ⟨g, 0, none⟩) c (l.set k v) → Kp g w w' → K (a.put o.dst undef) w') :
    if Region.wanted o (yielded ops a.tmps) = true then Oper.wp P o a w K Q else G := by
  have hw : Region.wanted o (yielded ops a.tmps) = true := by simp [Region.wanted, hgd]
  rw [if_pos hw]
  exact wp_stR e x y ho hi base g c l hown k hk O hO v hx hy h
theorem step_stV {α : Type} {E : Elt α} {ops : Array Oper} {o : Oper} {a : Act} {w : World} {K : Act → World → Prop} {Q : Exit → Act → World → Prop} {G : Prop} (hgd : o.guard = none) (e : TypeId) (x y : Operand) (ho : o.op = .store e x y)
    (hi : (P.info? e).map (·.size) = some E.k) (g : Nat) (cs : Array Value) (hl : Lv w g cs e) (hs : cs.size = E.k) (v : α) (hx : a.eval x = .pointer (some ⟨g, 0, none⟩)) (hy : a.eval y = .agg (E.enc v).toArray)
    (h : ∀ w', Lv w' g (E.enc v).toArray e → Kp g w w' → K (a.put o.dst undef) w') :
    if Region.wanted o (yielded ops a.tmps) = true then Oper.wp P o a w K Q else G := by
  have hw : Region.wanted o (yielded ops a.tmps) = true := by simp [Region.wanted, hgd]
  rw [if_pos hw]
  exact wp_stV e x y ho hi g cs hl hs v hx hy h
end
theorem size58 : (Try.prog.info? 58).map (·.size) = some eT.k := by kernel_rfl
theorem size56 : (Try.prog.info? 56).map (·.size) = some eT.k := by kernel_rfl
theorem load58 {w : World} {g : Nat} {x : Tc} (h : Vt w g x 58) : (loadVar 58 ⟨g, 0, none⟩).run Try.prog w = .ok (.agg #[.int .i64 x.k, .int .i64 x.a, .int .i64 x.g, .int .i64 x.c, .int .i64 x.h, .slice x.lp x.ln x.lc, .slice x.wp x.wn x.wc, .int .u32 (x.b : Int), .slice x.fp x.fn x.fc, .int .u32 (x.s : Int)]) w :=
  run_loadVar_mid w g 0 58 (tcs x) _ (rng_of h) Try.underlying58 rfl size58
theorem load56 {w : World} {g : Nat} {x : Tc} (h : Vt w g x 56) : (loadVar 56 ⟨g, 0, none⟩).run Try.prog w = .ok (.agg #[.int .i64 x.k, .int .i64 x.a, .int .i64 x.g, .int .i64 x.c, .int .i64 x.h, .slice x.lp x.ln x.lc, .slice x.wp x.wn x.wc, .int .u32 (x.b : Int), .slice x.fp x.fn x.fc, .int .u32 (x.s : Int)]) w :=
  run_loadVar_mid w g 0 56 (tcs x) _ (rng_of h) Try.underlying56 rfl size56
/-- tables: three slices of twelve -/
structure Tw where
  gp : Option Addr
  gc : Nat
  ip : Option Addr
  ic : Nat
  tp : Option Addr
  tc : Nat
def eTb : Elt Tw := ⟨3, fun x => [.slice x.gp 12 x.gc, .slice x.ip 12 x.ic, .slice x.tp 12 x.tc], fun _ => rfl, by intro x v hv; simp at hv; rcases hv with rfl | rfl | rfl <;> rfl, by decide⟩
def Vw (w : World) (g : Nat) (x : Tw) (e : TypeId) : Prop := Lv w g #[.slice x.gp 12 x.gc, .slice x.ip 12 x.ic, .slice x.tp 12 x.tc] e
theorem Vw.below {w w' : World} {g : Nat} {x : Tw} {e : TypeId} (h : Vw w g x e) (hb : Below w.heap.size w w') : Vw w' g x e := Lv.below h hb
theorem Vw.lt {w : World} {g : Nat} {x : Tw} {e : TypeId} (h : Vw w g x e) : g < w.heap.size := Lv.lt h
theorem Vw.new (w : World) (x : Tw) (e : TypeId) : Vw (w.alloc (.cells #[.slice x.gp 12 x.gc, .slice x.ip 12 x.ic, .slice x.tp 12 x.tc] e)) w.heap.size x e := Lv.new _ _ _
theorem Vw.at {w : World} {g : Nat} {x : Tw} {e : TypeId} (h : Vw w g x e) : w.cell? ⟨g, 0, none⟩ = some (.slice x.gp 12 x.gc) ∧ w.cell? ⟨g, 1, none⟩ = some (.slice x.ip 12 x.ic) ∧ w.cell? ⟨g, 2, none⟩ = some (.slice x.tp 12 x.tc) := ⟨Lv.c h 0 rfl, Lv.c h 1 rfl, Lv.c h 2 rfl⟩
theorem Vw.fz {w : World} {g : Nat} {x : Tw} {e : TypeId} (h : Vw w g x e) : w.frozen? ⟨g, 0, none⟩ = false ∧ w.frozen? ⟨g, 1, none⟩ = false ∧ w.frozen? ⟨g, 2, none⟩ = false := ⟨Lv.fz h 0, Lv.fz h 1, Lv.fz h 2⟩
theorem size30 : (Try.prog.info? 30).map (·.size) = some eTb.k := by kernel_rfl
theorem size35 : (Try.prog.info? 35).map (·.size) = some eTb.k := by kernel_rfl
theorem load30 {w : World} {g : Nat} {x : Tw} (h : Vw w g x 30) : (loadVar 30 ⟨g, 0, none⟩).run Try.prog w = .ok (.agg #[.slice x.gp 12 x.gc, .slice x.ip 12 x.ic, .slice x.tp 12 x.tc]) w :=
  run_loadVar_mid w g 0 30 (eTb.enc x) _ (rng_of h) Try.underlying30 rfl size30
theorem load35 {w : World} {g : Nat} {x : Tw} (h : Vw w g x 35) : (loadVar 35 ⟨g, 0, none⟩).run Try.prog w = .ok (.agg #[.slice x.gp 12 x.gc, .slice x.ip 12 x.ic, .slice x.tp 12 x.tc]) w :=
  run_loadVar_mid w g 0 35 (eTb.enc x) _ (rng_of h) Try.underlying35 rfl size35
theorem own_some {α : Type} {E : Elt α} {w : World} {base : Nat} {e : TypeId} {p : Option Addr} {c : Nat} {l : List α} (h : Own E w base e p c l) (hl : 0 < l.length) : ∃ g, p = some ⟨g, 0, none⟩ := by
  rcases h.2 with ⟨h1, _⟩ | ⟨g, cap, cur, h1, _⟩
  · simp only [Value.slice.injEq] at h1; omega
  · simp only [Value.slice.injEq] at h1; exact ⟨g, h1.1⟩
theorem wpList_fresh {α : Type} {P : Program} {E : Elt α} {t e : TypeId} (T : Ty P E t e) (w : World) {ops : Array Oper} {rest : List Oper} {o : Oper} {a : Act} {Q : Exit → Act → World → Prop} (hgd : o.guard = none) (s x : Operand)
    (ho : o.op = .call { callee := .builtin .append, args := #[s, x], argTypes := #[t, t] }) (base g : Nat) (h : Lv w g #[] e) (hb : base ≤ g) (hs : a.eval s = .slice (some ⟨g, 0, none⟩) 0 0)
    (q : Option Addr) (d : Nat) (m : List α) (N : Nat) (hN : m.length = N) (hx : a.eval x = .slice q N d) (hr : Rd E w q d m) (hlen : N ≤ 2000)
    (hK : ∀ p' c' w', Own E w' base e p' c' m → Below w.heap.size w w' → (p' = some ⟨g, 0, none⟩ ∨ Own E w' w.heap.size e p' c' m) → wpList P ops Q rest (a.put o.dst (.slice p' N c')) w') : wpList P ops Q (o :: rest) a w := by
  obtain ⟨p', c', w', hrun, h1, h2, h3⟩ := run_freshN T w o.type base g h hb q d m N hN hr hlen
  exact Lib.wpList_append_run w hgd s x t t ho _ _ hs hx _ _ hrun (hK p' c' w' h1 h2 h3)
theorem Vt.kp {w w' : World} {g h : Nat} {x : Tc} {e : TypeId} (hv : Vt w g x e) (hk : Kp h w w') (hne : g ≠ h) : Vt w' g x e := (hk.block g hv.lt (by intro e; cases e; exact hne rfl)).trans hv
theorem Lv.kp {w w' : World} {g h : Nat} {cs : Array Value} {e : TypeId} (hv : Lv w g cs e) (hk : Kp h w w') (hne : g ≠ h) : Lv w' g cs e := (hk.block g hv.lt (by intro e; cases e; exact hne rfl)).trans hv
theorem rd_kpF {α : Type} {E : Elt α} {w w' : World} {g : Nat} {p : Option Addr} {c : Nat} {l : List α} (h : Rd E w p c l) (hk : Kp g w w') (hf : Far p g) : Rd E w' p c l := rd_kp h hk (fun b o e _ => hf b o e)
theorem bel_kp {B g : Nat} {w w' w2 : World} (h : Below B w w') (hk : Kp g w' w2) (hg : B ≤ g) (hB : B ≤ w'.heap.size) : Below B w w2 := ⟨hk.os.trans h.os, hk.tape.trans h.tape, hk.output.trans h.output, Nat.le_trans h.size hk.size, fun i hi => (hk.block i (Nat.lt_of_lt_of_le hi hB) (by intro e; cases e; omega)).trans (h.block i hi)⟩
end Go.Proofs.Ytcncpefdjgnhdaa
