/-
  Put together:
  Where a machine is behind an instruction, by the program.
  Where a machine is behind a Rep, by the program.
  What is repeated is looked at, by the program.
  What is repeated is looked at, by the program: the walk.
  A machine's row of what is repeated, copied; memories behind an instruction, by the program.
  Where a machine is behind an instruction, by the program, whichever it is.
  A step of a machine, by the program.
-/
import Derived.Test.YtonholadabebbaaStepl
import Derived.WalkSpells
import Derived.Lib.Overlaps
import Derived.Deep.MidRow
namespace Go.Proofs.Ytonholadabebbaa
open Go.ChangeShapes Go.WideShapes Go.ChangeAt Go.RowKit
attribute [local go_sem ↓] Go.wp_at_zero Go.wp_at_succ

theorem mcell_V {pc : Int} {mem : List Int} {q : Option Addr} {k d : Nat} {ov : Bool} {j : Nat} {V : Int} (hj : mem[j]? = some V) : (mcell pc mem q k d ov)[1 + j]? = some (.int .i64 V) := by
  obtain ⟨hl, rfl⟩ := List.getElem?_eq_some_iff.1 hj
  exact mcell_m hl

end Go.Proofs.Ytonholadabebbaa

namespace Go.Proofs.Ytonholadabebbaa
open Go.ChangeShapes Go.WideShapes Go.ChangeAt Go.RowKit
attribute [local go_sem ↓] Go.wp_at_zero Go.wp_at_succ

theorem own_other {α : Type} {E : Elt α} {w w' : World} {base g : Nat} {e t : TypeId} {p : Option Addr} {c : Nat} {l : List α} {cs : Array Value} {fr : Nat × Nat} (h : Own E w base e p c l) (hg : w.heap[g]? = some (.cells cs t fr)) (ht : t ≠ e) (hw : ∀ b, b ≠ g → w'.heap[b]? = w.heap[b]?) : Own E w' base e p c l := by
  refine ⟨h.1, ?_⟩
  rcases h.2 with hn | ⟨g1, cap, cur, h1, h2, h3, h4⟩
  · exact .inl hn
  · refine .inr ⟨g1, cap, cur, h1, h2, (hw g1 ?_).trans h3, h4⟩
    rintro rfl
    rw [hg] at h3
    simp only [Option.some.injEq, Obj.cells.injEq] at h3
    exact ht h3.2.1
theorem Stays.trans {a b c : World} {p : Option Addr} (h : Stays a b p) (k : Stays b c p) (hs : a.heap.size ≤ b.heap.size) : Stays a c p := fun i hi hn => (k i (by omega) hn).trans (h i hi hn)
theorem stays_of_below {a b : World} {p : Option Addr} (h : Below a.heap.size a b) : Stays a b p := fun i hi _ => h.block i hi
/-- what follows of an append to what is repeated: the machine's variable at block r, new since w, what is told at r + 2 -/
theorem rep9 {w W w7 : World} {pc : Int} {mem : List Int} {q p7 : Option Addr} {k d c7 base : Nat} {R RL : List Rp} {Z : Array Value} {kk : Nat} (hm : mem.length = 8) (oR : Own eRp w base 79 q d R) (hbz : base ≤ w.heap.size)
    (hB : Below w.heap.size w W) (h3 : W.heap[w.heap.size]? = some (.cells (mcell pc mem q k d false) 63 (0, 0))) (h4 : W.heap[w.heap.size + 1 + 1]? = some (.cells Z 63 (0, 0)))
    (b7 : Below base W w7) (st7 : Stays W w7 q) (o7 : Own eRp w7 base 79 p7 c7 RL) :
    Mc w7 w.heap.size pc mem q k d false ∧ w7.heap[w.heap.size + 1 + 1]? = some (.cells Z 63 (0, 0)) ∧ (w7.setCell ⟨w.heap.size, 9, none⟩ (.slice p7 kk c7)).heap[w.heap.size + 1 + 1]? = some (.cells Z 63 (0, 0)) ∧
    ∀ cs, Own eRp ((w7.setCell ⟨w.heap.size, 9, none⟩ (.slice p7 kk c7)).setRow (w.heap.size + 1 + 1) cs) base 79 p7 c7 RL ∧ Below base w ((w7.setCell ⟨w.heap.size, 9, none⟩ (.slice p7 kk c7)).setRow (w.heap.size + 1 + 1) cs) ∧ Stays w ((w7.setCell ⟨w.heap.size, 9, none⟩ (.slice p7 kk c7)).setRow (w.heap.size + 1 + 1) cs) q := by
  have hne : ∀ i, w.heap.size ≤ i → ∀ g, q = some ⟨g, 0, none⟩ → i ≠ g := fun i hi g e => by
    have := (own_blk oR g e).2
    omega
  have hz3 := lt_of_block h3
  have hz4 := lt_of_block h4
  have k3 : w7.heap[w.heap.size]? = _ := (st7 _ hz3 (hne _ (Nat.le_refl _))).trans h3
  have k4 : w7.heap[w.heap.size + 1 + 1]? = _ := (st7 _ hz4 (hne _ (by omega))).trans h4
  have k5 : (w7.setCell ⟨w.heap.size, 9, none⟩ (.slice p7 kk c7)).heap[w.heap.size + 1 + 1]? = _ := (heap_setCell_other _ _ _ _ (by simp <;> omega)).trans k4
  refine ⟨⟨k3, hm⟩, k4, k5, fun cs => ⟨?_, ?_, ?_⟩⟩
  · exact own_other (own_other o7 k3 (by decide) (fun b hb => heap_setCell_other _ _ _ _ (by simpa using hb))) k5 (by decide) (fun b hb => setRow_other _ _ _ _ hb)
  · exact below_setRow (((hB.mono hbz).trans b7).setCell (by simpa using hbz) _) (by omega) _
  · intro b hb hn
    refine (setRow_other _ _ _ _ (by omega)).trans ((heap_setCell_other _ _ _ _ (by simp; omega)).trans ((st7 b ?_ hn).trans (hB.block b hb)))
    exact Nat.lt_of_lt_of_le hb hB.size
end Go.Proofs.Ytonholadabebbaa

namespace Go.Proofs.Ytonholadabebbaa
open Go.ChangeShapes Go.WideShapes Go.ChangeAt Go.RowKit
attribute [local go_sem ↓] Go.wp_at_zero Go.wp_at_succ

theorem own_left {w : World} {base : Nat} {p : Option Addr} {c : Nat} {L : List Rp} {A B C : Int} {m : Nat} (hm : L.length = m) (h : Own eRp w base 79 p c (L ++ [(A, B, C)])) :
    ∃ b cs, p = some ⟨b, 0, none⟩ ∧ base ≤ b ∧ b < w.heap.size ∧ w.heap[b]? = some (.cells cs 79 (0, 0)) ∧ w.cell? ⟨b, m * 3, none⟩ = some (.int .i64 A) ∧ w.cell? ⟨b, m * 3 + 1, none⟩ = some (.int .i64 B) ∧ w.cell? ⟨b, m * 3 + 2, none⟩ = some (.int .i64 C) ∧ ∀ v, Own eRp (w.setCell ⟨b, m * 3 + 2, none⟩ (.int .i64 v)) base 79 p c (L ++ [(A, B, v)]) := by
  have hlen : (L ++ [(A, B, C)]).length = m + 1 := by simp [hm]
  obtain ⟨b', o', e', _, a0, a1, a2⟩ := (own_rd h).rep m (by omega)
  have hx : (L ++ [(A, B, C)])[m]'(by omega) = (A, B, C) := by
    rw [List.getElem_append_right (by omega)]
    simp [hm]
  rw [hx] at a0 a1 a2
  rcases h.2 with ⟨h1, h2⟩ | ⟨g, cap, cur, h1, h2, h3, h4, h5, h6, h7⟩
  · simp only [Value.slice.injEq] at h1
    omega
  · simp only [Value.slice.injEq, true_and] at h1
    obtain ⟨rfl, rfl⟩ := h1
    obtain ⟨rfl, rfl⟩ : g = b' ∧ 0 = o' := by simpa using e'
    clear e'
    simp only [Nat.zero_add] at a0 a1 a2
    refine ⟨g, cur, rfl, h2, (Array.getElem?_eq_some_iff.1 h3).1, h3, a0, a1, a2, fun v => ?_⟩
    unfold Own
    have hl2 : (L ++ [(A, B, v)]).length = (L ++ [(A, B, C)]).length := by simp
    rw [hl2]
    refine ⟨by rw [fl_length, hl2], .inr ⟨g, c, cur.setIfInBounds (m * 3 + 2) (.int .i64 v), rfl, h2, ?_, by simpa using h4, h5, by simpa using h6, ?_⟩⟩
    · rw [setCell_eq_setRow w g _ _ _ _ _ h3]
      exact setRow_heap w g _ _ _ _ h3
    · have e1 : fl eRp (L ++ [(A, B, v)]) = (fl eRp (L ++ [(A, B, C)])).set (m * 3 + 2) (.int .i64 v) := by
        rw [fl_append, fl_append, List.set_append_right _ _ (by rw [fl_length, hm]; show m * 3 ≤ _; omega), fl_length, hm]
        show _ = fl eRp L ++ List.set (fl eRp [(A, B, C)]) (m * 3 + 2 - m * 3) _
        rw [show m * 3 + 2 - m * 3 = 2 by omega]
        rfl
      rw [e1, ← h7, Array.toList_setIfInBounds, List.take_set]
/-- on the way of the look at what is repeated: the machine at block r, what is told at r + 1 -/
structure Rw (w : World) (base r : Nat) (wr : World) (pc : Int) (mem : List Int) (q : Option Addr) (k d : Nat) (ov : Bool) (RL : List Rp) : Prop where
  M : Mc wr r pc mem q k d ov
  z : ∃ cs, cs.size = 11 ∧ wr.heap[r + 1]? = some (.cells cs 63 (0, 0))
  o : Own eRp wr base 79 q d RL
  B : Below base w wr
  S : Stays w wr q
  r : w.heap.size ≤ r ∧ base ≤ w.heap.size
section
variable {w wr : World} {base r : Nat} {pc : Int} {mem : List Int} {q : Option Addr} {k d : Nat} {ov : Bool} {RL : List Rp}
theorem Rw.draws (h : Rw w base r wr pc mem q k d ov RL) (n : Nat) : Rw w base r (wr.drewN n) pc mem q k d ov RL := by
  have b : Below wr.heap.size wr (wr.drewN n) := bel_draws (Below.refl _ _) n
  obtain ⟨cs, h1, h2⟩ := h.z
  exact ⟨h.M.below b, ⟨cs, h1, (b.block _ (lt_of_block h2)).trans h2⟩, own_below h.o b, h.B.trans (b.mono (Nat.le_trans h.r.2 (Nat.le_trans h.r.1 (Nat.le_of_lt h.M.lt)))), fun i hi hn => (b.block i (Nat.lt_of_lt_of_le hi (Nat.le_trans h.r.1 (Nat.le_of_lt h.M.lt)))).trans (h.S i hi hn), h.r⟩
theorem Rw.s0 (h : Rw w base r wr pc mem q k d ov RL) (v : Int) : Rw w base r (wr.setCell ⟨r, 0, none⟩ (.int .i64 v)) v mem q k d ov RL := by
  obtain ⟨cs, h1, h2⟩ := h.z
  exact ⟨h.M.s0 v, ⟨cs, h1, (heap_setCell_other _ _ _ _ (by simp)).trans h2⟩, own_other h.o h.M.at_ (by decide) (fun b hb => heap_setCell_other _ _ _ _ (by simpa using hb)), h.B.setCell (Nat.le_trans h.r.2 h.r.1) _, fun i hi hn => (heap_setCell_other _ _ _ _ (by have := h.r.1; simp; omega)).trans (h.S i hi hn), h.r⟩
theorem Rw.s9 (h : Rw w base r wr pc mem q k d ov RL) {k' : Nat} {RL' : List Rp} (ho : Own eRp wr base 79 q d RL') : Rw w base r (wr.setCell ⟨r, 9, none⟩ (.slice q k' d)) pc mem q k' d ov RL' := by
  obtain ⟨cs, h1, h2⟩ := h.z
  exact ⟨h.M.s9 q k' d, ⟨cs, h1, (heap_setCell_other _ _ _ _ (by simp)).trans h2⟩, own_other ho h.M.at_ (by decide) (fun b hb => heap_setCell_other _ _ _ _ (by simpa using hb)), h.B.setCell (Nat.le_trans h.r.2 h.r.1) _, fun i hi hn => (heap_setCell_other _ _ _ _ (by have := h.r.1; simp; omega)).trans (h.S i hi hn), h.r⟩
/-- a store into what is repeated -/
theorem Rw.row {b j : Nat} {v : Value} {cs : Array Value} {RL' : List Rp} (h : Rw w base r wr pc mem (some ⟨b, 0, none⟩) k d ov RL) (hb : base ≤ b) (hrow : wr.heap[b]? = some (.cells cs 79 (0, 0))) (ho : Own eRp (wr.setCell ⟨b, j, none⟩ v) base 79 (some ⟨b, 0, none⟩) d RL') : Rw w base r (wr.setCell ⟨b, j, none⟩ v) pc mem (some ⟨b, 0, none⟩) k d ov RL' := by
  obtain ⟨zs, h1, h2⟩ := h.z
  have n1 : r ≠ b := by
    rintro rfl
    have := h.M.at_
    rw [hrow] at this
    simp at this
  have n2 : r + 1 ≠ b := by
    rintro rfl
    rw [hrow] at h2
    simp at h2
  exact ⟨h.M.block (heap_setCell_other _ _ _ _ (by simpa using n1)), ⟨zs, h1, (heap_setCell_other _ _ _ _ (by simpa using n2)).trans h2⟩, ho, h.B.setCell hb _, fun i hi hn => (heap_setCell_other _ _ _ _ (by simpa using hn b rfl)).trans (h.S i hi hn), h.r⟩
theorem Rw.fin (h : Rw w base r wr pc mem q k d ov RL) (cs : Array Value) : Own eRp (wr.setRow (r + 1) cs) base 79 q d RL ∧ Below base w (wr.setRow (r + 1) cs) ∧ Stays w (wr.setRow (r + 1) cs) q := by
  obtain ⟨zs, h1, h2⟩ := h.z
  exact ⟨own_other h.o h2 (by decide) (fun b hb => setRow_other _ _ _ _ hb), below_setRow h.B (by have := h.r; omega) _, fun i hi hn => (setRow_other _ _ _ _ (by have := h.r; omega)).trans (h.S i hi hn)⟩
end
end Go.Proofs.Ytonholadabebbaa

namespace Go.Proofs.Ytonholadabebbaa
open Go.ChangeShapes Go.WideShapes Go.ChangeAt Go.RowKit
attribute [local go_sem ↓] Go.wp_at_zero Go.wp_at_succ

end Go.Proofs.Ytonholadabebbaa

namespace Go.Proofs.Ytonholadabebbaa
open Go.ChangeShapes Go.WideShapes Go.ChangeAt Go.RowKit
attribute [local go_sem ↓] Go.wp_at_zero Go.wp_at_succ

def cI (l : List Int) : Array Value := (l.map (Value.int .i64)).toArray
theorem cI_size (l : List Int) : (cI l).size = l.length := by simp [cI]
theorem cI_set (l : List Int) (k : Nat) (v : Int) : (cI l).setIfInBounds k (.int .i64 v) = cI (l.set k v) := by simp [cI, List.map_set]
theorem cI_get {l : List Int} {k : Nat} (h : k < l.length) : (cI l)[k]? = some (.int .i64 l[k]) := by simp [cI, List.getElem?_eq_getElem h]
theorem cI_one (l : List Int) : (cI l).all (·.oneCell') = true := by
  rw [Array.all_eq_true_iff_forall_mem]
  intro v hv
  simp [cI] at hv
  obtain ⟨x, _, rfl⟩ := hv
  rfl
theorem info24 : (Try.prog.info? 60).map (·.size) = some 8 := by kernel_rfl
theorem at_setI {mem : List Int} {w : World} {b j : Nat} {v : Int} (h : w.heap[b]? = some (.cells (cI mem) 60 (0, 0))) : (w.setCell ⟨b, j, none⟩ (.int .i64 v)).heap[b]? = some (.cells (cI (mem.set j v)) 60 (0, 0)) := by
  rw [heap_setCell_same _ _ _ _ _ _ h, cI_set]
theorem at_other {w : World} {b c j : Nat} {o : Obj} {v : Value} (h : w.heap[c]? = some o) (hne : c ≠ b) : (w.setCell ⟨b, j, none⟩ v).heap[c]? = some o := (heap_setCell_other _ _ _ _ (by simpa using hne)).trans h
theorem cI_getV {mem : List Int} {j : Nat} {V : Int} (hj : mem[j]? = some V) : (cI mem)[j]? = some (.int .i64 V) := by
  obtain ⟨hl, rfl⟩ := List.getElem?_eq_some_iff.1 hj
  exact cI_get hl
theorem cI_cell {mem : List Int} {w : World} {b j : Nat} {V : Int} (h : w.heap[b]? = some (.cells (cI mem) 60 (0, 0))) (hj : mem[j]? = some V) : w.cell? ⟨b, j, none⟩ = some (.int .i64 V) := by
  obtain ⟨hl, rfl⟩ := List.getElem?_eq_some_iff.1 hj
  rw [cell_of_row _ _ _ _ _ _ h]
  exact cI_get hl

end Go.Proofs.Ytonholadabebbaa

namespace Go.Proofs.Ytonholadabebbaa
open Go.ChangeShapes Go.WideShapes Go.ChangeAt Go.RowKit
attribute [local go_sem ↓] Go.wp_at_zero Go.wp_at_succ

/-- the memories are others -/
theorem eight {m : List Int} (h : m.length = 8) : ∃ a b c d e f g i, m = [a, b, c, d, e, f, g, i] := by
  match m, h with
  | [a, b, c, d, e, f, g, i], _ => exact ⟨a, b, c, d, e, f, g, i, rfl⟩
theorem Mc.mems {w : World} {b : Nat} {pc : Int} {mem mem' : List Int} {q : Option Addr} {k d : Nat} {ov : Bool} (h : Mc w b pc mem q k d ov) (hm : mem'.length = 8) : Mc (w.setCells b 1 (cI mem').toList) b pc mem' q k d ov := by
  obtain ⟨a0, a1, a2, a3, a4, a5, a6, a7, rfl⟩ := eight hm
  obtain ⟨c0, c1, c2, c3, c4, c5, c6, c7, rfl⟩ := eight h.len
  exact (((((((h.sm (j := 0) (by decide) a0).sm (j := 1) (by decide) a1).sm (j := 2) (by decide) a2).sm (j := 3) (by decide) a3).sm (j := 4) (by decide) a4).sm (j := 5) (by decide) a5).sm (j := 6) (by decide) a6).sm (j := 7) (by decide) a7
theorem setCells_other {b : Nat} : ∀ (vs : List Value) (w : World) (o : Nat) {g : Nat}, g ≠ b → (w.setCells b o vs).heap[g]? = w.heap[g]?
  | [], _, _, _, _ => rfl
  | v :: r, w, o, g, h => by
    rw [World.setCells]
    exact (setCells_other r _ _ h).trans (heap_setCell_other _ _ _ _ (by simpa using h))
theorem setCells_below {b B : Nat} {w0 : World} (hB : B ≤ b) : ∀ (vs : List Value) (w : World) (o : Nat), Below B w0 w → Below B w0 (w.setCells b o vs)
  | [], _, _, h => h
  | v :: r, w, o, h => by
    rw [World.setCells]
    exact setCells_below hB r _ _ (h.setCell hB _)
theorem setCells_size {b : Nat} : ∀ (vs : List Value) (w : World) (o : Nat), (w.setCells b o vs).heap.size = w.heap.size
  | [], _, _ => rfl
  | v :: r, w, o => by
    rw [World.setCells, setCells_size r]
    simp [World.setCell]
theorem Mc.range {w : World} {b : Nat} {pc : Int} {mem : List Int} {q : Option Addr} {k d : Nat} {ov : Bool} (h : Mc w b pc mem q k d ov) : w.rangeAt b 1 (cI mem).toList := by
  intro j v hv
  simp only [cI, List.getElem?_map] at hv
  cases hj : mem[j]? with
  | none => simp [hj] at hv
  | some V =>
    simp [hj] at hv
    subst hv
    obtain ⟨hl, rfl⟩ := List.getElem?_eq_some_iff.1 hj
    exact h.cm (by rw [← h.len]; exact hl)
theorem Mc.there {w : World} {b : Nat} {pc : Int} {mem : List Int} {q : Option Addr} {k d : Nat} {ov : Bool} (h : Mc w b pc mem q k d ov) : w.there b 1 8 := by
  intro j hj
  exact ⟨by rw [h.cm hj]; rfl, h.fr _⟩
end Go.Proofs.Ytonholadabebbaa

namespace Go.Proofs.Ytonholadabebbaa
open Go.ChangeShapes Go.WideShapes Go.ChangeAt Go.RowKit
attribute [local go_sem ↓] Go.wp_at_zero Go.wp_at_succ

theorem memA_len (x : In) (mem : List Int) : (memA x mem).length = mem.length := by
  unfold memA
  repeat (split; · simp)
  rfl
theorem nxt_memA (pc : Int) (x : In) (mem : List Int) : nxt pc x (memA x mem) = nxt pc x mem := by
  by_cases h : x.1 = 7
  · have e : memA x mem = mem := by unfold memA; simp [h]
    rw [e]
  · unfold nxt
    simp [h]
theorem repA_len (pc : Int) (x : In) (R : List Rp) : (repA pc x R).length ≤ R.length + 1 := by
  unfold repA
  split <;> simp
theorem repA_bd {pc : Int} {x : In} {R : List Rp} (hmy : mayB x = true) (hR : ∀ r ∈ R, -9223372036854775808 ≤ r.2.2 ∧ r.2.2 ≤ 9223372036854775807) : ∀ r ∈ repA pc x R, -9223372036854775808 ≤ r.2.2 ∧ r.2.2 ≤ 9223372036854775807 := by
  have hm2 := may_iff.1 hmy
  unfold mayP at hm2
  unfold repA
  split
  · intro r hr
    rcases List.mem_append.1 hr with h | h
    · exact hR r h
    · obtain rfl := List.mem_singleton.1 h
      simp only
      omega
  · exact hR
/-- a machine at block r on its way through a step of the program's: w the world at first -/
structure Vs (w : World) (r : Nat) (wl : World) (pc : Int) (mem : List Int) (q : Option Addr) (k d : Nat) (ov : Bool) (RL : List Rp) : Prop where
  M : Mc wl r pc mem q k d ov
  h4 : ∃ cs, cs.size = 11 ∧ wl.heap[r + 1]? = some (.cells cs 63 (0, 0))
  h5 : ∃ cs, cs.size = 4 ∧ wl.heap[r + 1 + 1]? = some (.cells cs 42 (0, 0))
  B : Below r w wl
  o : Own eRp wl (r + 3) 79 q d RL
section
variable {w : World} {r : Nat} {wl : World} {pc : Int} {mem : List Int} {q : Option Addr} {k d : Nat} {ov : Bool} {RL : List Rp}
theorem Vs.z (h : Vs w r wl pc mem q k d ov RL) : r + 3 ≤ wl.heap.size := by
  obtain ⟨c5, s5, e5⟩ := h.h5
  have := lt_of_block e5
  omega
theorem Vs.grow (h : Vs w r wl pc mem q k d ov RL) {w' : World} (hb : Below wl.heap.size wl w') : Vs w r w' pc mem q k d ov RL := by
  obtain ⟨c4, s4, e4⟩ := h.h4
  obtain ⟨c5, s5, e5⟩ := h.h5
  have hz := h.z
  exact ⟨h.M.below hb, ⟨c4, s4, (hb.block _ (by omega)).trans e4⟩, ⟨c5, s5, (hb.block _ (by omega)).trans e5⟩, h.B.trans (hb.mono (by omega)), own_below h.o hb⟩
/-- the copied row is the machine's -/
theorem Vs.first {w0 w2 : World} {R : List Rp} {q2 : Option Addr} {d2 : Nat} (hm : mem.length = 8) (hw0 : w0 = ((w.alloc (.cells (mcell pc mem q k d ov) 63)).alloc (.cells #[.int .i64 0, .int .i64 0, .int .i64 0, .int .i64 0, .int .i64 0, .int .i64 0, .int .i64 0, .int .i64 0, .int .i64 0, .slice none 0 0, .bool false] 63)).alloc (.cells #[.int .i64 0, .int .i64 0, .int .i64 0, .int .i64 0] 42)) (b2 : Below w0.heap.size w0 w2) (o2 : Own eRp w2 w0.heap.size 79 q2 d2 R) :
    Mc w2 w.heap.size pc mem q k d ov ∧ w.heap.size + 3 ≤ w2.heap.size ∧ Below w.heap.size w w2 ∧ Vs w w.heap.size (w2.setCell ⟨w.heap.size, 9, none⟩ (.slice q2 k d2)) pc mem q2 k d2 ov R := by
  have hz : w0.heap.size = w.heap.size + 3 := by rw [hw0]; simp
  have e3 : w0.heap[w.heap.size]? = some (.cells (mcell pc mem q k d ov) 63 (0, 0)) := by rw [hw0]; exact (Below.heap_alloc _ _ _ (by simp <;> omega)).trans ((Below.heap_alloc _ _ _ (by simp)).trans (heap_at rfl))
  have e4 : w0.heap[w.heap.size + 1]? = some (.cells #[.int .i64 0, .int .i64 0, .int .i64 0, .int .i64 0, .int .i64 0, .int .i64 0, .int .i64 0, .int .i64 0, .int .i64 0, .slice none 0 0, .bool false] 63) := by rw [hw0]; exact (Below.heap_alloc _ _ _ (by simp)).trans (heap_at (by simp))
  have e5 : w0.heap[w.heap.size + 1 + 1]? = some (.cells #[.int .i64 0, .int .i64 0, .int .i64 0, .int .i64 0] 42) := by rw [hw0]; exact heap_at (by simp)
  have b0 : Below w.heap.size w w0 := by rw [hw0]; exact (by repeat (first | exact Below.refl _ _ | refine Below.alloc ?_ (by simp <;> omega) _ | refine Below.setCell ?_ (by simp <;> omega) _))
  rw [hz] at b2 o2
  have M2 : Mc w2 w.heap.size pc mem q k d ov := ⟨(b2.block _ (by omega)).trans e3, hm⟩
  have hz2 := b2.size
  refine ⟨M2, by omega, b0.trans (b2.mono (by omega)), ?_⟩
  exact ⟨M2.s9 q2 k d2, ⟨_, rfl, (heap_setCell_other _ _ _ _ (by simp)).trans ((b2.block _ (by omega)).trans e4)⟩, ⟨_, rfl, (heap_setCell_other _ _ _ _ (by simp <;> omega)).trans ((b2.block _ (by omega)).trans e5)⟩, (b0.trans (b2.mono (by omega))).setCell (Nat.le_refl _) _, own_lowE o2 (by simp) _⟩
theorem Vs.mems (h : Vs w r wl pc mem q k d ov RL) {mem' : List Int} (hm : mem'.length = 8) : Vs w r (wl.setCells r 1 (cI mem').toList) pc mem' q k d ov RL := by
  obtain ⟨c4, s4, e4⟩ := h.h4
  obtain ⟨c5, s5, e5⟩ := h.h5
  exact ⟨h.M.mems hm, ⟨c4, s4, (setCells_other _ _ _ (by omega)).trans e4⟩, ⟨c5, s5, (setCells_other _ _ _ (by omega)).trans e5⟩, setCells_below (Nat.le_refl _) _ _ _ h.B, own_other h.o h.M.at_ (by decide) (fun b hb => setCells_other _ _ _ hb)⟩
/-- behind a call that leaves all but what is repeated -/
theorem Vs.call (h : Vs w r wl pc mem q k d ov RL) {w' : World} (hb : Below (r + 3) wl w') (hs : Stays wl w' q) {g : Nat} {cs : Array Value} (hg : wl.heap[g]? = some (.cells cs 42 (0, 0))) :
    (∃ cs, cs.size = 11 ∧ w'.heap[r + 1]? = some (.cells cs 63 (0, 0))) ∧ (∃ cs, cs.size = 4 ∧ w'.heap[r + 1 + 1]? = some (.cells cs 42 (0, 0))) ∧ Below r w w' ∧ w'.heap[g]? = some (.cells cs 42 (0, 0)) ∧ w'.heap[r]? = wl.heap[r]? := by
  obtain ⟨c4, s4, e4⟩ := h.h4
  obtain ⟨c5, s5, e5⟩ := h.h5
  exact ⟨⟨c4, s4, (hb.block _ (by omega)).trans e4⟩, ⟨c5, s5, (hb.block _ (by omega)).trans e5⟩, h.B.trans (hb.mono (by omega)), (hs g (lt_of_block hg) (own_apart h.o hg (by decide))).trans hg, hb.block _ (by omega)⟩
end

end Go.Proofs.Ytonholadabebbaa
