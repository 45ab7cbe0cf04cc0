/-
  A step of a machine, by the program.
-/
import Derived.Test.YtonholadabebbaaVmany
import Derived.WalkSpells
namespace Go.Proofs.Ytonholadabebbaa
open Go.ChangeShapes Go.WideShapes Go.ChangeAt Go.RowKit
attribute [local go_sem ↓] Go.wp_at_zero Go.wp_at_succ

theorem memA_len (x : In) (mem : List Int) : (memA x mem).length = mem.length := by
  unfold memA
  repeat (split; · simp)
  rfl
theorem nxt_memA (pc : Int) (x : In) (mem : List Int) : nxt pc x (memA x mem) = nxt pc x mem := by
  by_cases h : x.1 = 7
  · have e : memA x mem = mem := by unfold memA; simp [h]
    rw [e]
  · unfold nxt
    simp [h]
theorem repA_len (pc : Int) (x : In) (R : List Rp) : (repA pc x R).length ≤ R.length + 1 := by
  unfold repA
  split <;> simp
theorem repA_bd {pc : Int} {x : In} {R : List Rp} (hmy : mayB x = true) (hR : ∀ r ∈ R, -9223372036854775808 ≤ r.2.2 ∧ r.2.2 ≤ 9223372036854775807) : ∀ r ∈ repA pc x R, -9223372036854775808 ≤ r.2.2 ∧ r.2.2 ≤ 9223372036854775807 := by
  have hm2 := may_iff.1 hmy
  unfold mayP at hm2
  unfold repA
  split
  · intro r hr
    rcases List.mem_append.1 hr with h | h
    · exact hR r h
    · obtain rfl := List.mem_singleton.1 h
      simp only
      omega
  · exact hR
/-- a machine at block r on its way through a step of the program's: w the world at first -/
structure Vs (w : World) (r : Nat) (wl : World) (pc : Int) (mem : List Int) (q : Option Addr) (k d : Nat) (ov : Bool) (RL : List Rp) : Prop where
  M : Mc wl r pc mem q k d ov
  h4 : ∃ cs, cs.size = 11 ∧ wl.heap[r + 1]? = some (.cells cs 63 (0, 0))
  h5 : ∃ cs, cs.size = 4 ∧ wl.heap[r + 1 + 1]? = some (.cells cs 42 (0, 0))
  B : Below r w wl
  o : Own eRp wl (r + 3) 79 q d RL
section
variable {w : World} {r : Nat} {wl : World} {pc : Int} {mem : List Int} {q : Option Addr} {k d : Nat} {ov : Bool} {RL : List Rp}
theorem Vs.z (h : Vs w r wl pc mem q k d ov RL) : r + 3 ≤ wl.heap.size := by
  obtain ⟨c5, s5, e5⟩ := h.h5
  have := lt_of_block e5
  omega
theorem Vs.grow (h : Vs w r wl pc mem q k d ov RL) {w' : World} (hb : Below wl.heap.size wl w') : Vs w r w' pc mem q k d ov RL := by
  obtain ⟨c4, s4, e4⟩ := h.h4
  obtain ⟨c5, s5, e5⟩ := h.h5
  have hz := h.z
  exact ⟨h.M.below hb, ⟨c4, s4, (hb.block _ (by omega)).trans e4⟩, ⟨c5, s5, (hb.block _ (by omega)).trans e5⟩, h.B.trans (hb.mono (by omega)), own_below h.o hb⟩
/-- the copied row is the machine's -/
theorem Vs.first {w0 w2 : World} {R : List Rp} {q2 : Option Addr} {d2 : Nat} (hm : mem.length = 8) (hw0 : w0 = ((w.alloc (.cells (mcell pc mem q k d ov) 63)).alloc (.cells #[.int .i64 0, .int .i64 0, .int .i64 0, .int .i64 0, .int .i64 0, .int .i64 0, .int .i64 0, .int .i64 0, .int .i64 0, .slice none 0 0, .bool false] 63)).alloc (.cells #[.int .i64 0, .int .i64 0, .int .i64 0, .int .i64 0] 42)) (b2 : Below w0.heap.size w0 w2) (o2 : Own eRp w2 w0.heap.size 79 q2 d2 R) :
    Mc w2 w.heap.size pc mem q k d ov ∧ w.heap.size + 3 ≤ w2.heap.size ∧ Below w.heap.size w w2 ∧ Vs w w.heap.size (w2.setCell ⟨w.heap.size, 9, none⟩ (.slice q2 k d2)) pc mem q2 k d2 ov R := by
  have hz : w0.heap.size = w.heap.size + 3 := by rw [hw0]; simp
  have e3 : w0.heap[w.heap.size]? = some (.cells (mcell pc mem q k d ov) 63 (0, 0)) := by rw [hw0]; exact (Below.heap_alloc _ _ _ (by simp <;> omega)).trans ((Below.heap_alloc _ _ _ (by simp)).trans (heap_at rfl))
  have e4 : w0.heap[w.heap.size + 1]? = some (.cells #[.int .i64 0, .int .i64 0, .int .i64 0, .int .i64 0, .int .i64 0, .int .i64 0, .int .i64 0, .int .i64 0, .int .i64 0, .slice none 0 0, .bool false] 63) := by rw [hw0]; exact (Below.heap_alloc _ _ _ (by simp)).trans (heap_at (by simp))
  have e5 : w0.heap[w.heap.size + 1 + 1]? = some (.cells #[.int .i64 0, .int .i64 0, .int .i64 0, .int .i64 0] 42) := by rw [hw0]; exact heap_at (by simp)
  have b0 : Below w.heap.size w w0 := by rw [hw0]; exact (by repeat (first | exact Below.refl _ _ | refine Below.alloc ?_ (by simp <;> omega) _ | refine Below.setCell ?_ (by simp <;> omega) _))
  rw [hz] at b2 o2
  have M2 : Mc w2 w.heap.size pc mem q k d ov := ⟨(b2.block _ (by omega)).trans e3, hm⟩
  have hz2 := b2.size
  refine ⟨M2, by omega, b0.trans (b2.mono (by omega)), ?_⟩
  exact ⟨M2.s9 q2 k d2, ⟨_, rfl, (heap_setCell_other _ _ _ _ (by simp)).trans ((b2.block _ (by omega)).trans e4)⟩, ⟨_, rfl, (heap_setCell_other _ _ _ _ (by simp <;> omega)).trans ((b2.block _ (by omega)).trans e5)⟩, (b0.trans (b2.mono (by omega))).setCell (Nat.le_refl _) _, own_lowE o2 (by simp) _⟩
theorem Vs.mems (h : Vs w r wl pc mem q k d ov RL) {mem' : List Int} (hm : mem'.length = 8) : Vs w r (wl.setCells r 1 (cI mem').toList) pc mem' q k d ov RL := by
  obtain ⟨c4, s4, e4⟩ := h.h4
  obtain ⟨c5, s5, e5⟩ := h.h5
  exact ⟨h.M.mems hm, ⟨c4, s4, (setCells_other _ _ _ (by omega)).trans e4⟩, ⟨c5, s5, (setCells_other _ _ _ (by omega)).trans e5⟩, setCells_below (Nat.le_refl _) _ _ _ h.B, own_other h.o h.M.at_ (by decide) (fun b hb => setCells_other _ _ _ hb)⟩
/-- behind a call that leaves all but what is repeated -/
theorem Vs.call (h : Vs w r wl pc mem q k d ov RL) {w' : World} (hb : Below (r + 3) wl w') (hs : Stays wl w' q) {g : Nat} {cs : Array Value} (hg : wl.heap[g]? = some (.cells cs 42 (0, 0))) :
    (∃ cs, cs.size = 11 ∧ w'.heap[r + 1]? = some (.cells cs 63 (0, 0))) ∧ (∃ cs, cs.size = 4 ∧ w'.heap[r + 1 + 1]? = some (.cells cs 42 (0, 0))) ∧ Below r w w' ∧ w'.heap[g]? = some (.cells cs 42 (0, 0)) ∧ w'.heap[r]? = wl.heap[r]? := by
  obtain ⟨c4, s4, e4⟩ := h.h4
  obtain ⟨c5, s5, e5⟩ := h.h5
  exact ⟨⟨c4, s4, (hb.block _ (by omega)).trans e4⟩, ⟨c5, s5, (hb.block _ (by omega)).trans e5⟩, h.B.trans (hb.mono (by omega)), (hs g (lt_of_block hg) (own_apart h.o hg (by decide))).trans hg, hb.block _ (by omega)⟩
end

end Go.Proofs.Ytonholadabebbaa
