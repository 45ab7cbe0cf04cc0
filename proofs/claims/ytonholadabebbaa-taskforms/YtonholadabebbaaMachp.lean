/-
  A machine in memory.
-/
import Derived.Test.YtonholadabebbaaLows
import Derived.Test.YtonholadabebbaaPlains
namespace Go.Proofs.Ytonholadabebbaa
open Go.ChangeShapes Go.WideShapes Go.ChangeAt Go.RowKit
attribute [local go_sem ↓] Go.wp_at_zero Go.wp_at_succ

def mcell (pc : Int) (mem : List Int) (q : Option Addr) (k d : Nat) (ov : Bool) : Array Value := ([Value.int .i64 pc] ++ (mem.map (Value.int .i64) ++ [Value.slice q k d, Value.bool ov])).toArray
theorem mcell_size {pc : Int} {mem : List Int} {q : Option Addr} {k d : Nat} {ov : Bool} (h : mem.length = 8) : (mcell pc mem q k d ov).size = 11 := by simp [mcell, h]
theorem mcell_0 (pc : Int) (mem : List Int) (q : Option Addr) (k d : Nat) (ov : Bool) : (mcell pc mem q k d ov)[0]? = some (.int .i64 pc) := by simp [mcell]
theorem mcell_m {pc : Int} {mem : List Int} {q : Option Addr} {k d : Nat} {ov : Bool} {j : Nat} (hj : j < mem.length) : (mcell pc mem q k d ov)[1 + j]? = some (.int .i64 mem[j]) := by
  have e : 1 + j = j + 1 := by omega
  simp [mcell, e, List.getElem?_append_left, hj]
theorem mcell_9 {pc : Int} {mem : List Int} {q : Option Addr} {k d : Nat} {ov : Bool} (h : mem.length = 8) : (mcell pc mem q k d ov)[9]? = some (.slice q k d) := by
  simp [mcell, h]
theorem mcell_10 {pc : Int} {mem : List Int} {q : Option Addr} {k d : Nat} {ov : Bool} (h : mem.length = 8) : (mcell pc mem q k d ov)[10]? = some (.bool ov) := by
  simp [mcell, h]
theorem mset_0 (pc v : Int) (mem : List Int) (q : Option Addr) (k d : Nat) (ov : Bool) : (mcell pc mem q k d ov).setIfInBounds 0 (.int .i64 v) = mcell v mem q k d ov := by simp [mcell]
theorem mset_m {pc v : Int} {mem : List Int} {q : Option Addr} {k d : Nat} {ov : Bool} {j : Nat} (hj : j < mem.length) : (mcell pc mem q k d ov).setIfInBounds (1 + j) (.int .i64 v) = mcell pc (mem.set j v) q k d ov := by
  have e : 1 + j = j + 1 := by omega
  simp [mcell, e, List.set_append_left, hj, List.map_set]
theorem mset_9 {pc : Int} {mem : List Int} {q q' : Option Addr} {k d k' d' : Nat} {ov : Bool} (h : mem.length = 8) : (mcell pc mem q k d ov).setIfInBounds 9 (.slice q' k' d') = mcell pc mem q' k' d' ov := by
  simp [mcell, List.set_append_right, h]
theorem mset_10 {pc : Int} {mem : List Int} {q : Option Addr} {k d : Nat} {ov v : Bool} (h : mem.length = 8) : (mcell pc mem q k d ov).setIfInBounds 10 (.bool v) = mcell pc mem q k d v := by
  simp [mcell, List.set_append_right, h]
/-- the machine at block b -/
structure Mc (w : World) (b : Nat) (pc : Int) (mem : List Int) (q : Option Addr) (k d : Nat) (ov : Bool) : Prop where
  at_ : w.heap[b]? = some (.cells (mcell pc mem q k d ov) 63 (0, 0))
  len : mem.length = 8
section
variable {w : World} {b : Nat} {pc : Int} {mem : List Int} {q : Option Addr} {k d : Nat} {ov : Bool}
theorem Mc.lt (h : Mc w b pc mem q k d ov) : b < w.heap.size := lt_of_block h.at_
theorem Mc.c0 (h : Mc w b pc mem q k d ov) : w.cell? ⟨b, 0, none⟩ = some (.int .i64 pc) := by rw [cell_of_row _ _ _ _ _ _ h.at_]; exact mcell_0 _ _ _ _ _ _
theorem Mc.cm (h : Mc w b pc mem q k d ov) {j : Nat} (hj : j < 8) : w.cell? ⟨b, 1 + j, none⟩ = some (.int .i64 (mem[j]'(by rw [h.len]; exact hj))) := by rw [cell_of_row _ _ _ _ _ _ h.at_]; exact mcell_m _
theorem Mc.c9 (h : Mc w b pc mem q k d ov) : w.cell? ⟨b, 9, none⟩ = some (.slice q k d) := by rw [cell_of_row _ _ _ _ _ _ h.at_]; exact mcell_9 h.len
theorem Mc.c10 (h : Mc w b pc mem q k d ov) : w.cell? ⟨b, 10, none⟩ = some (.bool ov) := by rw [cell_of_row _ _ _ _ _ _ h.at_]; exact mcell_10 h.len
theorem Mc.fr (h : Mc w b pc mem q k d ov) (j : Nat) : w.frozen? ⟨b, j, none⟩ = false := frozen_of_row _ _ _ _ _ h.at_
theorem Mc.s0 (h : Mc w b pc mem q k d ov) (v : Int) : Mc (w.setCell ⟨b, 0, none⟩ (.int .i64 v)) b v mem q k d ov := ⟨by rw [heap_setCell_same _ _ _ _ _ _ h.at_, mset_0], h.len⟩
theorem Mc.sm (h : Mc w b pc mem q k d ov) {j : Nat} (hj : j < 8) (v : Int) : Mc (w.setCell ⟨b, 1 + j, none⟩ (.int .i64 v)) b pc (mem.set j v) q k d ov := ⟨by rw [heap_setCell_same _ _ _ _ _ _ h.at_, mset_m (by rw [h.len]; exact hj)], by simp [h.len]⟩
theorem Mc.s9 (h : Mc w b pc mem q k d ov) (q' : Option Addr) (k' d' : Nat) : Mc (w.setCell ⟨b, 9, none⟩ (.slice q' k' d')) b pc mem q' k' d' ov := ⟨by rw [heap_setCell_same _ _ _ _ _ _ h.at_, mset_9 h.len], h.len⟩
theorem Mc.s10 (h : Mc w b pc mem q k d ov) (v : Bool) : Mc (w.setCell ⟨b, 10, none⟩ (.bool v)) b pc mem q k d v := ⟨by rw [heap_setCell_same _ _ _ _ _ _ h.at_, mset_10 h.len], h.len⟩
theorem Mc.block (h : Mc w b pc mem q k d ov) {w' : World} (e : w'.heap[b]? = w.heap[b]?) : Mc w' b pc mem q k d ov := ⟨e.trans h.at_, h.len⟩
theorem Mc.below (h : Mc w b pc mem q k d ov) {w' : World} (hb : Below w.heap.size w w') : Mc w' b pc mem q k d ov := h.block (hb.block b h.lt)
end
def eRp : Elt Rp := ⟨3, fun x => [.int .i64 x.1, .int .i64 x.2.1, .int .i64 x.2.2], fun _ => rfl, by intro x v hv; simp at hv; rcases hv with rfl | rfl | rfl <;> rfl, by decide⟩
theorem Try.info79 : (Try.prog.info? 79).map (fun i => (i.zero, i.size, i.bytes)) = some (some (.agg #[.int .i64 0, .int .i64 0, .int .i64 0]), 3, 24) := by kernel_rfl
theorem tRp : Ty Try.prog eRp 61 79 := by
  obtain ⟨i, hi, h0, h1, h2⟩ := info_parts Try.info79
  exact ⟨Try.underlying61, i, _, hi, h0, h1, rfl, by omega⟩
theorem Rd.rep {w : World} {p : Option Addr} {c : Nat} {l : List Rp} (h : Rd eRp w p c l) (i : Nat) (hi : i < l.length) :
    ∃ b o, p = some ⟨b, o, none⟩ ∧ b < w.heap.size ∧ w.cell? ⟨b, o + i * 3, none⟩ = some (.int .i64 l[i].1) ∧ w.cell? ⟨b, o + i * 3 + 1, none⟩ = some (.int .i64 l[i].2.1) ∧ w.cell? ⟨b, o + i * 3 + 2, none⟩ = some (.int .i64 l[i].2.2) := by
  obtain ⟨b, o, e, hb, hc⟩ := h.cells i hi
  exact ⟨b, o, e, hb, hc 0 _ rfl, hc 1 _ rfl, hc 2 _ rfl⟩
theorem rd_rp {w : World} {vb : Nat} {A B C : Int} {t : TypeId} {fr : Nat × Nat} (h : w.heap[vb]? = some (.cells #[.int .i64 A, .int .i64 B, .int .i64 C] t fr)) : Rd eRp w (some ⟨vb, 0, none⟩) 1 [(A, B, C)] := rd_block h 1 rfl rfl
theorem info38 : (Try.prog.info? 63).map (·.size) = some 11 := by kernel_rfl
theorem info41 : (Try.prog.info? 42).map (·.size) = some 4 := by kernel_rfl
end Go.Proofs.Ytonholadabebbaa
