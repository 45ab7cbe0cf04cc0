/-
  Put together:
  Rows of instructions and of bytes.
  Arrays of integers held against each other.
-/
import Derived.Test.YtonholadabebbaaMays
import Derived.Laws.BitsAllLaws
import Derived.Test.YtonholadabebbaaPlains
import Derived.Deep.WholeRow
import Derived.Laws.StructEq
import Derived.Below
namespace Go.Proofs.Ytonholadabebbaa
open Go.ChangeShapes Go.WideShapes Go.ChangeAt Go.RowKit
attribute [local go_sem ↓] Go.wp_at_zero Go.wp_at_succ

def eIn : Elt In := ⟨4, fun x => [.int .i64 x.1, .int .i64 x.2.1, .int .i64 x.2.2.1, .int .i64 x.2.2.2], fun _ => rfl, by intro x v hv; simp at hv; rcases hv with rfl | rfl | rfl | rfl <;> rfl, by decide⟩
def eBy : Elt Int := ⟨1, fun x => [.int .u8 x], fun _ => rfl, by intro x v hv; simp at hv; subst hv; rfl, by decide⟩
theorem Try.info42 : (Try.prog.info? 42).map (fun i => (i.zero, i.size, i.bytes)) = some (some (.agg #[.int .i64 0, .int .i64 0, .int .i64 0, .int .i64 0]), 4, 32) := by kernel_rfl
theorem Try.info5 : (Try.prog.info? 5).map (fun i => (i.zero, i.size, i.bytes)) = some (some (.int .u8 0), 1, 1) := by kernel_rfl
theorem tIn : Ty Try.prog eIn 22 42 := by
  obtain ⟨i, hi, h0, h1, h2⟩ := info_parts Try.info42
  exact ⟨Try.underlying22, i, _, hi, h0, h1, rfl, by omega⟩
theorem tBy : Ty Try.prog eBy 25 5 := by
  obtain ⟨i, hi, h0, h1, h2⟩ := info_parts Try.info5
  exact ⟨Try.underlying25, i, _, hi, h0, h1, rfl, by omega⟩
theorem flBy : ∀ l : List Int, fl eBy l = l.map (Value.int .u8)
  | [] => rfl
  | x :: r => by rw [fl, flBy r]; rfl

/-- the four cells of an instruction -/
theorem Rd.inst {w : World} {p : Option Addr} {c : Nat} {l : List In} (h : Rd eIn w p c l) (i : Nat) (hi : i < l.length) :
    ∃ b o, p = some ⟨b, o, none⟩ ∧ b < w.heap.size ∧ w.cell? ⟨b, o + i * 4, none⟩ = some (.int .i64 l[i].1) ∧ w.cell? ⟨b, o + i * 4 + 1, none⟩ = some (.int .i64 l[i].2.1) ∧ w.cell? ⟨b, o + i * 4 + 2, none⟩ = some (.int .i64 l[i].2.2.1) ∧ w.cell? ⟨b, o + i * 4 + 3, none⟩ = some (.int .i64 l[i].2.2.2) := by
  obtain ⟨b, o, e, hb, hc⟩ := h.cells i hi
  exact ⟨b, o, e, hb, hc 0 _ rfl, hc 1 _ rfl, hc 2 _ rfl, hc 3 _ rfl⟩
theorem Rd.byte {w : World} {p : Option Addr} {c : Nat} {l : List Int} (h : Rd eBy w p c l) (i : Nat) (hi : i < l.length) :
    ∃ b o, p = some ⟨b, o, none⟩ ∧ b < w.heap.size ∧ w.cell? ⟨b, o + i, none⟩ = some (.int .u8 l[i]) := by
  obtain ⟨b, o, e, hb, hc⟩ := h.cells i hi
  have := hc 0 _ rfl
  exact ⟨b, o, e, hb, by simpa [eBy] using this⟩
theorem Rd.bytes {w : World} {p : Option Addr} {c : Nat} {l : List Int} (h : Rd eBy w p c l) (hl : 0 < l.length) :
    ∃ b o, p = some ⟨b, o, none⟩ ∧ b < w.heap.size ∧ ∀ i, i < l.length → w.cell? ⟨b, o + i, none⟩ = some (.int .u8 (l.getD i 0)) := by
  obtain ⟨b, o, e, hb, hc⟩ := h.pos hl
  refine ⟨b, o, e, hb, fun i hi => hc i _ ?_⟩
  rw [flBy]
  simp [List.getElem?_eq_getElem hi, List.getD_eq_getElem?_getD]

theorem heap_at {w : World} {o : Obj} {k : Nat} (h : w.heap.size = k) : (w.alloc o).heap[k]? = some o := by subst h; exact heap_alloc_new w o
end Go.Proofs.Ytonholadabebbaa

namespace Go.Proofs.Ytonholadabebbaa
open Go.ChangeShapes Go.WideShapes Go.ChangeAt Go.RowKit
attribute [local go_sem ↓] Go.wp_at_zero Go.wp_at_succ

abbrev aIn (x : In) : Value := .agg #[.int .i64 x.1, .int .i64 x.2.1, .int .i64 x.2.2.1, .int .i64 x.2.2.2]
theorem bcell {W w1 : World} (hb : Below W.heap.size W w1) : (∀ b o, b < W.heap.size → w1.cell? ⟨b, o, none⟩ = W.cell? ⟨b, o, none⟩) ∧ (∀ b o, b < W.heap.size → w1.frozen? ⟨b, o, none⟩ = W.frozen? ⟨b, o, none⟩) :=
  ⟨fun b o h => hb.cell (p := ⟨b, o, none⟩) h, fun b o h => hb.frozen (p := ⟨b, o, none⟩) h⟩

def eI : Elt Int := ⟨1, fun x => [.int .i64 x], fun _ => rfl, by intro x v hv; simp at hv; subst hv; rfl, by decide⟩
theorem Try.info3 : (Try.prog.info? 3).map (fun i => (i.zero, i.size, i.bytes)) = some (some (.int .i64 0), 1, 8) := by kernel_rfl
theorem tI : Ty Try.prog eI 73 3 := by
  obtain ⟨i, hi, h0, h1, h2⟩ := info_parts Try.info3
  exact ⟨Try.underlying73, i, _, hi, h0, h1, rfl, by omega⟩
theorem flI : ∀ l : List Int, fl eI l = l.map (Value.int .i64)
  | [] => rfl
  | x :: r => by rw [fl, flI r]; rfl
theorem Rd.num {w : World} {p : Option Addr} {c : Nat} {l : List Int} (h : Rd eI w p c l) (i : Nat) (hi : i < l.length) :
    ∃ b o, p = some ⟨b, o, none⟩ ∧ b < w.heap.size ∧ w.cell? ⟨b, o + i, none⟩ = some (.int .i64 l[i]) := by
  obtain ⟨b, o, e, hb, hc⟩ := h.cells i hi
  have := hc 0 _ rfl
  exact ⟨b, o, e, hb, by simpa [eI] using this⟩

end Go.Proofs.Ytonholadabebbaa
