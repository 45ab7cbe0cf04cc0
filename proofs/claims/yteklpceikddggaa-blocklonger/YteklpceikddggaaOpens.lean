/-
  Put together:
  What came in, read: a slice of bytes, a slice of instructions.
  Integers that were handed in, within their ends; a number of cells.
  What came in, read: three bytes, an instruction, a slice of instructions.
-/
import Derived.Test.YteklpceikddggaaLows
import Derived.WalkKit
import Derived.ProofKit
import Derived.OpenShut
import Derived.ChangeOld
import Derived.ChangeSame
import Derived.Deep.Grids
import Derived.Laws.IdiomArrays
import Derived.Lib.SmallJoins
import Derived.Deep.Slices
namespace Go.Proofs.Yteklpceikddggaa
open Go.ChangeShapes Go.WideShapes Go.ChangeAt Go.RowKit

theorem spot_none {w : World} {x : Addr} {v : Value} (h : w.cell? (x.add 0) = some v) : x.spot = none := by
  have e : x.add 0 = x := by simp [Addr.add]
  rw [e] at h
  unfold World.cell? at h
  split at h
  · split at h
    · cases h
    · rename_i hs; simpa using hs
  · cases h
theorem cell_plain {w : World} {x : Addr} {i : Nat} {v : Value} (h : w.cell? (x.add i) = some v) : w.cell? ⟨x.block, x.off + i, none⟩ = some v := by
  by_cases hi : i = 0
  · subst hi
    have hs := spot_none h
    obtain ⟨b, o, s⟩ := x
    simp only at hs
    subst hs
    simpa [Addr.add] using h
  · simpa [Addr.add, hi] using h
theorem rd_bytes {w : World} {x : Addr} {len cap : Nat} {zs : List Int} (hl : len ≤ cap) (hz : zs.length = cap) (hc : ∀ i, i < zs.length → w.cell? (x.add i) = some (.int .u8 (zs.getD i 0))) : Rd eBy w (some x) cap (zs.take len) := by
  refine ⟨by simp; omega, .inr ⟨x.block, x.off, x.spot, by cases x; rfl, fun hne => ?_, fun i v hi => ?_⟩⟩
  · have h0 : 0 < zs.length := by
      rcases Nat.eq_zero_or_pos zs.length with h | h
      · exact absurd (by rw [List.length_eq_zero_iff.1 h]; simp) hne
      · exact h
    exact spot_none (hc 0 h0)
  · rw [flBy] at hi
    have hil : i < ((zs.take len).map (Value.int .u8)).length := (List.getElem?_eq_some_iff.1 hi).1
    have hi' : i < zs.length := by simp at hil; omega
    have := cell_plain (hc i hi')
    rw [this, ← hi]
    simp at hil
    simp [List.getD_eq_getElem?_getD, hi', List.getElem?_take]; omega
theorem bound_u8 {n : Int} (h : (Lit.int .u8 n).wf = true) : 0 ≤ n ∧ n ≤ 255 := by
  have := bounds_u8 h
  omega
theorem open_bytes {H : Type} {enc : TypeId × Value → H} {W : World} {a : Option Addr} {len cap : Nat} {d : DataW H} {p : List MemPlace} (h : DataW.Trod enc Try.prog W 0 (fun _ => true) true 22 (.slice a len cap) d p) :
    ∃ zs, Rd eBy W a cap zs ∧ zs.length = len ∧ len ≤ maxLen ∧ ∀ x ∈ zs, 0 ≤ x ∧ x ≤ 255 := by
  obtain ⟨fuel, hf⟩ := h
  rcases open_ints Try.underlying22 Try.underlying5 (by kernel_rfl) hf with ⟨hcs, _⟩ | ⟨x, l, c, zs, hcs, _, hl, hm, hz, _, hcell, hwz⟩
  · simp [Value.cells] at hcs
    obtain ⟨rfl, rfl, rfl⟩ := hcs
    exact ⟨[], Rd.nil _, rfl, Nat.zero_le _, fun x hx => by simp at hx⟩
  · simp [Value.cells] at hcs
    obtain ⟨rfl, rfl, rfl⟩ := hcs
    have hz' : zs.length = cap := by simpa using hz
    exact ⟨zs.take len, rd_bytes hl hz' hcell, by simp; omega, Nat.le_trans hl hm, fun x hx => bound_u8 (hwz x (List.mem_of_mem_take hx))⟩
end Go.Proofs.Yteklpceikddggaa

namespace Go.Proofs.Yteklpceikddggaa
open Go.ChangeShapes Go.WideShapes Go.ChangeAt Go.RowKit
theorem i64_in {n : Int} (h : (Lit.int .i64 n).wf = true) : -9223372036854775808 ≤ n ∧ n ≤ 9223372036854775807 := by
  simp only [Lit.wf, Bool.and_eq_true, decide_eq_true_eq] at h
  exact h
theorem u8_in {n : Int} (h : (Lit.int .u8 n).wf = true) : 0 ≤ n ∧ n ≤ 255 := by
  simp only [Lit.wf, Bool.and_eq_true, decide_eq_true_eq] at h
  exact h
theorem cells3 : Try.prog.cellsOf 3 = 1 := by kernel_rfl
end Go.Proofs.Yteklpceikddggaa

namespace Go.Proofs.Yteklpceikddggaa
open Go.ChangeShapes Go.WideShapes Go.ChangeAt Go.RowKit

set_option maxRecDepth 20000 in
theorem cells41 : Try.prog.cellsOf 30 = 4 := by kernel_rfl
set_option maxRecDepth 20000 in
theorem four_of {cs : Array Value} (h : cs.size = 4) : ∃ a b c d, cs = #[a, b, c, d] := by
  obtain ⟨l⟩ := cs
  match l, h with
  | [a, b, c, d], _ => exact ⟨a, b, c, d, rfl⟩
section
variable {H : Type} {enc : TypeId × Value → H} {W : World}
set_option maxRecDepth 20000 in
theorem inst_cells {fuel : Nat} {cs : List Value} {x : DataW H × List MemPlace} (h : DataW.trod enc Try.prog W 0 (fun _ => true) true fuel 30 cs = some x) :
    ∃ o a b n : Int, cs = [.int .i64 o, .int .i64 a, .int .i64 b, .int .i64 n] := by
  obtain ⟨y0, y1, y2, y3, m, _, hl, h0, h1, h2, h3⟩ := Go.Joins.trod_struct4 Try.underlying30 h
  rw [cells41] at hl
  match cs, hl with
  | [c0, c1, c2, c3], _ =>
    obtain ⟨o, e0, _, _⟩ := DataW.trod_int Try.underlying3 h0
    obtain ⟨a, e1, _, _⟩ := DataW.trod_int Try.underlying3 h1
    obtain ⟨b, e2, _, _⟩ := DataW.trod_int Try.underlying3 h2
    obtain ⟨n, e3, _, _⟩ := DataW.trod_int Try.underlying3 h3
    simp [cells3] at e0 e1 e2 e3
    subst e0 e1 e2 e3
    exact ⟨o, a, b, n, rfl⟩
set_option maxRecDepth 20000 in
theorem open_inst {base : Nat} {v : Value} {d : DataW H} {p : List MemPlace} (hv : Value.okWide Try.prog W .any base 30 v) (h : DataW.Trod enc Try.prog W 0 (fun _ => true) true 30 v d p) :
    ∃ x : In, v = .agg #[.int .i64 x.1, .int .i64 x.2.1, .int .i64 x.2.2.1, .int .i64 x.2.2.2] := by
  obtain ⟨cs, rfl, hsz⟩ := okWide_struct Try.underlying30 hv
  rw [cells41] at hsz
  obtain ⟨c0, c1, c2, c3, rfl⟩ := four_of hsz
  obtain ⟨fuel, hf⟩ := h
  obtain ⟨o, a, b, n, e⟩ := inst_cells hf
  simp [Value.cells] at e
  obtain ⟨rfl, rfl, rfl, rfl⟩ := e
  exact ⟨(o, a, b, n), rfl⟩
set_option maxRecDepth 20000 in
theorem open_insts {a : Option Addr} {len cap : Nat} {d : DataW H} {p : List MemPlace} (h : DataW.Trod enc Try.prog W 0 (fun _ => true) true 31 (.slice a len cap) d p) :
    ∃ L, Rd eIn W a cap L ∧ L.length = len ∧ len ≤ maxLen := by
  obtain ⟨fuel, hf⟩ := h
  rcases Go.Deep.open_slice Try.underlying31 hf with ⟨hcs, _⟩ | ⟨x, l, c, m, n, D, Pl, hcs, _, hl, hm, hmm, _, hx⟩
  · simp [Value.cells] at hcs
    obtain ⟨rfl, rfl, rfl⟩ := hcs
    exact ⟨[], Rd.nil _, rfl, Nat.zero_le _⟩
  · simp [Value.cells] at hcs
    obtain ⟨rfl, rfl, rfl⟩ := hcs
    simp only [if_pos] at hmm
    subst hmm
    obtain ⟨T, hT⟩ := Go.Deep.choose_lt (α := In) (p := fun i t => W.cell? (x.add (i * 4)) = some (.int .i64 t.1) ∧ W.cell? ((x.add (i * 4)).add 1) = some (.int .i64 t.2.1) ∧ W.cell? ((x.add (i * 4)).add 2) = some (.int .i64 t.2.2.1) ∧ W.cell? ((x.add (i * 4)).add 3) = some (.int .i64 t.2.2.2)) (fun i hi => by
      obtain ⟨cs', h1, h2⟩ := hx i hi
      rw [cells41] at h1
      obtain ⟨u, v, t, r, rfl⟩ := inst_cells h2
      obtain ⟨_, _, hg⟩ := World.cells?_some h1
      have g0 := hg 0 (by omega)
      have g1 := hg 1 (by omega)
      have g2 := hg 2 (by omega)
      have g3 := hg 3 (by omega)
      have e0 : (x.add (i * 4)).add 0 = x.add (i * 4) := by simp [Addr.add]
      rw [e0] at g0
      exact ⟨(u, v, t, r), g0, g1, g2, g3⟩)
    have hlen : ((List.range len).map T).length = len := by simp
    refine ⟨(List.range len).map T, ⟨by rw [hlen]; exact hl, .inr ⟨x.block, x.off, x.spot, by cases x; rfl, fun hne => ?_, fun j v hj => ?_⟩⟩, hlen, Nat.le_trans hl hm⟩
    · have h0 : 0 < len := by
        rcases Nat.eq_zero_or_pos len with h | h
        · exact absurd (by rw [h]; simp) hne
        · exact h
      have := (hT 0 (by omega)).1
      rw [Nat.zero_mul] at this
      exact spot_none this
    · have hj4 : j < len * 4 := by
        have := (List.getElem?_eq_some_iff.1 hj).1
        rw [fl_length, hlen] at this
        exact this
      have hi : j / 4 < len := by omega
      have hjj : j = j / 4 * 4 + j % 4 := by omega
      have hget := fl_get eIn ((List.range len).map T) (j / 4) (by rw [hlen]; exact hi) (j % 4) (by show _ < 4; omega)
      have e4 : eIn.k = 4 := rfl
      rw [e4, ← hjj, hj] at hget
      simp only [List.getElem_map, List.getElem_range] at hget
      obtain ⟨c0, c1, c2, c3⟩ := hT (j / 4) (by omega)
      rw [Go.Deep.add_add] at c1 c2 c3
      have c0 := cell_plain c0
      have c1 := cell_plain c1
      have c2 := cell_plain c2
      have c3 := cell_plain c3
      have hr : j % 4 = 0 ∨ j % 4 = 1 ∨ j % 4 = 2 ∨ j % 4 = 3 := by omega
      rw [hjj]
      rcases hr with hr | hr | hr | hr <;> rw [hr] at hget ⊢
      · cases hget; exact c0
      · cases hget; exact c1
      · cases hget; exact c2
      · cases hget; exact c3
end
end Go.Proofs.Yteklpceikddggaa
