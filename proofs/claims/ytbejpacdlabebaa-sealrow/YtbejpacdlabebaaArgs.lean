/-
  What came in, read: a slice of int64.
-/
import Derived.Test.YtbejpacdlabebaaElts
import Derived.WalkKit
import Derived.ProofKit
import Derived.OpenShut
import Derived.ChangeOld
import Derived.ChangeSame
import Derived.Deep.Grids
namespace Go.Proofs.Ytbejpacdlabebaa
open Go.ChangeShapes Go.WideShapes Go.ChangeAt Go.RowKit

theorem spot_none {w : World} {x : Addr} {v : Value} (h : w.cell? (x.add 0) = some v) : x.spot = none := by
  have e : x.add 0 = x := by simp [Addr.add]
  rw [e] at h
  unfold World.cell? at h
  split at h
  · split at h
    · cases h
    · rename_i hs; simpa using hs
  · cases h
theorem cell_plain {w : World} {x : Addr} {i : Nat} {v : Value} (h : w.cell? (x.add i) = some v) : w.cell? ⟨x.block, x.off + i, none⟩ = some v := by
  by_cases hi : i = 0
  · subst hi
    have hs := spot_none h
    obtain ⟨b, o, s⟩ := x
    simp only at hs
    subst hs
    simpa [Addr.add] using h
  · simpa [Addr.add, hi] using h
theorem rd_nums {w : World} {x : Addr} {len cap : Nat} {zs : List Int} (hl : len ≤ cap) (hz : zs.length = cap) (hc : ∀ i, i < zs.length → w.cell? (x.add i) = some (.int .i64 (zs.getD i 0))) : Rd eI w (some x) cap (zs.take len) := by
  refine ⟨by simp; omega, .inr ⟨x.block, x.off, x.spot, by cases x; rfl, fun hne => ?_, fun i v hi => ?_⟩⟩
  · have h0 : 0 < zs.length := by
      rcases Nat.eq_zero_or_pos zs.length with h | h
      · exact absurd (by rw [List.length_eq_zero_iff.1 h]; simp) hne
      · exact h
    exact spot_none (hc 0 h0)
  · rw [flI] at hi
    have hil : i < ((zs.take len).map (Value.int .i64)).length := (List.getElem?_eq_some_iff.1 hi).1
    have hi' : i < zs.length := by simp at hil; omega
    have := cell_plain (hc i hi')
    rw [this, ← hi]
    simp at hil
    simp [List.getD_eq_getElem?_getD, hi', List.getElem?_take]; omega
theorem open_nums {H : Type} {enc : TypeId × Value → H} {W : World} {a : Option Addr} {len cap : Nat} {d : DataW H} {p : List MemPlace} (h : DataW.Trod enc Try.prog W 0 (fun _ => true) true 22 (.slice a len cap) d p) :
    ∃ zs, Rd eI W a cap zs ∧ zs.length = len ∧ len ≤ maxLen ∧ ∀ x ∈ zs, -9223372036854775808 ≤ x ∧ x ≤ 9223372036854775807 := by
  obtain ⟨fuel, hf⟩ := h
  rcases open_ints Try.underlying22 Try.underlying2 (by kernel_rfl) hf with ⟨hcs, _⟩ | ⟨x, l, c, zs, hcs, _, hl, hm, hz, _, hcell, hwz⟩
  · simp [Value.cells] at hcs
    obtain ⟨rfl, rfl, rfl⟩ := hcs
    exact ⟨[], Rd.nil _, rfl, Nat.zero_le _, fun x hx => by simp at hx⟩
  · simp [Value.cells] at hcs
    obtain ⟨rfl, rfl, rfl⟩ := hcs
    have hz' : zs.length = cap := by simpa using hz
    exact ⟨zs.take len, rd_nums hl hz' hcell, by simp; omega, Nat.le_trans hl hm, fun x hx => bounds_i64 (hwz x (List.mem_of_mem_take hx))⟩
end Go.Proofs.Ytbejpacdlabebaa
