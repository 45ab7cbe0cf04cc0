/-
  What came in, read: a slice of ints, a slice of bools, a handle.
-/
import Derived.Test.YtflfmcclihahmaaKeys
import Derived.WalkKit
import Derived.ProofKit
import Derived.OpenShut
import Derived.ChangeOld
import Derived.ChangeSame
import Derived.Deep.Grids
namespace Go.Proofs.Ytflfmcclihahmaa
open Go.ChangeShapes Go.WideShapes Go.ChangeAt Go.RowKit

theorem spot_none {w : World} {x : Addr} {v : Value} (h : w.cell? (x.add 0) = some v) : x.spot = none := by
  have e : x.add 0 = x := by simp [Addr.add]
  rw [e] at h
  unfold World.cell? at h
  split at h
  · split at h
    · cases h
    · rename_i hs; simpa using hs
  · cases h
theorem cell_plain {w : World} {x : Addr} {i : Nat} {v : Value} (h : w.cell? (x.add i) = some v) : w.cell? ⟨x.block, x.off + i, none⟩ = some v := by
  by_cases hi : i = 0
  · subst hi
    have hs := spot_none h
    obtain ⟨b, o, s⟩ := x
    simp only at hs
    subst hs
    simpa [Addr.add] using h
  · simpa [Addr.add, hi] using h

/-- A slice of integers that came in, as the walk asks for it. -/
theorem rd_ints {w : World} {x : Addr} {len cap : Nat} {zs : List Int} (hl : len ≤ cap) (hz : zs.length = cap) (hc : ∀ i, i < zs.length → w.cell? (x.add i) = some (.int .i64 (zs.getD i 0))) : Rd w (Value.int .i64) (some x) cap (zs.take len) := by
  refine ⟨by simp; omega, .inr ⟨x.block, x.off, x.spot, by cases x; rfl, fun hne => ?_, fun i hi => ?_⟩⟩
  · have h0 : 0 < zs.length := by
      rcases Nat.eq_zero_or_pos zs.length with h | h
      · exact absurd (by rw [List.length_eq_zero_iff.1 h]; simp) hne
      · exact h
    exact spot_none (hc 0 h0)
  · have hi' : i < zs.length := by simp at hi; omega
    have := cell_plain (hc i hi')
    rw [this]
    simp [List.getD_eq_getElem?_getD, hi']
/-- .. of bools. -/
theorem rd_bools {w : World} {x : Addr} {len cap : Nat} {f : Nat → Bool} (hl : len ≤ cap) (hc : ∀ i, i < cap → w.cell? (x.add i) = some (.bool (f i))) : Rd w Value.bool (some x) cap ((List.range len).map f) := by
  refine ⟨by simpa using hl, .inr ⟨x.block, x.off, x.spot, by cases x; rfl, fun hne => ?_, fun i hi => ?_⟩⟩
  · have h0 : 0 < cap := by
      rcases Nat.eq_zero_or_pos len with h | h
      · exact absurd (by rw [h]; simp) hne
      · omega
    exact spot_none (hc 0 h0)
  · have hi' : i < cap := by simp at hi; omega
    rw [cell_plain (hc i hi')]
    simp

section
variable {H : Type} {enc : TypeId × Value → H} {W : World}

theorem open_gens {a : Option Addr} {len cap : Nat} {d : DataW H} {p : List MemPlace} (h : DataW.Trod enc Try.prog W 0 (fun _ => true) true 26 (.slice a len cap) d p) : ∃ zs, Rd W (Value.int .i64) a cap zs ∧ len = zs.length ∧ len ≤ maxLen := by
  obtain ⟨fuel, hf⟩ := h
  rcases open_ints Try.underlying26 Try.underlying3 (by kernel_rfl) hf with ⟨hcs, _⟩ | ⟨x, l, c, zs, hcs, _, hl, hm, hz, _, hcell, _⟩
  · simp [Value.cells] at hcs
    obtain ⟨rfl, rfl, rfl⟩ := hcs
    exact ⟨[], ⟨by simp, .inl ⟨rfl, rfl, rfl⟩⟩, rfl, Nat.zero_le _⟩
  · simp [Value.cells] at hcs
    obtain ⟨rfl, rfl, rfl⟩ := hcs
    have hz' : zs.length = cap := by simpa using hz
    exact ⟨zs.take len, rd_ints hl hz' hcell, by simp; omega, Nat.le_trans hl hm⟩

theorem open_is {a : Option Addr} {len cap : Nat} {d : DataW H} {p : List MemPlace} (h : DataW.Trod enc Try.prog W 0 (fun _ => true) true 27 (.slice a len cap) d p) : ∃ bs, Rd W Value.bool a cap bs ∧ len = bs.length ∧ len ≤ maxLen := by
  obtain ⟨fuel, hf⟩ := h
  rcases Go.Deep.open_bools Try.underlying27 Try.underlying4 (by kernel_rfl) hf with ⟨hcs, _⟩ | ⟨x, l, c, f, hcs, _, hl, hm, _, hcell⟩
  · simp [Value.cells] at hcs
    obtain ⟨rfl, rfl, rfl⟩ := hcs
    exact ⟨[], ⟨by simp, .inl ⟨rfl, rfl, rfl⟩⟩, rfl, Nat.zero_le _⟩
  · simp [Value.cells] at hcs
    obtain ⟨rfl, rfl, rfl⟩ := hcs
    exact ⟨(List.range len).map f, rd_bools hl hcell, by simp, Nat.le_trans hl hm⟩

theorem two_cells {cs : Array Value} (h : cs.size = 2) : ∃ c0 c1, cs = #[c0, c1] := by
  obtain ⟨l⟩ := cs
  match l, h with
  | [c0, c1], _ => exact ⟨c0, c1, rfl⟩

theorem open_handle {base : Nat} {v : Value} {d : DataW H} {p : List MemPlace} (hv : Value.okWide Try.prog W .any base 24 v) (h : DataW.Trod enc Try.prog W 0 (fun _ => true) true 24 v d p) :
    ∃ a g, v = .agg #[.int .i64 a, .int .i64 g] ∧ (Lit.int .i64 a).wf = true ∧ (Lit.int .i64 g).wf = true := by
  obtain ⟨cs, rfl, hsz⟩ := okWide_struct Try.underlying24 hv
  rw [Try.cells24] at hsz
  obtain ⟨c0, c1, rfl⟩ := two_cells hsz
  obtain ⟨fuel, hf⟩ := h
  obtain ⟨y0, y1, m, hx, _, hy0, hy1⟩ := trod_struct2 Try.underlying24 hf
  obtain ⟨a, e0, rfl, wa⟩ := DataW.trod_int Try.underlying3 hy0
  obtain ⟨b, e1, rfl, wb⟩ := DataW.trod_int Try.underlying3 hy1
  simp [Value.cells, Try.cells3] at e0 e1
  subst e0 e1
  exact ⟨a, b, rfl, wa, wb⟩
end

end Go.Proofs.Ytflfmcclihahmaa
