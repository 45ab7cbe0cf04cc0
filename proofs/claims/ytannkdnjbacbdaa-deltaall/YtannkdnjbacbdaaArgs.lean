/-
  What came in, read: a slice of bytes.
-/
import Derived.Test.YtannkdnjbacbdaaBegun
import Derived.WalkKit
import Derived.ProofKit
import Derived.OpenShut
import Derived.ChangeOld
import Derived.ChangeSame
import Derived.Deep.Grids
namespace Go.Proofs.Ytannkdnjbacbdaa
open Go.ChangeShapes Go.WideShapes Go.ChangeAt Go.RowKit

/-- A slice of bytes that is read. -/
structure RdB (w : World) (p : Option Addr) (c : Nat) (zs : List Int) : Prop where
  cap : zs.length ≤ c
  at_ : (p = none ∧ zs = [] ∧ c = 0) ∨ ∃ b o s, p = some ⟨b, o, s⟩ ∧ (zs ≠ [] → s = none) ∧ ∀ j (h : j < zs.length), w.cell? ⟨b, o + j, none⟩ = some (.int .u8 zs[j])
theorem RdB.below {w w' : World} {p : Option Addr} {c : Nat} {zs : List Int} (h : RdB w p c zs) (hb : Below w.heap.size w w') : RdB w' p c zs := by
  refine ⟨h.cap, ?_⟩
  rcases h.at_ with h0 | ⟨b, o, s, rfl, hs, hc⟩
  · exact .inl h0
  · exact .inr ⟨b, o, s, rfl, hs, fun j hj => (hb.cell (p := ⟨b, o + j, none⟩) (lt_of_cell (hc j hj))).trans (hc j hj)⟩
theorem RdB.cell {w : World} {p : Option Addr} {c : Nat} {zs : List Int} (h : RdB w p c zs) (i : Nat) (hi : i < zs.length) :
    ∃ b o, p = some ⟨b, o, none⟩ ∧ b < w.heap.size ∧ w.cell? ⟨b, o + i, none⟩ = some (.int .u8 zs[i]) := by
  rcases h.at_ with ⟨_, rfl, _⟩ | ⟨b, o, s, e, hs, hc⟩
  · simp at hi
  · have hn := hs (by intro e; simp [e] at hi)
    subst hn
    exact ⟨b, o, e, lt_of_cell (hc i hi), hc i hi⟩

theorem spot_none {w : World} {x : Addr} {v : Value} (h : w.cell? (x.add 0) = some v) : x.spot = none := by
  have e : x.add 0 = x := by simp [Addr.add]
  rw [e] at h
  unfold World.cell? at h
  split at h
  · split at h
    · cases h
    · rename_i hs; simpa using hs
  · cases h
theorem cell_plain {w : World} {x : Addr} {i : Nat} {v : Value} (h : w.cell? (x.add i) = some v) : w.cell? ⟨x.block, x.off + i, none⟩ = some v := by
  by_cases hi : i = 0
  · subst hi
    have hs := spot_none h
    obtain ⟨b, o, s⟩ := x
    simp only at hs
    subst hs
    simpa [Addr.add] using h
  · simpa [Addr.add, hi] using h
theorem rd_bytes {w : World} {x : Addr} {len cap : Nat} {zs : List Int} (hl : len ≤ cap) (hz : zs.length = cap) (hc : ∀ i, i < zs.length → w.cell? (x.add i) = some (.int .u8 (zs.getD i 0))) : RdB w (some x) cap (zs.take len) := by
  refine ⟨by simp; omega, .inr ⟨x.block, x.off, x.spot, by cases x; rfl, fun hne => ?_, fun i hi => ?_⟩⟩
  · have h0 : 0 < zs.length := by
      rcases Nat.eq_zero_or_pos zs.length with h | h
      · exact absurd (by rw [List.length_eq_zero_iff.1 h]; simp) hne
      · exact h
    exact spot_none (hc 0 h0)
  · have hi' : i < zs.length := by simp at hi; omega
    have := cell_plain (hc i hi')
    rw [this]
    simp [List.getD_eq_getElem?_getD, hi']
theorem bound_u8 {n : Int} (h : (Lit.int .u8 n).wf = true) : 0 ≤ n ∧ n ≤ 255 := by
  have := bounds_u8 h
  omega
theorem open_bytes {H : Type} {enc : TypeId × Value → H} {W : World} {a : Option Addr} {len cap : Nat} {d : DataW H} {p : List MemPlace} (h : DataW.Trod enc Try.prog W 0 (fun _ => true) true 42 (.slice a len cap) d p) :
    ∃ zs, RdB W a cap zs ∧ len = zs.length ∧ len ≤ maxLen ∧ ∀ x ∈ zs, 0 ≤ x ∧ x ≤ 255 := by
  obtain ⟨fuel, hf⟩ := h
  rcases open_ints Try.underlying42 Try.underlying5 (by kernel_rfl) hf with ⟨hcs, _⟩ | ⟨x, l, c, zs, hcs, _, hl, hm, hz, _, hcell, hwz⟩
  · simp [Value.cells] at hcs
    obtain ⟨rfl, rfl, rfl⟩ := hcs
    exact ⟨[], ⟨by simp, .inl ⟨rfl, rfl, rfl⟩⟩, rfl, Nat.zero_le _, fun x hx => by simp at hx⟩
  · simp [Value.cells] at hcs
    obtain ⟨rfl, rfl, rfl⟩ := hcs
    have hz' : zs.length = cap := by simpa using hz
    exact ⟨zs.take len, rd_bytes hl hz' hcell, by simp; omega, Nat.le_trans hl hm, fun x hx => bound_u8 (hwz x (List.mem_of_mem_take hx))⟩
end Go.Proofs.Ytannkdnjbacbdaa
