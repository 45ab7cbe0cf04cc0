/-
  The map that taken makes, as mathematics: which handles are its keys, what they lead to, how many they are.
-/
import Derived.Test.YtcncpefdjgnhdaaSloTakes
import Derived.Maps.OwnSet
import Derived.Maps.OwnOps
import Derived.DeepKeys4
namespace Go.Proofs.Ytcncpefdjgnhdaa.Slo
open Go.ChangeShapes Go.WideShapes Go.ChangeAt Go.RowKit Go.Maps
attribute [local go_sem ↓] Go.wp_at_zero Go.wp_at_succ

theorem Try.laidOut : laidOutB Try.prog = true := by kernel_rfl
theorem Try.row24 : (38 : TypeId) < Try.prog.types.size := of_decide_eq_true (by kernel_rfl)
theorem Try.wide24 : (match Try.prog.underlying 38 with | some (.array _ _) | some (.struct _) => true | _ => false) = true := by kernel_rfl
theorem Try.law24 : Keyed Try.prog 38 := Keyed.of_law (deep_law_laid Try.laidOut (m := 2) (by omega) Try.row24 (by kernel_rfl) (by rw [Try.underlying38]))
theorem Try.keyT24 : Try.prog.keyType 38 = true := by kernel_rfl
theorem Try.cells24 : Try.prog.cellsOf 38 = 2 := by kernel_rfl
theorem Try.cells3 : Try.prog.cellsOf 3 = 1 := by kernel_rfl
theorem Try.tsize : Try.prog.types.size = 162 + 1 := by kernel_rfl

/-- The key that a handle is. -/
def hkey (a g : Int) : Lit := .string (keyBytes [.int .i64 a, .int .i64 g])
theorem kl_int (d : Nat) (a : Int) (ha : (Lit.int .i64 a).wf = true) : Try.prog.keyLits (d + 1) 3 [.int .i64 a] = some [.int .i64 a] := by
  unfold Program.keyLits
  rw [Try.underlying3]
  simp [ha]
theorem kl_handle (d : Nat) (a g : Int) (ha : (Lit.int .i64 a).wf = true) (hg : (Lit.int .i64 g).wf = true) : Try.prog.keyLits (d + 1 + 1) 38 [.int .i64 a, .int .i64 g] = some [.int .i64 a, .int .i64 g] := by
  unfold Program.keyLits
  rw [Try.underlying38]
  simp [Try.cells24, Try.cells3, kl_int d a ha, kl_int d g hg]
theorem keyOf_handle (a g : Int) (ha : (Lit.int .i64 a).wf = true) (hg : (Lit.int .i64 g).wf = true) : keyOf Try.prog 38 (.agg #[.int .i64 a, .int .i64 g]) = some (hkey a g) := by
  have hu := Try.underlying38
  have hk := kl_handle 162 a g ha hg
  unfold keyOf
  rw [hu]
  have hf : Value.formed Try.prog 38 (.agg #[.int .i64 a, .int .i64 g]) = true := by simp [Value.formed, hu, Try.cells24]
  have hc : (Value.agg #[.int .i64 a, .int .i64 g]).cells.toList = [.int .i64 a, .int .i64 g] := by simp [Value.cells]
  dsimp only
  rw [Try.keyT24, hf, Try.tsize, hc, hk]
  rfl
theorem hkey_inj {a g a' g' : Int} (ha : (Lit.int .i64 a).wf = true) (hg : (Lit.int .i64 g).wf = true) (ha' : (Lit.int .i64 a').wf = true) (hg' : (Lit.int .i64 g').wf = true) (h : hkey a g = hkey a' g') : a = a' ∧ g = g' := by
  have := Try.law24.inj (keyOf_handle a g ha hg) (by rw [h]; exact keyOf_handle a' g' ha' hg')
  simpa using this

/-- The map that taken has made behind k places: the place of each handle that is somebody's. -/
def tk (gs : List Int) (bs : List Bool) : Nat → DataW Unit
  | 0 => .map []
  | k + 1 => if bs.getD k false = true then (tk gs bs k).put (hkey k (gs.getD k 0)) (.lit (.int .i64 k)) else tk gs bs k

/-- Is (a, g) the handle of a place that is taken, of the first k? -/
def hasB (gs : List Int) (bs : List Bool) (k : Nat) (a g : Int) : Bool := decide (0 ≤ a ∧ a < k ∧ bs.getD a.toNat false = true ∧ gs.getD a.toNat 0 = g)

theorem wf_of {a : Int} (h : -9223372036854775808 ≤ a ∧ a ≤ 9223372036854775807) : (Lit.int .i64 a).wf = true := WalkArith.wf_i64 h
theorem wf_small {gs : List Int} (h : Small gs) (k : Nat) : (Lit.int .i64 (gs.getD k 0)).wf = true := by
  refine wf_of ?_
  rw [List.getD_eq_getElem?_getD]
  cases e : gs[k]? with
  | none => simp
  | some x => have := h x (List.mem_of_getElem? e); simp; omega
theorem wf_nat {k : Nat} (h : k ≤ 64) : (Lit.int .i64 (k : Int)).wf = true := wf_of (by omega)
theorem isKey (a g : Int) : WideAt.IsKeyLit (hkey a g) := trivial

theorem tk_tidy (gs : List Int) (bs : List Bool) : ∀ k, Tidy (tk gs bs k)
  | 0 => tidy_empty
  | k + 1 => by
    unfold tk
    split
    · exact (tk_tidy gs bs k).put (isKey _ _) _
    · exact tk_tidy gs bs k

theorem tk_has {gs : List Int} {bs : List Bool} (hs : Small gs) {a g : Int} (ha : (Lit.int .i64 a).wf = true) (hg : (Lit.int .i64 g).wf = true) : ∀ k, k ≤ 64 → Maps.has (tk gs bs k) (hkey a g) = hasB gs bs k a g
  | 0, _ => by
    have : hasB gs bs 0 a g = false := by unfold hasB; simp; omega
    rw [this]; rfl
  | k + 1, hk => by
    have ih := tk_has (bs := bs) hs ha hg k (by omega)
    unfold tk
    by_cases hb : bs.getD k false = true
    · rw [if_pos hb]
      by_cases e : a = k ∧ g = gs.getD k 0
      · obtain ⟨rfl, rfl⟩ := e
        rw [has_put_same (tk_tidy gs bs k).isMap (isKey _ _)]
        symm
        unfold hasB
        simp only [decide_eq_true_eq]
        exact ⟨by omega, by omega, by simpa using hb, by simp⟩
      · have hne : hkey a g ≠ hkey k (gs.getD k 0) := fun h => e (hkey_inj ha hg (wf_nat (by omega)) (wf_small hs k) h)
        rw [has_put_other hne, ih]
        unfold hasB
        rw [decide_eq_decide]
        constructor
        · rintro ⟨h1, h2, h3, h4⟩; exact ⟨h1, by omega, h3, h4⟩
        · rintro ⟨h1, h2, h3, h4⟩
          refine ⟨h1, ?_, h3, h4⟩
          by_cases e' : a = k
          · subst e'; exact absurd ⟨rfl, by simpa using h4.symm⟩ e
          · omega
    · rw [if_neg hb, ih]
      unfold hasB
      rw [decide_eq_decide]
      constructor
      · rintro ⟨h1, h2, h3, h4⟩; exact ⟨h1, by omega, h3, h4⟩
      · rintro ⟨h1, h2, h3, h4⟩
        refine ⟨h1, ?_, h3, h4⟩
        by_cases e' : a = k
        · subst e'; exact absurd (by simpa using h3) hb
        · omega

theorem tk_at {gs : List Int} {bs : List Bool} (hs : Small gs) {a g : Int} (ha : (Lit.int .i64 a).wf = true) (hg : (Lit.int .i64 g).wf = true) (z : DataW Unit) : ∀ k, k ≤ 64 → hasB gs bs k a g = true → (tk gs bs k).atKey (hkey a g) z = .lit (.int .i64 a)
  | 0, _, h => by
    unfold hasB at h; simp at h; omega
  | k + 1, hk, h => by
    unfold hasB at h
    simp only [decide_eq_true_eq] at h
    obtain ⟨h1, h2, h3, h4⟩ := h
    unfold tk
    by_cases hb : bs.getD k false = true
    · rw [if_pos hb]
      by_cases e : a = k
      · have e2 : g = gs.getD k 0 := by rw [← h4, e]; simp
        subst e e2
        rw [atKey_put_same (tk_tidy gs bs k).isMap (isKey _ _)]
      · have hne : hkey a g ≠ hkey k (gs.getD k 0) := fun h => e (hkey_inj ha hg (wf_nat (by omega)) (wf_small hs k) h).1
        rw [atKey_put_other hne]
        exact tk_at hs ha hg z k (by omega) (by unfold hasB; simp only [decide_eq_true_eq]; exact ⟨h1, by omega, h3, h4⟩)
    · rw [if_neg hb]
      exact tk_at hs ha hg z k (by omega) (by
        unfold hasB; simp only [decide_eq_true_eq]
        refine ⟨h1, ?_, h3, h4⟩
        by_cases e' : a = k
        · subst e'; exact absurd (by simpa using h3) hb
        · omega)

theorem tk_size {gs : List Int} {bs : List Bool} (hs : Small gs) : ∀ k, k ≤ 64 → k ≤ bs.length → Maps.size (tk gs bs k) = (bs.take k).count true
  | 0, _, _ => rfl
  | k + 1, hk, hl => by
    have ih := tk_size (bs := bs) hs k (by omega) (by omega)
    have hlt : k < bs.length := by omega
    rw [List.take_succ_eq_append_getElem hlt, List.count_append]
    unfold tk
    rw [List.getD_eq_getElem?_getD, List.getElem?_eq_getElem hlt]
    by_cases hb : bs[k] = true
    · simp only [Option.getD_some, hb, if_true]
      rw [size_put (tk_tidy gs bs k), tk_has hs (wf_nat (by omega)) (wf_small hs k) k (by omega)]
      have : hasB gs bs k k (gs.getD k 0) = false := by unfold hasB; simp
      rw [this, ih]; simp
    · have hb' : bs[k] = false := by simpa using hb
      simp [hb', ih]

end Go.Proofs.Ytcncpefdjgnhdaa.Slo
