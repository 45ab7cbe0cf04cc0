/-
  What spots, has and Left of package delta hand back: a map of the call's own from whose a timer is to where it stands and in how many ticks it comes; whether a key has one; in how many ticks it comes.
-/
import Derived.Test.YtannkdnjbacbdaaSlices
import Derived.Test.YtannkdnjbacbdaaMaps
import Derived.Test.YtannkdnjbacbdaaLists
import Derived.Test.YtannkdnjbacbdaaSat
namespace Go.Proofs.Ytannkdnjbacbdaa
open Go.ChangeShapes Go.WideShapes Go.ChangeAt Go.RowKit
attribute [local go_sem ↓] Go.wp_at_zero Go.wp_at_succ

theorem lookE_none {m : List En} {k : Int} (h : ∀ x ∈ m, x.1 ≠ k) : lookE m k = none := by
  induction m with
  | nil => rfl
  | cons x r ih =>
    simp only [lookE]
    rw [if_neg (fun e => h x (by simp) e.symm)]
    exact ih (fun y hy => h y (by simp [hy]))
theorem entT_keys : ∀ (l : List Tm) (a s : Int), (entT a s l).map (·.1) = l.map (·.2)
  | [], _, _ => rfl
  | x :: r, a, s => by simp [entT, entT_keys r]
theorem look_fresh (l : List Tm) (h : (l.map (·.2)).Nodup) (k : Nat) (hk : k < l.length) : lookE (entT 0 0 (l.take k)) l[k].2 = none := by
  refine lookE_none (fun x hx e => ?_)
  have h1 : x.1 ∈ (entT 0 0 (l.take k)).map (·.1) := List.mem_map_of_mem hx
  rw [entT_keys, e] at h1
  have h2 : (l.take (k + 1)).map (·.2) = (l.take k).map (·.2) ++ [l[k].2] := by rw [List.take_succ_eq_append_getElem hk, List.map_append]; rfl
  have h3 : ((l.take (k + 1)).map (·.2)).Nodup := by
    rw [List.map_take]; exact h.sublist (List.take_sublist _ _)
  rw [h2, List.nodup_append] at h3
  exact h3.2.2 _ h1 _ (by simp) rfl

/-- A sum within the ends. -/
theorem add_in (a b : Int) (w : World) (a0 : 0 ≤ a) (b0 : 0 ≤ b) (h : a + b ≤ 9223372036854775807) :
    Calls Try.prog 22 #[.int .i64 a, .int .i64 b] w fun e w' => e = .returned (.tuple #[.int .i64 (a + b), .bool true]) ∧ w' = w := by
  have hf : fitsB (a + b) = true := fits_in (by omega)
  have := add_any a b w (by omega) (by omega) (by omega) (by omega)
  rw [satv_fits hf, hf] at this
  exact this
theorem sub_in (a b : Int) (w : World) (b0 : 0 ≤ b) (h : b ≤ a) (h1 : a ≤ 9223372036854775807) :
    Calls Try.prog 25 #[.int .i64 a, .int .i64 b] w fun e w' => e = .returned (.tuple #[.int .i64 (a - b), .bool true]) ∧ w' = w := by
  have hf : fitsB (a - b) = true := fits_in (by omega)
  have := sub_any a b w (by omega) (by omega) (by omega) (by omega)
  rw [satv_fits hf, hf] at this
  exact this

set_option maxHeartbeats 1000000 in
theorem spots_any (p : Option Addr) (c : Nat) (l : List Tm) (w : World) (hr : Rd w p c l) (hl : l.length ≤ 100) (hB : Bd l) :
    Calls Try.prog 21 #[.slice p l.length c] w fun e w' => ∃ b, e = .returned (.map (some b)) ∧ IsMp w' b (entT 0 0 l) ∧ Below w.heap.size w w' := by
  have hmm := @run_makeMap Try.prog
  have hW0 := IsMp.made w
  have hB0 : Below w.heap.size w (w.alloc (.map #[] 0)) := (Below.refl _ _).alloc (Nat.le_refl _) _
  go_enter Try.func21, Try.ntmps21
  go_wp2
  go_loopw [4, 12] (fun s i wr => ∃ k : Nat, k ≤ l.length ∧ i = .int .i64 k ∧ s = .int .i64 (sumA (l.take k)) ∧ Below w.heap.size w wr ∧ IsMp wr w.heap.size (entT 0 0 (l.take k))) (fun _ i _ => l.length - (intOf i).toNat)
  case atStart => exact ⟨0, Nat.zero_le _, rfl, rfl, hB0, hW0⟩
  case round =>
    obtain ⟨k, hk, rfl, rfl, hbw, hmp⟩ := hrel
    clear hW0 hB0
    by_cases hlt : k < l.length
    · obtain ⟨b, o, rfl, hb, hc1, hc2⟩ := (hr.below hbw).cells k hlt
      have hf := look_fresh l hB.keys k hlt
      have hs0 := sumA_take_le l hB.low k
      have hs1 := sumA_take_le l hB.low (k + 1)
      have hm := mem_le_sum l hB.low k hlt
      have hst := sumA_take_succ l k hlt
      have hlim := hB.sum
      have HS : Hid (sumA (l.take (k + 1)) = sumA (l.take k) + l[k].1) := hst
      have HE : Hid (entT 0 0 (l.take (k + 1)) = entT 0 0 (l.take k) ++ [(l[k].2, (k : Int), sumA (l.take (k + 1)))]) := entT_take_succ l k hlt
      have hsz : w.heap.size < wr.heap.size := hmp.lt
      have hsx : sumA (l.take k) + l[k].1 ≤ 4611686018427387904 := by omega
      generalize hS : sumA (l.take k) = S at *
      generalize hE : entT 0 0 (l.take k) = E at *
      generalize l[k].1 = xa at *
      generalize l[k].2 = xk at *
      clear hst hS hE hs1
      go_wp2_with (first
        | (go_at_call 22; refine (add_in _ _ _ (by omega) (by omega) (by omega)).mono ?_; rintro e w3 ⟨rfl, rfl⟩)
        | (at_lookup; refine wpList_look _ rfl _ _ rfl w.heap.size E rfl (hmp.below ((Below.refl _ _).alloc (Nat.le_refl _) _)) xk rfl 0 0 false (by rw [hf]; rfl) (by rw [hf]; rfl) ?_)
        | (at_mapUpdate; refine wpList_store _ rfl _ _ _ rfl w.heap.size E rfl (hmp.below (((Below.refl _ _).alloc (Nat.le_refl _) _).alloc (by simp) _)) xk _ _ rfl rfl hf ?_; intro w4 hm4 hb4))
      have hb5 := hb4 w.heap.size (Nat.le_refl _)
      go_roundw
      case rel => exact ⟨k + 1, by omega, by go_num, by rw [HS.out], hbw.trans (((Below.refl _ _).alloc (by omega) _).alloc (by simp; omega) _ |>.trans hb5), by rw [HE.out, HS.out]; exact hm4⟩
      case measure => simp [intOf]; omega
    · have hkn : k = l.length := by omega
      subst hkn
      rw [List.take_length] at hmp
      go_wp2
      go_ret
      exact ⟨_, rfl, hmp, hbw⟩
end Go.Proofs.Ytannkdnjbacbdaa
