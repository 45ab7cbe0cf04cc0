/-
  What the functions of package sat hand back, each by its own Go text: sums, differences and products stop at the ends of int64; Up is the quotient rounded up.
-/
import Derived.Test.YteikdocpncdheaaChecked
import Derived.Test.YteikdocpncdheaaSatM
import Derived.WalkKit
import Derived.ProofKit
import Derived.Outline
import Derived.WalkLawsBesides
namespace Go.Proofs.Yteikdocpncdheaa.Sat
open Go.ChangeShapes Go.WideShapes Go.ChangeAt Go.RowKit

theorem ret_pair {k : IntKind} {a b : Int} {p q : Bool} (h : a = b ∧ p = q) : Ending.returned (.tuple #[.int k a, .bool p]) = .returned (.tuple #[.int k b, .bool q]) := by rw [h.1, h.2]
theorem ret_one {k : IntKind} {a b : Int} (h : a = b) : Ending.returned (.int k a) = .returned (.int k b) := by rw [h]

theorem halves_any (v : Int) (w : World) :
    Calls Try.prog 57 #[.int .i64 v] w fun e w' => e = .returned (.tuple #[.int .i64 (v / 4294967296), .int .i64 (v % 4294967296)]) ∧ w' = w := by
  go_enter Try.func57, Try.ntmps57
  go_wp2
  go_ret2
  exact ⟨rfl, rfl⟩

theorem join_any (h l : Int) (w : World) (h0 : -17179869184 ≤ h) (h1 : h ≤ 17179869184) (l0 : -17179869184 ≤ l) (l1 : l ≤ 17179869184) :
    Calls Try.prog 58 #[.int .i64 h, .int .i64 l] w fun e w' => e = .returned (.tuple #[.int .i64 (satv (h * 4294967296 + l)), .bool (fitsB (h * 4294967296 + l))]) ∧ w' = w := by
  go_enter Try.func58, Try.ntmps58
  go_wp2
  all_goals go_ret2
  · exact ⟨ret_pair (join_yes ‹_›), rfl⟩
  · exact ⟨ret_pair (join_low ‹_› ‹_›), rfl⟩
  · exact ⟨ret_pair (join_top ‹_› ‹_›), rfl⟩

theorem add_any (a b : Int) (w : World) (a0 : -9223372036854775808 ≤ a) (a1 : a ≤ 9223372036854775807) (b0 : -9223372036854775808 ≤ b) (b1 : b ≤ 9223372036854775807) :
    Calls Try.prog 41 #[.int .i64 a, .int .i64 b] w fun e w' => e = .returned (.tuple #[.int .i64 (satv (a + b)), .bool (fitsB (a + b))]) ∧ w' = w := by
  have hs : a + b = (a / 4294967296 + b / 4294967296) * 4294967296 + (a % 4294967296 + b % 4294967296) := by omega
  have H : Hid (a + b = (a / 4294967296 + b / 4294967296) * 4294967296 + (a % 4294967296 + b % 4294967296)) := hs
  clear hs
  go_enter Try.func41, Try.ntmps41
  go_wp2_with (first | (go_at_call 57; refine (halves_any _ _).mono ?_; rintro e w' ⟨rfl, rfl⟩) | (go_at_call 58; refine (join_any _ _ _ (by omega) (by omega) (by omega) (by omega)).mono ?_; rintro e w' ⟨rfl, rfl⟩))
  go_ret2
  exact ⟨ret_pair ⟨by rw [H.out], by rw [H.out]⟩, rfl⟩

theorem mag_any (v : Int) (w : World) (h0 : -9223372036854775808 ≤ v) (h1 : v ≤ 9223372036854775807) :
    Calls Try.prog 65 #[.int .i64 v] w fun e w' => e = .returned (.int .u64 (mag v)) ∧ w' = w := by
  go_enter Try.func65, Try.ntmps65
  go_wp2
  all_goals go_ret
  · exact ⟨ret_one (by rw [mag_neg ‹_›]; omega), rfl⟩
  · exact ⟨ret_one (by rw [mag_pos ‹_›]), rfl⟩
end Go.Proofs.Yteikdocpncdheaa.Sat
