/-
  Boxes that are read stay as they are when a variable is written.
-/
import Derived.Test.YtfghondhonflaaaSame
namespace Go.Proofs.Ytfghondhonflaaa
open Go.ChangeShapes Go.WideShapes Go.ChangeAt Go.RowKit
attribute [local go_sem ↓] Go.wp_at_zero Go.wp_at_succ

theorem three_at {w : World} {g : Nat} {a b c : Int} (h : Lv w g #[.int .i64 a, .int .i64 b, .int .i64 c] 3) (k : Nat) (hk : k < 3) : w.cell? ⟨g, k, none⟩ = some (.int .i64 ([a, b, c][k]'hk)) :=
  h.c k (by
    have : k = 0 ∨ k = 1 ∨ k = 2 := by omega
    rcases this with rfl | rfl | rfl <;> rfl)
/-- rows of integers are in no block that holds none -/
theorem Rd.keep {w w' : World} {p : Option Addr} {c : Nat} {L : List Int} (h : Rd eI w p c L) {g : Nat} {cs : Array Value} {e : TypeId} (hg : Lv w g cs e) (hcs : ∀ (j : Nat) (x : Int), cs[j]? ≠ some (.int .i64 x)) (hw : ∀ b, b ≠ g → w'.heap[b]? = w.heap[b]?) : Rd eI w' p c L := by
  cases L with
  | nil => exact Rd.void h
  | cons x R =>
    obtain ⟨b, o, rfl, hb, hc⟩ := h.num 0 (by simp)
    have hne : b ≠ g := by
      rintro rfl
      rw [cell_of_row _ _ _ _ _ _ hg] at hc
      exact hcs _ _ hc
    refine ⟨h.cap, ?_⟩
    rcases h.at_ with ⟨h0, _⟩ | ⟨b', o', s, h1, hs, hc'⟩
    · cases h0
    · cases h1
      refine .inr ⟨b, o, none, rfl, fun _ => rfl, fun j v hj => ?_⟩
      rw [World.cell?_of_block (a := ⟨b, o + j, none⟩) (hw b hne)]
      exact hc' j v hj
theorem Bx.keep {w w' : World} {p : Option Addr} {c n : Nat} {L : List Int} {q : Option Addr} {d m : Nat} {Q : List Int} (h : Bx w p c n L q d m Q) {g : Nat} {cs : Array Value} {e : TypeId} (hg : Lv w g cs e) (hcs : ∀ (j : Nat) (x : Int), cs[j]? ≠ some (.int .i64 x)) (hw : ∀ b, b ≠ g → w'.heap[b]? = w.heap[b]?) : Bx w' p c n L q d m Q :=
  ⟨h.rl.keep hg hcs hw, h.rq.keep hg hcs hw, h.ln, h.lm, h.n9, h.m9⟩
theorem two_no {p1 q1 : Option Addr} {n1 c1 m1 d1 : Nat} (j : Nat) (x : Int) : (#[Value.slice p1 n1 c1, Value.slice q1 m1 d1] : Array Value)[j]? ≠ some (.int .i64 x) := by
  match j with
  | 0 => simp
  | 1 => simp
  | j + 2 => simp
theorem Bx.stored {w : World} {p : Option Addr} {c n : Nat} {L : List Int} {q : Option Addr} {d m : Nat} {Q : List Int} (h : Bx w p c n L q d m Q) {g : Nat} {p1 q1 : Option Addr} {n1 c1 m1 d1 : Nat} (hg : Lv w g #[.slice p1 n1 c1, .slice q1 m1 d1] 25) (a b : Value) : Bx ((w.setCell ⟨g, 0, none⟩ a).setCell ⟨g, 1, none⟩ b) p c n L q d m Q :=
  h.keep hg two_no (fun k hk => by rw [Below.heap_setCell _ _ _ _ hk, Below.heap_setCell _ _ _ _ hk])
end Go.Proofs.Ytfghondhonflaaa
