/-
  A row of instructions under way.
-/
import Derived.Test.YtjejabineblnhaaPlain
namespace Go.Proofs.Ytjejabineblnhaa
open Go.ChangeShapes Go.WideShapes Go.ChangeAt Go.RowKit
attribute [local go_sem ↓] Go.wp_at_zero Go.wp_at_succ

theorem rd_one {w : World} {vb : Nat} {A B C D : Int} {t : TypeId} {fr : Nat × Nat} (h : w.heap[vb]? = some (.cells #[.int .i64 A, .int .i64 B, .int .i64 C, .int .i64 D] t fr)) : Rd eIn w (some ⟨vb, 0, none⟩) 1 [(A, B, C, D)] := rd_block h 1 rfl rfl
theorem all_snoc {l : List In} {x : In} (h : l.all mayW = true) (hx : mayW x = true) : (l ++ [x]).all mayW = true := by rw [List.all_append, h]; simp [hx]
/-- The row of instructions under way. -/
structure Row (g : Nat) (w wr : World) (p : Option Addr) (n c : Nat) (l : List In) : Prop where
  own : Own eIn wr w.heap.size 38 p c l
  all : l.all mayW = true
  len : l.length = n
  pk : Pk wr g
  kp : Kp g w wr
theorem Row.snoc {g : Nat} {w wr w6 : World} {p p6 : Option Addr} {n c c6 : Nat} {l : List In} {x : In} (h : Row g w wr p n c l) (ho : Own eIn w6 w.heap.size 38 p6 c6 (l ++ [x])) (hx : mayW x = true) (hp : Pk w6 g) (hk : Kp g w w6) : Row g w w6 p6 (n + 1) c6 (l ++ [x]) :=
  ⟨ho, all_snoc h.all hx, by rw [List.length_append, h.len]; rfl, hp, hk⟩
/-- A call has handed such a row back. -/
def RowTold (P : List In → Prop) (g : Nat) (w : World) (lo hi : Nat) (e : Ending) (w' : World) : Prop := ∃ (p : Option Addr) (n c : Nat) (l : List In), e = .returned (.slice p n c) ∧ Row g w w' p n c l ∧ lo ≤ n ∧ n ≤ hi ∧ P l
end Go.Proofs.Ytjejabineblnhaa
