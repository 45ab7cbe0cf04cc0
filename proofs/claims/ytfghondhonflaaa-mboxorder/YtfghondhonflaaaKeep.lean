/-
  Boxes that are read stay as they are when a variable is written.
-/
import Derived.Test.YtfghondhonflaaaSame
namespace Go.Proofs.Ytfghondhonflaaa
open Go.ChangeShapes Go.WideShapes Go.ChangeAt Go.RowKit
attribute [local go_sem ↓] Go.wp_at_zero Go.wp_at_succ

theorem three_at {w : World} {g : Nat} {a b c : Int} (h : Lv w g #[.int .i64 a, .int .i64 b, .int .i64 c] 3) (k : Nat) (hk : k < 3) : w.cell? ⟨g, k, none⟩ = some (.int .i64 ([a, b, c][k]'hk)) :=
  h.c k (by
    have : k = 0 ∨ k = 1 ∨ k = 2 := by omega
    rcases this with rfl | rfl | rfl <;> rfl)
/-- rows of integers are in no block that holds none -/
theorem Rd.keep {w w' : World} {p : Option Addr} {c : Nat} {L : List Int} (h : Rd eI w p c L) {g : Nat} {cs : Array Value} {e : TypeId} (hg : Lv w g cs e) (hcs : ∀ (j : Nat) (x : Int), cs[j]? ≠ some (.int .i64 x)) (hw : ∀ b, b < w.heap.size → b ≠ g → w'.heap[b]? = w.heap[b]?) : Rd eI w' p c L := by
  cases L with
  | nil => exact Rd.void h
  | cons x R =>
    obtain ⟨b, o, rfl, hb, hc⟩ := h.num 0 (by simp)
    have hne : b ≠ g := by
      rintro rfl
      rw [cell_of_row _ _ _ _ _ _ hg] at hc
      exact hcs _ _ hc
    refine ⟨h.cap, ?_⟩
    rcases h.at_ with ⟨h0, _⟩ | ⟨b', o', s, h1, hs, hc'⟩
    · cases h0
    · cases h1
      refine .inr ⟨b, o, none, rfl, fun _ => rfl, fun j v hj => ?_⟩
      rw [World.cell?_of_block (a := ⟨b, o + j, none⟩) (hw b hb hne)]
      exact hc' j v hj
theorem Bx.keep {w w' : World} {p : Option Addr} {c n : Nat} {L : List Int} {q : Option Addr} {d m : Nat} {Q : List Int} (h : Bx w p c n L q d m Q) {g : Nat} {cs : Array Value} {e : TypeId} (hg : Lv w g cs e) (hcs : ∀ (j : Nat) (x : Int), cs[j]? ≠ some (.int .i64 x)) (hw : ∀ b, b < w.heap.size → b ≠ g → w'.heap[b]? = w.heap[b]?) : Bx w' p c n L q d m Q :=
  ⟨h.rl.keep hg hcs hw, h.rq.keep hg hcs hw, h.ln, h.lm, h.n9, h.m9⟩
theorem two_no {p1 q1 : Option Addr} {n1 c1 m1 d1 : Nat} (j : Nat) (x : Int) : (#[Value.slice p1 n1 c1, Value.slice q1 m1 d1] : Array Value)[j]? ≠ some (.int .i64 x) := by
  match j with
  | 0 => simp
  | 1 => simp
  | j + 2 => simp
theorem Bx.stored {w : World} {p : Option Addr} {c n : Nat} {L : List Int} {q : Option Addr} {d m : Nat} {Q : List Int} (h : Bx w p c n L q d m Q) {g : Nat} {p1 q1 : Option Addr} {n1 c1 m1 d1 : Nat} (hg : Lv w g #[.slice p1 n1 c1, .slice q1 m1 d1] 25) (a b : Value) : Bx ((w.setCell ⟨g, 0, none⟩ a).setCell ⟨g, 1, none⟩ b) p c n L q d m Q :=
  h.keep hg two_no (fun k _ hk => by rw [Below.heap_setCell _ _ _ _ hk, Below.heap_setCell _ _ _ _ hk])
theorem Bx.kp {w w' : World} {p : Option Addr} {c n : Nat} {L : List Int} {q : Option Addr} {d m : Nat} {Q : List Int} (h : Bx w p c n L q d m Q) {g : Nat} {p1 q1 : Option Addr} {n1 c1 m1 d1 : Nat} (hg : BV w g p1 c1 n1 q1 d1 m1) (hk : Kp g w w') : Bx w' p c n L q d m Q :=
  h.keep hg two_no (fun b hb hne => hk.block b hb (by intro e; cases e; exact hne rfl))
theorem BV.fz {w : World} {g : Nat} {p : Option Addr} {c n : Nat} {q : Option Addr} {d m : Nat} (h : BV w g p c n q d m) (j : Nat) : w.frozen? ⟨g, j, none⟩ = false := Lv.fz h j
theorem BV.lt {w : World} {g : Nat} {p : Option Addr} {c n : Nat} {q : Option Addr} {d m : Nat} (h : BV w g p c n q d m) : g < w.heap.size := Lv.lt h
/-- the variable is written -/
theorem BV.put {w : World} {g : Nat} {p0 : Option Addr} {c0 n0 : Nat} {q0 : Option Addr} {d0 m0 : Nat} (h : BV w g p0 c0 n0 q0 d0 m0) (p : Option Addr) (c n : Nat) (q : Option Addr) (d m : Nat) : BV ((w.setCell ⟨g, 0, none⟩ (.slice p n c)).setCell ⟨g, 1, none⟩ (.slice q m d)) g p c n q d m := (Lv.set h 0 (.slice p n c)).set 1 (.slice q m d)
theorem BV.kp {w w' : World} {g x : Nat} {p : Option Addr} {c n : Nat} {q : Option Addr} {d m : Nat} (h : BV w g p c n q d m) (hk : Kp x w w') (hn : g ≠ x) : BV w' g p c n q d m := (hk.block g (Lv.lt h) (by intro e; cases e; exact hn rfl)).trans h
theorem Kp.put {w w' : World} {g : Nat} (h : Kp g w w') (a b : Value) : Kp g w ((w'.setCell ⟨g, 0, none⟩ a).setCell ⟨g, 1, none⟩ b) := (h.trans (Kp.set rfl a)).trans (Kp.set rfl b)
theorem Kp.bel {w w1 w' : World} {g : Nat} (h : Kp g w w1) (hb : Below w1.heap.size w1 w') : Kp g w w' := h.trans (Kp.of_below hb)
end Go.Proofs.Ytfghondhonflaaa
