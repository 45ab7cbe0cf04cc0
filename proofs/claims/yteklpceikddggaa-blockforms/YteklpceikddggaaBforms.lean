/-
  The law BlockForms, walked.
-/
import Derived.Test.YteklpceikddggaaBall
import Derived.Deep.CutBlock
import Derived.Deep.CutRange
namespace Go.Proofs.Yteklpceikddggaa
open Go.ChangeShapes Go.WideShapes Go.ChangeAt Go.RowKit
attribute [local go_sem ↓] Go.wp_at_zero Go.wp_at_succ

def code5 : List (List In) := [[(1, 0, 0, 0), (0, 0, 0, 0)], [(9, 0, 0, 0), (1, 0, 0, 0), (10, 0, 0, 0), (0, 0, 0, 0)], [(9, 1, 0, 0), (1, 0, 0, 0), (1, 0, 0, 0), (1, 0, 0, 0), (10, 1, 0, 0), (0, 0, 0, 0)], [(9, 0, 0, 0), (1, 0, 0, 0), (1, 0, 0, 0), (10, 0, 0, 0), (9, 1, 0, 0), (10, 1, 0, 0), (0, 0, 0, 0)], [(1, 0, 0, 0), (0, 0, 0, 0)]]
def SP5 : List Sn := [[], [(0, 2)], [(1, 4)], [(0, 3), (1, 1)], []]
def want5 : List Int := [0, 3, 3, 4, 4]
theorem e5 : ∀ i, i < 5 → erT (i : Nat) 99 99 (code5.getD i []) [] [] = 0 ∧ spaT 0 (code5.getD i []) [] = SP5.getD i [] := by decide +kernel
theorem b5 : ∀ i, i < 5 → byv SP5 5 (i : Nat) = want5.getD i 0 := by decide +kernel
theorem c5 : ceilv SP5 5 0 = 1 ∧ ceilv SP5 5 1 = 2 ∧ ceilv SP5 5 2 = 8 ∧ ceilv SP5 5 (-1) = 8 := by decide +kernel
theorem l5 : ∀ i, i < 5 → (code5.getD i []).length ≤ 7 := by decide
theorem rd5 {W : World} {b n : Nat} {cs : Array Value} {l : List In} (h : W.heap[b]? = some (.cells cs 30 (0, 0))) (hn : l.length = n) (hl : cs.toList = fl eIn l) : Rd eIn W (some ⟨b, 0, none⟩) n l := rd_block h n hn hl
/-- the tasks that are there so far -/
structure Five (W : World) (P : List Tv) (k : Nat) : Prop where
  len : P.length = k
  tk : ∀ (j : Nat) (h : j < P.length), Gt W P[j] (code5.getD j []) [] [] ∧ P[j].r = (j : Int) ∧ P[j].p = 99 ∧ P[j].e = 99
theorem Five.snoc {W : World} {P : List Tv} {k : Nat} (h : Five W P k) {x : Tv} (hx : Gt W x (code5.getD k []) [] []) (h1 : x.r = (k : Int)) (h2 : x.p = 99) (h3 : x.e = 99) : Five W (P ++ [x]) (k + 1) := by
  have hl := h.len
  refine ⟨by rw [List.length_append, hl]; rfl, fun j hj => ?_⟩
  by_cases hk : j < k
  · have e1 : (P ++ [x])[j] = P[j]'(by omega) := List.getElem_append_left (by omega)
    rw [e1]; exact h.tk j (by omega)
  · have hk2 : j = k := by rw [List.length_append, hl] at hj; simp at hj; omega
    subst hk2
    have e1 : (P ++ [x])[j] = x := by rw [List.getElem_append_right (by omega)]; simp
    rw [e1]; exact ⟨hx, h1, h2, h3⟩
theorem Five.row {W w : World} {P : List Tv} {p : Option Addr} {c : Nat} (h : Five W P 5) (hr : Rd eTk w p c P) (hb : Below W.heap.size W w) : Rowd w p c 5 P SP5 :=
  ⟨hr, h.len, rfl, fun k h1 h2 => by
    obtain ⟨a1, a2, a3, a4⟩ := h.tk k h1
    have hk : k < 5 := h2
    obtain ⟨b1, b2⟩ := e5 k hk
    refine ⟨_, _, _, 0, a1.below hb, by rw [a2, a3, a4]; exact b1, ?_⟩
    rw [b2, List.getD_eq_getElem?_getD, List.getElem?_eq_getElem h2]; rfl⟩
set_option maxRecDepth 20000 in
set_option maxHeartbeats 4000000 in
theorem bforms_walk (w : World) : Calls Try.prog 6 #[] w fun e w' => e = .returned (.bool true) ∧ Below w.heap.size w w' := by
  go_enter Try.func6, Try.ntmps6
  go_upto_region 6 with (go_at_call 8; refine (begun_any _).mono ?_; rintro e w1 ⟨rfl, hb1⟩)
  have hrows : ∀ i, i < 5 → ∃ b n, ((((((((((((w1.alloc (.cells #[.int .i64 0, .int .i64 0, .int .i64 0, .int .i64 0] 30)).alloc (.cells #[.int .i64 1, .int .i64 0, .int .i64 0, .int .i64 0] 30)).alloc (.cells #[.int .i64 9, .int .i64 0, .int .i64 0, .int .i64 0] 30)).alloc (.cells #[.int .i64 10, .int .i64 0, .int .i64 0, .int .i64 0] 30)).alloc (.cells #[.int .i64 9, .int .i64 1, .int .i64 0, .int .i64 0] 30)).alloc (.cells #[.int .i64 10, .int .i64 1, .int .i64 0, .int .i64 0] 30)).alloc (.cells #[.int .i64 1, .int .i64 0, .int .i64 0, .int .i64 0, .int .i64 0, .int .i64 0, .int .i64 0, .int .i64 0] 30)).alloc (.cells #[.int .i64 9, .int .i64 0, .int .i64 0, .int .i64 0, .int .i64 1, .int .i64 0, .int .i64 0, .int .i64 0, .int .i64 10, .int .i64 0, .int .i64 0, .int .i64 0, .int .i64 0, .int .i64 0, .int .i64 0, .int .i64 0] 30)).alloc (.cells #[.int .i64 9, .int .i64 1, .int .i64 0, .int .i64 0, .int .i64 1, .int .i64 0, .int .i64 0, .int .i64 0, .int .i64 1, .int .i64 0, .int .i64 0, .int .i64 0, .int .i64 1, .int .i64 0, .int .i64 0, .int .i64 0, .int .i64 10, .int .i64 1, .int .i64 0, .int .i64 0, .int .i64 0, .int .i64 0, .int .i64 0, .int .i64 0] 30)).alloc (.cells #[.int .i64 9, .int .i64 0, .int .i64 0, .int .i64 0, .int .i64 1, .int .i64 0, .int .i64 0, .int .i64 0, .int .i64 1, .int .i64 0, .int .i64 0, .int .i64 0, .int .i64 10, .int .i64 0, .int .i64 0, .int .i64 0, .int .i64 9, .int .i64 1, .int .i64 0, .int .i64 0, .int .i64 10, .int .i64 1, .int .i64 0, .int .i64 0, .int .i64 0, .int .i64 0, .int .i64 0, .int .i64 0] 30)).alloc (.cells #[.int .i64 1, .int .i64 0, .int .i64 0, .int .i64 0, .int .i64 0, .int .i64 0, .int .i64 0, .int .i64 0] 30)).alloc (.cells #[.slice (some ⟨w1.heap.size + 1 + 1 + 1 + 1 + 1 + 1, 0, none⟩) 2 2, .slice (some ⟨w1.heap.size + 1 + 1 + 1 + 1 + 1 + 1 + 1, 0, none⟩) 4 4, .slice (some ⟨w1.heap.size + 1 + 1 + 1 + 1 + 1 + 1 + 1 + 1, 0, none⟩) 6 6, .slice (some ⟨w1.heap.size + 1 + 1 + 1 + 1 + 1 + 1 + 1 + 1 + 1, 0, none⟩) 7 7, .slice (some ⟨w1.heap.size + 1 + 1 + 1 + 1 + 1 + 1 + 1 + 1 + 1 + 1, 0, none⟩) 2 2] 31)).cell? ⟨w1.heap.size + 1 + 1 + 1 + 1 + 1 + 1 + 1 + 1 + 1 + 1 + 1, i, none⟩ = some (.slice (some ⟨b, 0, none⟩) n n) ∧ Rd eIn ((((((((((((w1.alloc (.cells #[.int .i64 0, .int .i64 0, .int .i64 0, .int .i64 0] 30)).alloc (.cells #[.int .i64 1, .int .i64 0, .int .i64 0, .int .i64 0] 30)).alloc (.cells #[.int .i64 9, .int .i64 0, .int .i64 0, .int .i64 0] 30)).alloc (.cells #[.int .i64 10, .int .i64 0, .int .i64 0, .int .i64 0] 30)).alloc (.cells #[.int .i64 9, .int .i64 1, .int .i64 0, .int .i64 0] 30)).alloc (.cells #[.int .i64 10, .int .i64 1, .int .i64 0, .int .i64 0] 30)).alloc (.cells #[.int .i64 1, .int .i64 0, .int .i64 0, .int .i64 0, .int .i64 0, .int .i64 0, .int .i64 0, .int .i64 0] 30)).alloc (.cells #[.int .i64 9, .int .i64 0, .int .i64 0, .int .i64 0, .int .i64 1, .int .i64 0, .int .i64 0, .int .i64 0, .int .i64 10, .int .i64 0, .int .i64 0, .int .i64 0, .int .i64 0, .int .i64 0, .int .i64 0, .int .i64 0] 30)).alloc (.cells #[.int .i64 9, .int .i64 1, .int .i64 0, .int .i64 0, .int .i64 1, .int .i64 0, .int .i64 0, .int .i64 0, .int .i64 1, .int .i64 0, .int .i64 0, .int .i64 0, .int .i64 1, .int .i64 0, .int .i64 0, .int .i64 0, .int .i64 10, .int .i64 1, .int .i64 0, .int .i64 0, .int .i64 0, .int .i64 0, .int .i64 0, .int .i64 0] 30)).alloc (.cells #[.int .i64 9, .int .i64 0, .int .i64 0, .int .i64 0, .int .i64 1, .int .i64 0, .int .i64 0, .int .i64 0, .int .i64 1, .int .i64 0, .int .i64 0, .int .i64 0, .int .i64 10, .int .i64 0, .int .i64 0, .int .i64 0, .int .i64 9, .int .i64 1, .int .i64 0, .int .i64 0, .int .i64 10, .int .i64 1, .int .i64 0, .int .i64 0, .int .i64 0, .int .i64 0, .int .i64 0, .int .i64 0] 30)).alloc (.cells #[.int .i64 1, .int .i64 0, .int .i64 0, .int .i64 0, .int .i64 0, .int .i64 0, .int .i64 0, .int .i64 0] 30)).alloc (.cells #[.slice (some ⟨w1.heap.size + 1 + 1 + 1 + 1 + 1 + 1, 0, none⟩) 2 2, .slice (some ⟨w1.heap.size + 1 + 1 + 1 + 1 + 1 + 1 + 1, 0, none⟩) 4 4, .slice (some ⟨w1.heap.size + 1 + 1 + 1 + 1 + 1 + 1 + 1 + 1, 0, none⟩) 6 6, .slice (some ⟨w1.heap.size + 1 + 1 + 1 + 1 + 1 + 1 + 1 + 1 + 1, 0, none⟩) 7 7, .slice (some ⟨w1.heap.size + 1 + 1 + 1 + 1 + 1 + 1 + 1 + 1 + 1 + 1, 0, none⟩) 2 2] 31)) (some ⟨b, 0, none⟩) n (code5.getD i []) ∧ (code5.getD i []).length = n := by
    have hc : ∀ j v, (#[.slice (some ⟨w1.heap.size + 1 + 1 + 1 + 1 + 1 + 1, 0, none⟩) 2 2, .slice (some ⟨w1.heap.size + 1 + 1 + 1 + 1 + 1 + 1 + 1, 0, none⟩) 4 4, .slice (some ⟨w1.heap.size + 1 + 1 + 1 + 1 + 1 + 1 + 1 + 1, 0, none⟩) 6 6, .slice (some ⟨w1.heap.size + 1 + 1 + 1 + 1 + 1 + 1 + 1 + 1 + 1, 0, none⟩) 7 7, .slice (some ⟨w1.heap.size + 1 + 1 + 1 + 1 + 1 + 1 + 1 + 1 + 1 + 1, 0, none⟩) 2 2] : Array Value)[j]? = some v → ((((((((((((w1.alloc (.cells #[.int .i64 0, .int .i64 0, .int .i64 0, .int .i64 0] 30)).alloc (.cells #[.int .i64 1, .int .i64 0, .int .i64 0, .int .i64 0] 30)).alloc (.cells #[.int .i64 9, .int .i64 0, .int .i64 0, .int .i64 0] 30)).alloc (.cells #[.int .i64 10, .int .i64 0, .int .i64 0, .int .i64 0] 30)).alloc (.cells #[.int .i64 9, .int .i64 1, .int .i64 0, .int .i64 0] 30)).alloc (.cells #[.int .i64 10, .int .i64 1, .int .i64 0, .int .i64 0] 30)).alloc (.cells #[.int .i64 1, .int .i64 0, .int .i64 0, .int .i64 0, .int .i64 0, .int .i64 0, .int .i64 0, .int .i64 0] 30)).alloc (.cells #[.int .i64 9, .int .i64 0, .int .i64 0, .int .i64 0, .int .i64 1, .int .i64 0, .int .i64 0, .int .i64 0, .int .i64 10, .int .i64 0, .int .i64 0, .int .i64 0, .int .i64 0, .int .i64 0, .int .i64 0, .int .i64 0] 30)).alloc (.cells #[.int .i64 9, .int .i64 1, .int .i64 0, .int .i64 0, .int .i64 1, .int .i64 0, .int .i64 0, .int .i64 0, .int .i64 1, .int .i64 0, .int .i64 0, .int .i64 0, .int .i64 1, .int .i64 0, .int .i64 0, .int .i64 0, .int .i64 10, .int .i64 1, .int .i64 0, .int .i64 0, .int .i64 0, .int .i64 0, .int .i64 0, .int .i64 0] 30)).alloc (.cells #[.int .i64 9, .int .i64 0, .int .i64 0, .int .i64 0, .int .i64 1, .int .i64 0, .int .i64 0, .int .i64 0, .int .i64 1, .int .i64 0, .int .i64 0, .int .i64 0, .int .i64 10, .int .i64 0, .int .i64 0, .int .i64 0, .int .i64 9, .int .i64 1, .int .i64 0, .int .i64 0, .int .i64 10, .int .i64 1, .int .i64 0, .int .i64 0, .int .i64 0, .int .i64 0, .int .i64 0, .int .i64 0] 30)).alloc (.cells #[.int .i64 1, .int .i64 0, .int .i64 0, .int .i64 0, .int .i64 0, .int .i64 0, .int .i64 0, .int .i64 0] 30)).alloc (.cells #[.slice (some ⟨w1.heap.size + 1 + 1 + 1 + 1 + 1 + 1, 0, none⟩) 2 2, .slice (some ⟨w1.heap.size + 1 + 1 + 1 + 1 + 1 + 1 + 1, 0, none⟩) 4 4, .slice (some ⟨w1.heap.size + 1 + 1 + 1 + 1 + 1 + 1 + 1 + 1, 0, none⟩) 6 6, .slice (some ⟨w1.heap.size + 1 + 1 + 1 + 1 + 1 + 1 + 1 + 1 + 1, 0, none⟩) 7 7, .slice (some ⟨w1.heap.size + 1 + 1 + 1 + 1 + 1 + 1 + 1 + 1 + 1 + 1, 0, none⟩) 2 2] 31)).cell? ⟨w1.heap.size + 1 + 1 + 1 + 1 + 1 + 1 + 1 + 1 + 1 + 1 + 1, j, none⟩ = some v := fun j v hv => by
      exact Lv.c (cs := #[.slice (some ⟨w1.heap.size + 1 + 1 + 1 + 1 + 1 + 1, 0, none⟩) 2 2, .slice (some ⟨w1.heap.size + 1 + 1 + 1 + 1 + 1 + 1 + 1, 0, none⟩) 4 4, .slice (some ⟨w1.heap.size + 1 + 1 + 1 + 1 + 1 + 1 + 1 + 1, 0, none⟩) 6 6, .slice (some ⟨w1.heap.size + 1 + 1 + 1 + 1 + 1 + 1 + 1 + 1 + 1, 0, none⟩) 7 7, .slice (some ⟨w1.heap.size + 1 + 1 + 1 + 1 + 1 + 1 + 1 + 1 + 1 + 1, 0, none⟩) 2 2]) (e := 31) (show ((((((((((((w1.alloc (.cells #[.int .i64 0, .int .i64 0, .int .i64 0, .int .i64 0] 30)).alloc (.cells #[.int .i64 1, .int .i64 0, .int .i64 0, .int .i64 0] 30)).alloc (.cells #[.int .i64 9, .int .i64 0, .int .i64 0, .int .i64 0] 30)).alloc (.cells #[.int .i64 10, .int .i64 0, .int .i64 0, .int .i64 0] 30)).alloc (.cells #[.int .i64 9, .int .i64 1, .int .i64 0, .int .i64 0] 30)).alloc (.cells #[.int .i64 10, .int .i64 1, .int .i64 0, .int .i64 0] 30)).alloc (.cells #[.int .i64 1, .int .i64 0, .int .i64 0, .int .i64 0, .int .i64 0, .int .i64 0, .int .i64 0, .int .i64 0] 30)).alloc (.cells #[.int .i64 9, .int .i64 0, .int .i64 0, .int .i64 0, .int .i64 1, .int .i64 0, .int .i64 0, .int .i64 0, .int .i64 10, .int .i64 0, .int .i64 0, .int .i64 0, .int .i64 0, .int .i64 0, .int .i64 0, .int .i64 0] 30)).alloc (.cells #[.int .i64 9, .int .i64 1, .int .i64 0, .int .i64 0, .int .i64 1, .int .i64 0, .int .i64 0, .int .i64 0, .int .i64 1, .int .i64 0, .int .i64 0, .int .i64 0, .int .i64 1, .int .i64 0, .int .i64 0, .int .i64 0, .int .i64 10, .int .i64 1, .int .i64 0, .int .i64 0, .int .i64 0, .int .i64 0, .int .i64 0, .int .i64 0] 30)).alloc (.cells #[.int .i64 9, .int .i64 0, .int .i64 0, .int .i64 0, .int .i64 1, .int .i64 0, .int .i64 0, .int .i64 0, .int .i64 1, .int .i64 0, .int .i64 0, .int .i64 0, .int .i64 10, .int .i64 0, .int .i64 0, .int .i64 0, .int .i64 9, .int .i64 1, .int .i64 0, .int .i64 0, .int .i64 10, .int .i64 1, .int .i64 0, .int .i64 0, .int .i64 0, .int .i64 0, .int .i64 0, .int .i64 0] 30)).alloc (.cells #[.int .i64 1, .int .i64 0, .int .i64 0, .int .i64 0, .int .i64 0, .int .i64 0, .int .i64 0, .int .i64 0] 30)).alloc (.cells #[.slice (some ⟨w1.heap.size + 1 + 1 + 1 + 1 + 1 + 1, 0, none⟩) 2 2, .slice (some ⟨w1.heap.size + 1 + 1 + 1 + 1 + 1 + 1 + 1, 0, none⟩) 4 4, .slice (some ⟨w1.heap.size + 1 + 1 + 1 + 1 + 1 + 1 + 1 + 1, 0, none⟩) 6 6, .slice (some ⟨w1.heap.size + 1 + 1 + 1 + 1 + 1 + 1 + 1 + 1 + 1, 0, none⟩) 7 7, .slice (some ⟨w1.heap.size + 1 + 1 + 1 + 1 + 1 + 1 + 1 + 1 + 1 + 1, 0, none⟩) 2 2] 31)).heap[w1.heap.size + 1 + 1 + 1 + 1 + 1 + 1 + 1 + 1 + 1 + 1 + 1]? = some (Obj.cells #[.slice (some ⟨w1.heap.size + 1 + 1 + 1 + 1 + 1 + 1, 0, none⟩) 2 2, .slice (some ⟨w1.heap.size + 1 + 1 + 1 + 1 + 1 + 1 + 1, 0, none⟩) 4 4, .slice (some ⟨w1.heap.size + 1 + 1 + 1 + 1 + 1 + 1 + 1 + 1, 0, none⟩) 6 6, .slice (some ⟨w1.heap.size + 1 + 1 + 1 + 1 + 1 + 1 + 1 + 1 + 1, 0, none⟩) 7 7, .slice (some ⟨w1.heap.size + 1 + 1 + 1 + 1 + 1 + 1 + 1 + 1 + 1 + 1, 0, none⟩) 2 2] 31 (0, 0)) from heap_at (by simp)) j hv
    intro i hi
    have : i = 0 ∨ i = 1 ∨ i = 2 ∨ i = 3 ∨ i = 4 := by omega
    rcases this with rfl | rfl | rfl | rfl | rfl
    · exact ⟨_, _, hc 0 _ rfl, rd5 (b := w1.heap.size + 1 + 1 + 1 + 1 + 1 + 1) (cs := #[.int .i64 1, .int .i64 0, .int .i64 0, .int .i64 0, .int .i64 0, .int .i64 0, .int .i64 0, .int .i64 0]) (by repeat (first | (refine heap_at ?_; simp; done) | (refine Eq.trans (Below.heap_alloc _ _ _ ?_) ?_; (· first | (simp; done) | (simp; omega))))) rfl rfl, rfl⟩
    · exact ⟨_, _, hc 1 _ rfl, rd5 (b := w1.heap.size + 1 + 1 + 1 + 1 + 1 + 1 + 1) (cs := #[.int .i64 9, .int .i64 0, .int .i64 0, .int .i64 0, .int .i64 1, .int .i64 0, .int .i64 0, .int .i64 0, .int .i64 10, .int .i64 0, .int .i64 0, .int .i64 0, .int .i64 0, .int .i64 0, .int .i64 0, .int .i64 0]) (by repeat (first | (refine heap_at ?_; simp; done) | (refine Eq.trans (Below.heap_alloc _ _ _ ?_) ?_; (· first | (simp; done) | (simp; omega))))) rfl rfl, rfl⟩
    · exact ⟨_, _, hc 2 _ rfl, rd5 (b := w1.heap.size + 1 + 1 + 1 + 1 + 1 + 1 + 1 + 1) (cs := #[.int .i64 9, .int .i64 1, .int .i64 0, .int .i64 0, .int .i64 1, .int .i64 0, .int .i64 0, .int .i64 0, .int .i64 1, .int .i64 0, .int .i64 0, .int .i64 0, .int .i64 1, .int .i64 0, .int .i64 0, .int .i64 0, .int .i64 10, .int .i64 1, .int .i64 0, .int .i64 0, .int .i64 0, .int .i64 0, .int .i64 0, .int .i64 0]) (by repeat (first | (refine heap_at ?_; simp; done) | (refine Eq.trans (Below.heap_alloc _ _ _ ?_) ?_; (· first | (simp; done) | (simp; omega))))) rfl rfl, rfl⟩
    · exact ⟨_, _, hc 3 _ rfl, rd5 (b := w1.heap.size + 1 + 1 + 1 + 1 + 1 + 1 + 1 + 1 + 1) (cs := #[.int .i64 9, .int .i64 0, .int .i64 0, .int .i64 0, .int .i64 1, .int .i64 0, .int .i64 0, .int .i64 0, .int .i64 1, .int .i64 0, .int .i64 0, .int .i64 0, .int .i64 10, .int .i64 0, .int .i64 0, .int .i64 0, .int .i64 9, .int .i64 1, .int .i64 0, .int .i64 0, .int .i64 10, .int .i64 1, .int .i64 0, .int .i64 0, .int .i64 0, .int .i64 0, .int .i64 0, .int .i64 0]) (by repeat (first | (refine heap_at ?_; simp; done) | (refine Eq.trans (Below.heap_alloc _ _ _ ?_) ?_; (· first | (simp; done) | (simp; omega))))) rfl rfl, rfl⟩
    · exact ⟨_, _, hc 4 _ rfl, rd5 (b := w1.heap.size + 1 + 1 + 1 + 1 + 1 + 1 + 1 + 1 + 1 + 1) (cs := #[.int .i64 1, .int .i64 0, .int .i64 0, .int .i64 0, .int .i64 0, .int .i64 0, .int .i64 0, .int .i64 0]) (by repeat (first | (refine heap_at ?_; simp; done) | (refine Eq.trans (Below.heap_alloc _ _ _ ?_) ?_; (· first | (simp; done) | (simp; omega))))) rfl rfl, rfl⟩
  generalize hWN : ((((((((((((w1.alloc (.cells #[.int .i64 0, .int .i64 0, .int .i64 0, .int .i64 0] 30)).alloc (.cells #[.int .i64 1, .int .i64 0, .int .i64 0, .int .i64 0] 30)).alloc (.cells #[.int .i64 9, .int .i64 0, .int .i64 0, .int .i64 0] 30)).alloc (.cells #[.int .i64 10, .int .i64 0, .int .i64 0, .int .i64 0] 30)).alloc (.cells #[.int .i64 9, .int .i64 1, .int .i64 0, .int .i64 0] 30)).alloc (.cells #[.int .i64 10, .int .i64 1, .int .i64 0, .int .i64 0] 30)).alloc (.cells #[.int .i64 1, .int .i64 0, .int .i64 0, .int .i64 0, .int .i64 0, .int .i64 0, .int .i64 0, .int .i64 0] 30)).alloc (.cells #[.int .i64 9, .int .i64 0, .int .i64 0, .int .i64 0, .int .i64 1, .int .i64 0, .int .i64 0, .int .i64 0, .int .i64 10, .int .i64 0, .int .i64 0, .int .i64 0, .int .i64 0, .int .i64 0, .int .i64 0, .int .i64 0] 30)).alloc (.cells #[.int .i64 9, .int .i64 1, .int .i64 0, .int .i64 0, .int .i64 1, .int .i64 0, .int .i64 0, .int .i64 0, .int .i64 1, .int .i64 0, .int .i64 0, .int .i64 0, .int .i64 1, .int .i64 0, .int .i64 0, .int .i64 0, .int .i64 10, .int .i64 1, .int .i64 0, .int .i64 0, .int .i64 0, .int .i64 0, .int .i64 0, .int .i64 0] 30)).alloc (.cells #[.int .i64 9, .int .i64 0, .int .i64 0, .int .i64 0, .int .i64 1, .int .i64 0, .int .i64 0, .int .i64 0, .int .i64 1, .int .i64 0, .int .i64 0, .int .i64 0, .int .i64 10, .int .i64 0, .int .i64 0, .int .i64 0, .int .i64 9, .int .i64 1, .int .i64 0, .int .i64 0, .int .i64 10, .int .i64 1, .int .i64 0, .int .i64 0, .int .i64 0, .int .i64 0, .int .i64 0, .int .i64 0] 30)).alloc (.cells #[.int .i64 1, .int .i64 0, .int .i64 0, .int .i64 0, .int .i64 0, .int .i64 0, .int .i64 0, .int .i64 0] 30)).alloc (.cells #[.slice (some ⟨w1.heap.size + 1 + 1 + 1 + 1 + 1 + 1, 0, none⟩) 2 2, .slice (some ⟨w1.heap.size + 1 + 1 + 1 + 1 + 1 + 1 + 1, 0, none⟩) 4 4, .slice (some ⟨w1.heap.size + 1 + 1 + 1 + 1 + 1 + 1 + 1 + 1, 0, none⟩) 6 6, .slice (some ⟨w1.heap.size + 1 + 1 + 1 + 1 + 1 + 1 + 1 + 1 + 1, 0, none⟩) 7 7, .slice (some ⟨w1.heap.size + 1 + 1 + 1 + 1 + 1 + 1 + 1 + 1 + 1 + 1, 0, none⟩) 2 2] 31)) = W5 at hrows ⊢
  have bW : Below w1.heap.size w1 W5 := by rw [← hWN]; exact (by repeat (first | exact Below.refl _ _ | refine Below.alloc ?_ (by simp <;> omega) _))
  have hB5 := bel_call hb1 (Nat.le_refl _) bW
  have hzz : w1.heap.size + 1 + 1 + 1 + 1 + 1 + 1 + 1 + 1 + 1 + 1 + 1 < W5.heap.size := by rw [← hWN]; simp
  clear hWN bW hb1
  generalize w1.heap.size + 1 + 1 + 1 + 1 + 1 + 1 + 1 + 1 + 1 + 1 + 1 = gz at *
  go_wp2
  go_loopw [8, 9] (fun t i wr => ∃ (k : Nat) (z : Int) (p : Option Addr) (c : Nat) (P : List Tv), k ≤ 5 ∧ z = (k : Int) ∧ i = .int .i64 z ∧ t = .slice p k c ∧ Own eTk wr W5.heap.size 33 p c P ∧ Five W5 P k ∧ Below W5.heap.size W5 wr) (fun _ i _ => 5 - (intOf i).toNat)
  case atStart => exact ⟨0, 0, none, 0, [], by omega, rfl, rfl, rfl, own_nil _ _ _, ⟨rfl, fun j h => absurd h (by simp)⟩, Below.refl _ _⟩
  case round =>
    obtain ⟨k, z, p, c, P, hk, hz, rfl, rfl, o1, hF, hbw⟩ := hrel
    obtain ⟨W1, hW1⟩ : ∃ W1 : World, W1 = wr := ⟨_, rfl⟩
    subst hW1
    by_cases hlt : k < 5
    · subst hz
      have dk : decide ((k : Int) < 5) = true := by simp; omega
      obtain ⟨b, n, y0, rP, hn⟩ := hrows k hlt
      have y1 := (hbw.cell (p := ⟨gz, k, none⟩) hzz).trans y0
      have hn7 := l5 k hlt
      rw [hn] at hn7
      have HPl : Hid (P.length = k) := hF.len
      have hgt : Gt W5 ⟨(k : Int), 99, 99, some ⟨b, 0, none⟩, n, n, none, 0, 0, none, 0, 0⟩ (code5.getD k []) [] [] :=
        ⟨⟨rP, rd_nilE _, rd_nilE _, hn, rfl, rfl, by show n ≤ 1000; omega, (show 0 ≤ 1000 by decide), (show 0 ≤ 1000 by decide)⟩, (show I64 (k : Int) by unfold I64; omega), (show I64 99 by unfold I64; decide), (show I64 99 by unfold I64; decide)⟩
      have hF2 := hF.snoc hgt rfl rfl rfl
      have hsz := hbw.size
      clear hgt hF rP hn y0 hn7
      go_upto_region 9 with (at_builtin; refine wpList_app tTk _ rfl _ _ rfl W5.heap.size p c P k HPl.out rfl (own_below o1 (bel_self W1 (.cells #[.int .i64 k, .int .i64 99, .int .i64 99, .slice (some ⟨b, 0, none⟩) n n, .slice none 0 0, .slice none 0 0] 33))) _ _ [(⟨(k : Int), 99, 99, some ⟨b, 0, none⟩, n, n, none, 0, 0, none, 0, 0⟩ : Tv)] 1 rfl rfl (rd_block (E := eTk) (heap_at (by simp)) 1 rfl rfl) (by omega) (by simp; omega) (k + 1) rfl ?_; intro p4 c4 w4 o4 b4 g4)
      have bX : Below W5.heap.size W1 w4 := ((Below.refl _ _).alloc hsz _).trans b4
      have hb4 := hbw.trans bX
      clear o1 y1 g4 b4 bX hsz HPl
      go_wp2
      go_roundw
      case rel => exact ⟨k + 1, (k : Int) + 1, p4, c4, _, by omega, by omega, by go_num, rfl, o4, hF2, hb4⟩
      case measure => simp [intOf]; omega
    · obtain rfl : k = 5 := by omega
      have dk : decide (z < 5) = false := by simp; omega
      have hB1 := bel_call hB5 (Nat.le_refl _) hbw
      have hR := hF.row (own_rd o1) hbw
      obtain ⟨W2, hW2⟩ : ∃ W2, W1.alloc (.cells #[.int .i64 0, .int .i64 3, .int .i64 3, .int .i64 4, .int .i64 4] 2) = W2 := ⟨_, rfl⟩
      have s2 : Below W1.heap.size W1 W2 := by rw [← hW2]; exact bel_self _ _
      have hL : Lv W2 W1.heap.size #[.int .i64 0, .int .i64 3, .int .i64 3, .int .i64 4, .int .i64 4] 2 := by rw [← hW2]; exact Lv.new _ _ _
      have hR2 := hR.below s2
      have hB2 := bel_call hB1 (Nat.le_refl _) s2
      clear hR hF o1 hrows hbw hB5 hlt hk hzz hz
      generalize hgw : W1.heap.size = gw at hL
      go_upto_region 12 with fail
      clear hW2 hB1 s2 hgw
      go_wp2
      go_loopw [11] (fun i wr => ∃ k : Nat, k ≤ 5 ∧ i = .int .i64 k ∧ Below W2.heap.size W2 wr) (fun i _ => 5 - (intOf i).toNat)
      case atStart => exact ⟨0, by omega, rfl, Below.refl _ _⟩
      case round =>
        obtain ⟨k, hk, rfl, hbw⟩ := hrel
        obtain ⟨W3, hW3⟩ : ∃ W3 : World, W3 = wr := ⟨_, rfl⟩
        subst hW3
        have hR3 := hR2.below hbw
        by_cases hlt : k < 5
        · have dk : decide ((k : Int) < 5) = true := by simp; omega
          obtain ⟨B, hB⟩ : ∃ B, want5.getD k 0 = B := ⟨_, rfl⟩
          have hby := b5 k hlt
          rw [hB] at hby
          have hcs : (#[.int .i64 0, .int .i64 3, .int .i64 3, .int .i64 4, .int .i64 4] : Array Value)[k]? = some (.int .i64 B) := by
            have : k = 0 ∨ k = 1 ∨ k = 2 ∨ k = 3 ∨ k = 4 := by omega
            rcases this with rfl | rfl | rfl | rfl | rfl <;> subst hB <;> rfl
          have hL3 := hL.below hbw
          have hcl := fun w' (h : Below W3.heap.size W3 w') => (hL3.below h).c k hcs
          have KB := fun w' (h : Below W3.heap.size W3 w') => by_any p c 5 P SP5 w' (hR3.below h) (by decide) (k : Int) B hby
          have hkI : (k : Int) < 5 := by omega
          clear hB hcs hby hL3 hR3
          go_upto_region 15 with fail
          refine wp_region_held_drew (S := fun w' => Below W3.heap.size W3 w') (by kernel_rfl) (Below.refl _ _).drew (fun hHeld => ?_)
          refine wpAnyH_take (i := 0) (oi := _) (v := ?_) rfl (by kernel_rfl) (by kernel_rfl) (by kernel_rfl) (fun _ _ _ h => h) (Or.inl ⟨by rfl, ?_⟩) hHeld ?_
          rotate_left
          · intro w' hSw
            (go_simp <;> with_reducible rfl)
          try simp only [Act.put, List.getElem_toArray, List.getElem_cons_zero, List.setIfInBounds_toArray, List.set_cons_zero, List.set_cons_succ]
          refine wpAnyH_take (i := 1) (oi := _) (v := ?_) rfl (by kernel_rfl) (by kernel_rfl) (by kernel_rfl) (fun _ _ _ h => h) (Or.inl ⟨by rfl, ?_⟩) hHeld ?_
          rotate_left
          · intro w' hSw
            (go_simp <;> with_reducible rfl)
          try simp only [Act.put, List.getElem_toArray, List.getElem_cons_succ, List.getElem_cons_zero, List.setIfInBounds_toArray, List.set_cons_zero, List.set_cons_succ]
          refine wpAnyH_take (i := 3) (oi := _) (v := ?_) rfl (by kernel_rfl) (by kernel_rfl) (by kernel_rfl) (fun _ _ _ h => h) (Or.inl ⟨by rfl, ?_⟩) hHeld ?_
          rotate_left
          · intro w' hSw
            (go_simp <;> with_reducible rfl)
          try simp only [Act.put, List.getElem_toArray, List.getElem_cons_succ, List.getElem_cons_zero, List.setIfInBounds_toArray, List.set_cons_zero, List.set_cons_succ]
          refine wpAnyH_take (i := 4) (oi := _) (v := ?_) rfl (by kernel_rfl) (by kernel_rfl) (by kernel_rfl) (fun _ _ _ h => h) (Or.inl ⟨by rfl, ?_⟩) hHeld ?_
          rotate_left
          · intro w' hSw
            (go_simp <;> with_reducible rfl)
          try simp only [Act.put, List.getElem_toArray, List.getElem_cons_succ, List.getElem_cons_zero, List.setIfInBounds_toArray, List.set_cons_zero, List.set_cons_succ]
          refine wpAnyH_take (i := 5) (oi := _) (v := ?_) rfl (by kernel_rfl) (by kernel_rfl) (by kernel_rfl) (fun _ _ _ h => h) (Or.inl ⟨by rfl, ?_⟩) hHeld ?_
          rotate_left
          · intro w' hSw
            have y := hcl _ hSw
            (go_simp <;> with_reducible rfl)
          try simp only [Act.put, List.getElem_toArray, List.getElem_cons_succ, List.getElem_cons_zero, List.setIfInBounds_toArray, List.set_cons_zero, List.set_cons_succ]
          refine wpAnyH_take (i := 6) (oi := _) (v := ?_) rfl (by kernel_rfl) (by kernel_rfl) (by kernel_rfl) (fun _ _ _ h => h) (Or.inl ⟨by rfl, ?_⟩) hHeld ?_
          rotate_left
          · intro w' hSw
            have y := hcl _ hSw
            (go_simp <;> with_reducible rfl)
          try simp only [Act.put, List.getElem_toArray, List.getElem_cons_succ, List.getElem_cons_zero, List.setIfInBounds_toArray, List.set_cons_zero, List.set_cons_succ]
          refine wpAnyH_ready (rs := [2]) (by kernel_rfl) (by simp) ?_
          refine AllReadyH.cons (o := _) rfl (fun K hK => ?_) AllReadyH.nil
          go_simp
          go_at_call 10
          (with_reducible (refine (KB _ (Below.refl _ _).drew).mono ?_)); rintro e w4 ⟨rfl, b4⟩
          have b4 := bel_call ((Below.refl W3.heap.size W3).drew) (Nat.le_refl _) b4
          refine hK.out _ _ b4 (fun _ => ?_)
          refine wpAnyH_weaken (S' := fun w' => Below w4.heap.size w4 w') (fun w' h => bel_call b4 (Nat.le_refl _) h) _ _ _ _ ?_
          clear hHeld hK K
          have hHeld : Below w4.heap.size w4 w4 := Below.refl _ _
          try simp only [Act.put, List.getElem_toArray, List.getElem_cons_succ, List.getElem_cons_zero, List.setIfInBounds_toArray, List.set_cons_zero, List.set_cons_succ]
          refine wpAnyH_take (i := 7) (oi := _) (v := ?_) rfl (by kernel_rfl) (by kernel_rfl) (by kernel_rfl) (fun _ _ _ h => h) (Or.inl ⟨by rfl, ?_⟩) hHeld ?_
          rotate_left
          · intro w' hSw
            (go_simp <;> with_reducible rfl)
          try simp only [Act.put, List.getElem_toArray, List.getElem_cons_succ, List.getElem_cons_zero, List.setIfInBounds_toArray, List.set_cons_zero, List.set_cons_succ]
          refine wpAnyH_done (by kernel_rfl) ?_ _
          go_wp2
          have xB : (B != B) = false := by simp
          go_wp2
          go_roundw
          case rel => exact ⟨k + 1, by omega, by go_num, bel_call hbw (Nat.le_refl _) b4⟩
          case measure => simp [intOf]; omega
        · obtain rfl : k = 5 := by omega
          have dk : decide (((5 : Nat) : Int) < 5) = false := by decide
          obtain ⟨c0, c1, c2, c3⟩ := c5
          have i0 := ceil_is SP5 5 0
          have i1 := ceil_is SP5 5 1
          have i2 := ceil_is SP5 5 2
          have i3 := ceil_is SP5 5 (-1)
          rw [c0] at i0
          rw [c1] at i1
          rw [c2] at i2
          rw [c3] at i3
          have hN : ∀ w' : World, Rowd w' none 0 0 [] [] := fun w' => ⟨rd_nilE _, rfl, rfl, fun k h1 h2 => absurd h1 (by simp)⟩
          have K0 := ceil_any _ _ 5 P SP5 W3 hR3 (by decide) 0 1 i0
          have K1 := fun w' (hb : Below W3.heap.size W3 w') => ceil_any _ _ 5 P SP5 w' (hR3.below hb) (by decide) 1 2 i1
          have K2 := fun w' (hb : Below W3.heap.size W3 w') => ceil_any _ _ 5 P SP5 w' (hR3.below hb) (by decide) 2 8 i2
          have K3 := fun w' (hb : Below W3.heap.size W3 w') => ceil_any _ _ 5 P SP5 w' (hR3.below hb) (by decide) (-1) 8 i3
          have K4 := fun w' => ceil_any none 0 0 [] [] w' (hN w') (by decide) 0 8 (.inl ⟨rfl, fun j hj => absurd hj (by omega)⟩)
          have hB3 := bel_call hB2 (Nat.le_refl _) hbw
          clear i0 i1 i2 i3 c0 c1 c2 c3 hR3 hR2 hN hL hlt hk
          go_wp2_with (first
            | (go_at_call 12; (with_reducible (refine (K4 _).mono ?_)); rintro e w8 ⟨rfl, b8⟩; have b8 := bel_call b7 (Nat.le_refl _) b8)
            | (go_at_call 12; (with_reducible (refine (K3 _ b6).mono ?_)); rintro e w7 ⟨rfl, b7⟩; have b7 := bel_call b6 (Nat.le_refl _) b7)
            | (go_at_call 12; (with_reducible (refine (K2 _ b5).mono ?_)); rintro e w6 ⟨rfl, b6⟩; have b6 := bel_call b5 (Nat.le_refl _) b6)
            | (go_at_call 12; (with_reducible (refine (K1 _ b4).mono ?_)); rintro e w5 ⟨rfl, b5⟩; have b5 := bel_call b4 (Nat.le_refl _) b5)
            | (go_at_call 12; (with_reducible (refine K0.mono ?_)); rintro e w4 ⟨rfl, b4⟩))
          go_ret
          exact ⟨rfl, bel_call hB3 (Nat.le_refl _) b8⟩
end Go.Proofs.Yteklpceikddggaa
