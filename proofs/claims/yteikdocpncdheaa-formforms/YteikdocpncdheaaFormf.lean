/-
  The law FormForms, walked.
-/
import Derived.Test.YteikdocpncdheaaFreg
namespace Go.Proofs.Yteikdocpncdheaa
open Go.ChangeShapes Go.WideShapes Go.ChangeAt Go.RowKit
attribute [local go_sem ↓] Go.wp_at_zero Go.wp_at_succ

def yP : List (List In) := [[(0, 0, 0, 0)], [(11, 0, 0, 0), (11, 0, 0, 0), (0, 0, 0, 0)], [(9, 0, 0, 0), (9, 1, 0, 0), (1, 0, 0, 0), (10, 1, 0, 0), (10, 0, 0, 0), (0, 0, 0, 0)], [(8, 0, 2, 3), (9, 0, 0, 0), (10, 0, 0, 0), (0, 0, 0, 0)], [(8, 0, 4, 2), (1, 0, 0, 0), (8, 0, 2, 2), (1, 0, 0, 0), (1, 0, 0, 0), (0, 0, 0, 0)], [(7, 0, 0, 2), (9, 0, 0, 0), (10, 0, 0, 0), (11, 0, 0, 0), (0, 0, 0, 0)], [(9, 0, 0, 0), (8, 0, 1, 2), (1, 0, 0, 0), (7, 0, 0, 1), (1, 0, 0, 0), (10, 0, 0, 0), (0, 0, 0, 0)], [(8, 0, 3, 2), (7, 0, 0, 2), (1, 0, 0, 0), (1, 0, 0, 0), (0, 0, 0, 0)]]
def nP : List (List In) := [[], [(1, 0, 0, 0)], [(0, 0, 0, 0), (0, 0, 0, 0)], [(0, 0, 0, 0), (1, 0, 0, 0)], [(8, 0, 1, 2), (0, 0, 0, 0)], [(7, 0, 0, 1), (0, 0, 0, 0)], [(9, 0, 0, 0), (0, 0, 0, 0)], [(10, 0, 0, 0), (0, 0, 0, 0)], [(9, 0, 0, 0), (9, 1, 0, 0), (10, 0, 0, 0), (10, 1, 0, 0), (0, 0, 0, 0)], [(9, 0, 0, 0), (9, 0, 0, 0), (10, 0, 0, 0), (10, 0, 0, 0), (0, 0, 0, 0)], [(9, 0, 0, 0), (11, 0, 0, 0), (10, 0, 0, 0), (0, 0, 0, 0)], [(8, 0, 1, 2), (11, 0, 0, 0), (0, 0, 0, 0)], [(7, 0, 0, 1), (11, 0, 0, 0), (0, 0, 0, 0)], [(8, 0, 1, 2), (9, 0, 0, 0), (10, 0, 0, 0), (0, 0, 0, 0)], [(9, 0, 0, 0), (7, 0, 0, 1), (10, 0, 0, 0), (1, 0, 0, 0), (0, 0, 0, 0)], [(8, 0, 2, 2), (1, 0, 0, 0), (7, 0, 0, 1), (1, 0, 0, 0), (0, 0, 0, 0)], [(8, 0, 1, 2), (8, 0, 1, 2), (1, 0, 0, 0), (0, 0, 0, 0)], [(8, 0, 5, 2), (8, 0, 4, 2), (8, 0, 3, 2), (1, 0, 0, 0), (1, 0, 0, 0), (1, 0, 0, 0), (0, 0, 0, 0)], [(7, 0, 0, 2), (1, 0, 0, 0), (8, 0, 2, 2), (1, 0, 0, 0), (1, 0, 0, 0), (0, 0, 0, 0)], [(9, 0, 0, 0), (9, 1, 0, 0), (9, 2, 0, 0), (10, 2, 0, 0), (10, 1, 0, 0), (10, 0, 0, 0), (0, 0, 0, 0)]]
set_option maxRecDepth 100000 in
theorem y_ok : ∀ k, k < 8 → okB (yP.getD k []) = true ∧ (yP.getD k []).length ≤ 24 := by decide
set_option maxRecDepth 100000 in
theorem n_ok : ∀ k, k < 20 → okB (nP.getD k []) = false ∧ (nP.getD k []).length ≤ 24 := by decide
set_option maxRecDepth 100000 in
theorem lit184 (xs : Array Value) (h : xs.size = 184) : ∃ f : Nat → Value, xs = #[f 0, f 1, f 2, f 3, f 4, f 5, f 6, f 7, f 8, f 9, f 10, f 11, f 12, f 13, f 14, f 15, f 16, f 17, f 18, f 19, f 20, f 21, f 22, f 23, f 24, f 25, f 26, f 27, f 28, f 29, f 30, f 31, f 32, f 33, f 34, f 35, f 36, f 37, f 38, f 39, f 40, f 41, f 42, f 43, f 44, f 45, f 46, f 47, f 48, f 49, f 50, f 51, f 52, f 53, f 54, f 55, f 56, f 57, f 58, f 59, f 60, f 61, f 62, f 63, f 64, f 65, f 66, f 67, f 68, f 69, f 70, f 71, f 72, f 73, f 74, f 75, f 76, f 77, f 78, f 79, f 80, f 81, f 82, f 83, f 84, f 85, f 86, f 87, f 88, f 89, f 90, f 91, f 92, f 93, f 94, f 95, f 96, f 97, f 98, f 99, f 100, f 101, f 102, f 103, f 104, f 105, f 106, f 107, f 108, f 109, f 110, f 111, f 112, f 113, f 114, f 115, f 116, f 117, f 118, f 119, f 120, f 121, f 122, f 123, f 124, f 125, f 126, f 127, f 128, f 129, f 130, f 131, f 132, f 133, f 134, f 135, f 136, f 137, f 138, f 139, f 140, f 141, f 142, f 143, f 144, f 145, f 146, f 147, f 148, f 149, f 150, f 151, f 152, f 153, f 154, f 155, f 156, f 157, f 158, f 159, f 160, f 161, f 162, f 163, f 164, f 165, f 166, f 167, f 168, f 169, f 170, f 171, f 172, f 173, f 174, f 175, f 176, f 177, f 178, f 179, f 180, f 181, f 182, f 183] ∧ ∀ t, f t = xs.getD t undef :=
  ⟨fun t => xs.getD t undef, (eta_fr (ds := []) h fun _ _ => rfl).trans (by kernel_rfl), fun _ => rfl⟩
def rbF (b : Nat) : Nat → Nat
  | 1 => b
  | 2 => b + 1
  | 3 => b + 1 + 1
  | 4 => b + 1 + 1 + 1
  | 5 => b + 1 + 1 + 1 + 1
  | 6 => b + 1 + 1 + 1 + 1 + 1
  | _ => b + 1 + 1 + 1 + 1 + 1 + 1
theorem rws_at {w : World} {b : Nat} {L : List (List In)} (h : Rws w b L) {k : Nat} (hk : k < L.length) : b < w.heap.size ∧ ∃ q d n, w.cell? ⟨b, k, none⟩ = some (.slice q n d) ∧ Rd eIn w q d (L.getD k []) ∧ (L.getD k []).length = n := by
  obtain ⟨q, d, h1, h2⟩ := h.2 k hk
  have e : L[k] = L.getD k [] := by simp [List.getD_eq_getElem?_getD, List.getElem?_eq_getElem hk]
  rw [e] at h1 h2
  exact ⟨h.1, q, d, _, h1, h2, rfl⟩

set_option maxRecDepth 100000 in
set_option maxHeartbeats 8000000 in
theorem formf_walk (w : World) : Calls Try.prog 8 #[] w fun e w' => e = .returned (.bool true) ∧ Below w.heap.size w w' := by
  go_enter Try.func8, Try.ntmps8
  simp only [List.append]
  go_wp2_with (go_at_call 18; refine (begun_any _).mono ?_; rintro e w1 ⟨rfl, hb1⟩)
  have hz1 := hb1.size
  have hrows : ∀ t, 1 ≤ t → t ≤ 7 → (((((((w1.alloc (Obj.cells #[Value.int IntKind.i64 0, Value.int IntKind.i64 0, Value.int IntKind.i64 0, Value.int IntKind.i64 0] 45)).alloc (Obj.cells #[Value.int IntKind.i64 11, Value.int IntKind.i64 0, Value.int IntKind.i64 0, Value.int IntKind.i64 0] 45)).alloc (Obj.cells #[Value.int IntKind.i64 1, Value.int IntKind.i64 0, Value.int IntKind.i64 0, Value.int IntKind.i64 0] 45)).alloc (Obj.cells #[Value.int IntKind.i64 9, Value.int IntKind.i64 0, Value.int IntKind.i64 0, Value.int IntKind.i64 0] 45)).alloc (Obj.cells #[Value.int IntKind.i64 10, Value.int IntKind.i64 0, Value.int IntKind.i64 0, Value.int IntKind.i64 0] 45)).alloc (Obj.cells #[Value.int IntKind.i64 9, Value.int IntKind.i64 1, Value.int IntKind.i64 0, Value.int IntKind.i64 0] 45)).alloc (Obj.cells #[Value.int IntKind.i64 10, Value.int IntKind.i64 1, Value.int IntKind.i64 0, Value.int IntKind.i64 0] 45)).heap[rbF w1.heap.size t]? = some (.cells (aC (vars8 t)) 45 (0, 0)) := by
    intro t h1 h7
    have : t = 1 ∨ t = 2 ∨ t = 3 ∨ t = 4 ∨ t = 5 ∨ t = 6 ∨ t = 7 := by omega
    rcases this with rfl | rfl | rfl | rfl | rfl | rfl | rfl
    · simp only [rbF, vars8, aC]
      repeat (first | (refine heap_at ?_; simp; done) | (refine Eq.trans (Below.heap_alloc _ _ _ ?_) ?_; (· first | (simp; done) | (simp; omega))))
    · simp only [rbF, vars8, aC]
      repeat (first | (refine heap_at ?_; simp; done) | (refine Eq.trans (Below.heap_alloc _ _ _ ?_) ?_; (· first | (simp; done) | (simp; omega))))
    · simp only [rbF, vars8, aC]
      repeat (first | (refine heap_at ?_; simp; done) | (refine Eq.trans (Below.heap_alloc _ _ _ ?_) ?_; (· first | (simp; done) | (simp; omega))))
    · simp only [rbF, vars8, aC]
      repeat (first | (refine heap_at ?_; simp; done) | (refine Eq.trans (Below.heap_alloc _ _ _ ?_) ?_; (· first | (simp; done) | (simp; omega))))
    · simp only [rbF, vars8, aC]
      repeat (first | (refine heap_at ?_; simp; done) | (refine Eq.trans (Below.heap_alloc _ _ _ ?_) ?_; (· first | (simp; done) | (simp; omega))))
    · simp only [rbF, vars8, aC]
      repeat (first | (refine heap_at ?_; simp; done) | (refine Eq.trans (Below.heap_alloc _ _ _ ?_) ?_; (· first | (simp; done) | (simp; omega))))
    · show _ = some (Obj.cells #[.int .i64 10, .int .i64 1, .int .i64 0, .int .i64 0] 45 (0, 0))
      refine heap_at ?_
      show _ = w1.heap.size + 1 + 1 + 1 + 1 + 1 + 1
      simp
  generalize hWN : (((((((w1.alloc (Obj.cells #[Value.int IntKind.i64 0, Value.int IntKind.i64 0, Value.int IntKind.i64 0, Value.int IntKind.i64 0] 45)).alloc (Obj.cells #[Value.int IntKind.i64 11, Value.int IntKind.i64 0, Value.int IntKind.i64 0, Value.int IntKind.i64 0] 45)).alloc (Obj.cells #[Value.int IntKind.i64 1, Value.int IntKind.i64 0, Value.int IntKind.i64 0, Value.int IntKind.i64 0] 45)).alloc (Obj.cells #[Value.int IntKind.i64 9, Value.int IntKind.i64 0, Value.int IntKind.i64 0, Value.int IntKind.i64 0] 45)).alloc (Obj.cells #[Value.int IntKind.i64 10, Value.int IntKind.i64 0, Value.int IntKind.i64 0, Value.int IntKind.i64 0] 45)).alloc (Obj.cells #[Value.int IntKind.i64 9, Value.int IntKind.i64 1, Value.int IntKind.i64 0, Value.int IntKind.i64 0] 45)).alloc (Obj.cells #[Value.int IntKind.i64 10, Value.int IntKind.i64 1, Value.int IntKind.i64 0, Value.int IntKind.i64 0] 45)) = wn at hrows ⊢
  have Bn : Below w1.heap.size w1 wn := by rw [← hWN]; exact (by repeat (first | exact Below.refl _ _ | refine Below.alloc ?_ (by simp <;> omega) _))
  clear hWN
  refine reg_any (ops := ops5) (sp := sp5) (ds := ds5) (rb := rbF w1.heap.size) 47 sz5 ahead5 step5 rfl rfl (fun t h1 h7 => ⟨?_, hrows t h1 h7⟩) ?_
  · have : t = 1 ∨ t = 2 ∨ t = 3 ∨ t = 4 ∨ t = 5 ∨ t = 6 ∨ t = 7 := by omega
    rcases this with rfl | rfl | rfl | rfl | rfl | rfl | rfl <;> rfl
  intro tm5 w5 hs5 hk5 hb5 hv5
  have B5 : Below w.heap.size w w5 := bel_call (bel_call hb1 (Nat.le_refl _) Bn) (Nat.le_refl _) hb5
  obtain ⟨b8, e8, r8⟩ : Ok (.lots yP) (tm5.getD 8 undef) w5 := hv5 46 (by omega)
  have hV6 : Vr (rbF w1.heap.size) w5 tm5 := by
    intro t h1 h7
    have hx : tm5.getD t undef = .pointer (some ⟨rbF w1.heap.size t, 0, none⟩) := by
      have : t = 1 ∨ t = 2 ∨ t = 3 ∨ t = 4 ∨ t = 5 ∨ t = 6 ∨ t = 7 := by omega
      rcases this with rfl | rfl | rfl | rfl | rfl | rfl | rfl
      all_goals exact hk5 _ (by decide)
    have hh := hrows t h1 h7
    exact ⟨hx, (hb5.block _ (lt_of_block hh)).trans hh⟩
  clear hv5 hk5 hb5
  go_wp2
  refine reg_any (ops := ops6) (sp := sp6) (ds := ds6) (rb := rbF w1.heap.size) 92 sz6 ahead6 step6 hs5 rfl hV6 ?_
  intro tm6 w6 hs6 hk6 hb6 hv6
  have B6 := bel_call B5 (Nat.le_refl _) hb6
  obtain ⟨b9, e9, r9⟩ : Ok (.lots nP) (tm6.getD 9 undef) w6 := hv6 91 (by omega)
  have e8' : tm6.getD 8 undef = .slice (some ⟨b8, 0, none⟩) 8 8 := (hk6 8 (by decide)).trans e8
  have r8' := r8.below hb6
  clear hv6 hk6 hb6 hV6 e8 r8 B5 hs5
  obtain ⟨f, et, hf⟩ := lit184 tm6 hs6
  have f8 := (hf 8).trans e8'
  have f9 : f 9 = .slice (some ⟨b9, 0, none⟩) 20 20 := (hf 9).trans e9
  clear e8' e9 hf hs6
  subst et
  rw [f8, f9]
  clear f8 f9
  go_wp2
  go_loopw [10] (fun i wr => ∃ k : Nat, k ≤ 8 ∧ i = .int .i64 k ∧ Below w6.heap.size w6 wr) (fun i _ => 8 - (intOf i).toNat)
  case atStart => exact ⟨0, by omega, rfl, Below.refl _ _⟩
  case round =>
    obtain ⟨k, hk, rfl, hbw⟩ := hrel
    by_cases hlt : k < 8
    · have dk : decide ((k : Int) < 8) = true := by simp; omega
      obtain ⟨hz, q, d, nL, c0, r0, hn⟩ := rws_at (r8'.below hbw) (show k < yP.length from hlt)
      obtain ⟨o1, o2⟩ := y_ok k hlt
      have K := shape_c q d (yP.getD k []) wr nL true hn o1 r0 (by omega)
      clear hn o1 o2 r0
      go_wp2_with (go_at_call 21; (with_reducible (refine K.mono ?_)); rintro e w7 ⟨rfl, b7⟩)
      go_roundw
      case rel => exact ⟨k + 1, by omega, by go_num, bel_call hbw (Nat.le_refl _) b7⟩
      case measure => simp [intOf]; omega
    · have dk : decide ((k : Int) < 8) = false := by simp; omega
      clear hlt hk
      have r9' := r9.below hbw
      have B7 := bel_call B6 (Nat.le_refl _) hbw
      clear r8' r9 B6 hbw
      generalize wr = w7 at *
      go_wp2
      go_loopw [11] (fun i wr => ∃ k : Nat, k ≤ 20 ∧ i = .int .i64 k ∧ Below w7.heap.size w7 wr) (fun i _ => 20 - (intOf i).toNat)
      case atStart => exact ⟨0, by omega, rfl, Below.refl _ _⟩
      case round =>
        obtain ⟨k, hk, rfl, hbw⟩ := hrel
        by_cases hlt : k < 20
        · have dk : decide ((k : Int) < 20) = true := by simp; omega
          obtain ⟨hz, q, d, nL, c0, r0, hn⟩ := rws_at (r9'.below hbw) (show k < nP.length from hlt)
          obtain ⟨o1, o2⟩ := n_ok k hlt
          have K := shape_c q d (nP.getD k []) wr nL false hn o1 r0 (by omega)
          clear hn o1 o2 r0
          go_wp2_with (go_at_call 21; (with_reducible (refine K.mono ?_)); rintro e w8 ⟨rfl, b8⟩)
          go_roundw
          case rel => exact ⟨k + 1, by omega, by go_num, bel_call hbw (Nat.le_refl _) b8⟩
          case measure => simp [intOf]; omega
        · have dk : decide ((k : Int) < 20) = false := by simp; omega
          clear hlt hk
          obtain ⟨ie, hie, hie0, hie1, hie2⟩ := info_parts Try.info45
          have hde : fl eIn (List.replicate 25 z4) = (madeCells (Value.agg #[.int .i64 0, .int .i64 0, .int .i64 0, .int .i64 0]).cells (25 * 4)).toList := by kernel_rfl
          have hno : okB (List.replicate 25 z4) = false := by decide
          go_wp2_with (first
            | (at_make; refine wpList_make_full _ rfl _ _ 22 rfl wr.heap.size 45 ie _ 4 Try.underlying22 hie hie0 hie1 .i64 .i64 _ _ 25 rfl rfl rfl rfl (by rw [hie2]; omega) (by unfold maxLen; omega) (Nat.le_refl _) ?_; intro wm hown hgrow
               have hBm : Below wr.heap.size wr wm := (Below.refl _ _).grown hgrow (Nat.le_refl _) (fun k hk => by cases hk)
               have hO : Own eIn wm wr.heap.size 45 (some ⟨wr.heap.size, 0, none⟩) 25 (List.replicate 25 z4) := (by unfold Own; rw [List.length_replicate, hde]; exact hown)
               have K := shape_c (some ⟨wr.heap.size, 0, none⟩) 25 (List.replicate 25 z4) wm 25 false (by simp) hno (own_rd hO) (by omega))
            | (go_at_call 21; (with_reducible (refine K.mono ?_)); rintro e w9 ⟨rfl, b9'⟩))
          go_ret
          exact ⟨rfl, bel_call (bel_call (bel_call B7 (Nat.le_refl _) hbw) (Nat.le_refl _) hBm) (Nat.le_refl _) b9'⟩
end Go.Proofs.Yteikdocpncdheaa
