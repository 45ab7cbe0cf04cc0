/-
  What the document's own FreeSlot hands back: the same as Free.
-/
import Derived.Test.YtcncpefdjgnhdaaSloHasRef
import Derived.Test.YtcncpefdjgnhdaaSloTakeRef
namespace Go.Proofs.Ytcncpefdjgnhdaa.Slo
open Go.ChangeShapes Go.WideShapes Go.ChangeAt Go.RowKit Go.Maps
attribute [local go_sem ↓] Go.wp_at_zero Go.wp_at_succ

theorem new_cell0 (w : World) (x y : Value) (t : TypeId) : (w.alloc (.cells #[x, y] t)).cell? ⟨w.heap.size, 0, none⟩ = some x := by simp [go_sem]
theorem new_cell1 (w : World) (x y : Value) (t : TypeId) : (w.alloc (.cells #[x, y] t)).cell? ⟨w.heap.size, 1, none⟩ = some y := by simp [go_sem]

set_option maxHeartbeats 400000 in
theorem freeSlot_any (gp ip : Option Addr) (gc ic : Nat) (gs : List Int) (bs : List Bool) (a g : Int) (w : World) (hg : Rd w (Value.int .i64) gp gc gs) (hi : Rd w Value.bool ip ic bs) (hgl : gs.length ≤ 64) (hbl : bs.length ≤ 64) :
    Calls Try.prog 40 #[.agg #[.slice gp gs.length gc, .slice ip bs.length ic], .agg #[.int .i64 a, .int .i64 g]] w fun e w' => Freed w w' gs bs a g e := by
  obtain ⟨W, hW⟩ : ∃ W, W = ((w.alloc (Obj.cells #[Value.slice gp gs.length gc, Value.slice ip bs.length ic] 32)).alloc (Obj.cells #[.int .i64 a, .int .i64 g] 38)).alloc (Obj.cells #[Value.slice none 0 0, Value.slice none 0 0] 32) := ⟨_, rfl⟩
  have hWb : Below w.heap.size w W := by rw [hW]; exact (((Below.refl _ _).alloc (Nat.le_refl _) _).alloc (by simp) _).alloc (by simp; omega) _
  have hWs : W.heap.size = w.heap.size + 3 := by rw [hW]; simp
  have hc0 : W.cell? ⟨w.heap.size, 0, none⟩ = some (.slice gp gs.length gc) := by rw [hW]; simp [go_sem]
  have hc1 : W.cell? ⟨w.heap.size, 1, none⟩ = some (.slice ip bs.length ic) := by rw [hW]; simp [go_sem]
  have hc2 : W.cell? ⟨w.heap.size + 1, 0, none⟩ = some (.int .i64 a) := by rw [hW]; simp [go_sem]
  have hc3 : W.cell? ⟨w.heap.size + 1, 1, none⟩ = some (.int .i64 g) := by rw [hW]; simp [go_sem]
  have hd0 : W.cell? ⟨w.heap.size + 1 + 1, 0, none⟩ = some (.slice none 0 0) := by rw [hW]; simp [go_sem]
  have hd1 : W.cell? ⟨w.heap.size + 1 + 1, 1, none⟩ = some (.slice none 0 0) := by rw [hW]; simp [go_sem]
  have hf0 : ∀ o, W.frozen? ⟨w.heap.size + 1 + 1, o, none⟩ = false := fun o => by rw [hW]; simp [go_sem]
  have kS : ∀ w', Below W.heap.size W w' → w'.cell? ⟨w.heap.size, 0, none⟩ = some (.slice gp gs.length gc) ∧ w'.cell? ⟨w.heap.size, 1, none⟩ = some (.slice ip bs.length ic) ∧ w'.cell? ⟨w.heap.size + 1, 0, none⟩ = some (.int .i64 a) ∧ w'.cell? ⟨w.heap.size + 1, 1, none⟩ = some (.int .i64 g) := fun w' h =>
    ⟨(h.cell (p := ⟨w.heap.size, 0, none⟩) (by show w.heap.size < _; omega)).trans hc0, (h.cell (p := ⟨w.heap.size, 1, none⟩) (by show w.heap.size < _; omega)).trans hc1, (h.cell (p := ⟨w.heap.size + 1, 0, none⟩) (by show w.heap.size + 1 < _; omega)).trans hc2, (h.cell (p := ⟨w.heap.size + 1, 1, none⟩) (by show w.heap.size + 1 < _; omega)).trans hc3⟩
  have HS : Hid (W.heap.size = w.heap.size + 3) := hWs
  have KS : Hid (∀ w', Below W.heap.size W w' → w'.cell? ⟨w.heap.size, 0, none⟩ = some (.slice gp gs.length gc) ∧ w'.cell? ⟨w.heap.size, 1, none⟩ = some (.slice ip bs.length ic) ∧ w'.cell? ⟨w.heap.size + 1, 0, none⟩ = some (.int .i64 a) ∧ w'.cell? ⟨w.heap.size + 1, 1, none⟩ = some (.int .i64 g)) := kS
  have hz2 : w.heap.size + 1 + 1 < W.heap.size := by rw [hWs]; omega
  clear kS
  cases hh : hasM gs bs a g with
  | false =>
    have HH : Hid (hasM gs bs a g = false) := hh
    clear hh
    go_enter Try.func40, Try.ntmps40
    go_wp2_with (first
      | (go_at_call 67; rw [← hW]; refine (copy_any _ _ _ _ gs bs _ (hg.below hWb) (hi.below hWb) hgl hbl).mono ?_; rintro e w1 ⟨gp1, gc1, ip1, ic1, rfl, hg1, hi1, hap, hb1⟩; obtain ⟨c0, c1, c2, c3⟩ := KS.out w1 hb1; have hs1 := hb1.size; have HAP : Hid (gs ≠ [] → bs ≠ [] → gp1 ≠ ip1) := hap; clear hap hW hWs hc0 hc1 hc2 hc3; have n0 : w.heap.size ≠ w1.heap.size := (by omega); have n1 : w.heap.size + 1 ≠ w1.heap.size := (by omega); have n9 : w.heap.size < w1.heap.size := (by omega); have n8 : w.heap.size + 1 < w1.heap.size := (by omega))
      | (go_at_call 55; refine (hasSlot_any _ _ _ _ gs bs a g _ (hg.below ((hWb.trans (hb1.mono (by rw [HS.out]; omega))).alloc (by omega) _)) (hi.below ((hWb.trans (hb1.mono (by rw [HS.out]; omega))).alloc (by omega) _)) hgl hbl).mono ?_; rw [HH.out]; rintro e w3 ⟨rfl, hb2⟩; clear c0 c1 c2 c3; have hB3 := (hb1.alloc hs1 _).trans (hb2.mono (by simp; omega)); obtain ⟨c0, c1, c2, c3⟩ := KS.out w3 hB3; have e0 := (hb2.cell (p := ⟨w1.heap.size, 0, none⟩) (by simp)).trans (new_cell0 _ _ _ _); have e1 := (hb2.cell (p := ⟨w1.heap.size, 1, none⟩) (by simp)).trans (new_cell1 _ _ _ _); have e2 := (hB3.cell (p := ⟨w.heap.size + 1 + 1, 0, none⟩) hz2).trans hd0; have e3 := (hB3.cell (p := ⟨w.heap.size + 1 + 1, 1, none⟩) hz2).trans hd1; have f2 : ∀ o, w3.frozen? ⟨w.heap.size + 1 + 1, o, none⟩ = false := (fun o => (hB3.frozen (p := ⟨w.heap.size + 1 + 1, o, none⟩) hz2).trans (hf0 o)); have hg3 := (hg1.below ((Below.refl _ _).alloc (Nat.le_refl _) _)).below hb2; have hi3 := (hi1.below ((Below.refl _ _).alloc (Nat.le_refl _) _)).below hb2; have hwb : Below w.heap.size w w3 := hWb.trans (hB3.mono (by rw [HS.out]; omega)); have n2 : w.heap.size + 1 + 1 ≠ w1.heap.size := (by omega)))
    refine bodyPost_ret (v := .tuple #[.agg #[.slice gp1 gs.length gc1, .slice ip1 bs.length ic1], .bool false]) (by simp [results, Try.results40, go_sem, e2, e3]) rfl (freed_no HH.out ?_ ?_ ?_)
    · exact ((hg3.setLow hz2 _).setLow hz2 _).mono (by omega)
    · exact ((hi3.setLow hz2 _).setLow hz2 _).mono (by omega)
    · exact (hwb.setCell (by dsimp only; omega) _).setCell (by dsimp only; omega) _
  | true =>
    obtain ⟨k, rfl, hkg, hkb, _, _⟩ := hasM_nat hh
    have HH : Hid (hasM gs bs k g = true) := hh
    clear hh
    go_enter Try.func40, Try.ntmps40
    go_wp2_with (first
      | (go_at_call 67; rw [← hW]; refine (copy_any _ _ _ _ gs bs _ (hg.below hWb) (hi.below hWb) hgl hbl).mono ?_; rintro e w1 ⟨gp1, gc1, ip1, ic1, rfl, hg1, hi1, hap, hb1⟩; obtain ⟨c0, c1, c2, c3⟩ := KS.out w1 hb1; have hs1 := hb1.size; have HAP : Hid (gs ≠ [] → bs ≠ [] → gp1 ≠ ip1) := hap; clear hap hW hWs hc0 hc1 hc2 hc3; have n0 : w.heap.size ≠ w1.heap.size := (by omega); have n1 : w.heap.size + 1 ≠ w1.heap.size := (by omega); have n9 : w.heap.size < w1.heap.size := (by omega); have n8 : w.heap.size + 1 < w1.heap.size := (by omega); obtain ⟨b', rfl, hbW', hblt', _, _⟩ := hi1.cells (Nat.lt_of_le_of_lt (Nat.zero_le _) hkb); have n3 : b' ≠ w1.heap.size := (by omega); have n4 : b' ≠ w.heap.size + 1 + 1 := (by omega); have n6 : b' ≠ w.heap.size + 1 := (by omega))
      | (go_at_call 55; refine (hasSlot_any _ _ _ _ gs bs k g _ (hg.below ((hWb.trans (hb1.mono (by rw [HS.out]; omega))).alloc (by omega) _)) (hi.below ((hWb.trans (hb1.mono (by rw [HS.out]; omega))).alloc (by omega) _)) hgl hbl).mono ?_; rw [HH.out]; rintro e w3 ⟨rfl, hb2⟩; clear c0 c1 c2 c3; have hB3 := (hb1.alloc hs1 _).trans (hb2.mono (by simp; omega)); obtain ⟨c0, c1, c2, c3⟩ := KS.out w3 hB3; have e0 := (hb2.cell (p := ⟨w1.heap.size, 0, none⟩) (by simp)).trans (new_cell0 _ _ _ _); have e1 := (hb2.cell (p := ⟨w1.heap.size, 1, none⟩) (by simp)).trans (new_cell1 _ _ _ _); have e2 := (hB3.cell (p := ⟨w.heap.size + 1 + 1, 0, none⟩) hz2).trans hd0; have e3 := (hB3.cell (p := ⟨w.heap.size + 1 + 1, 1, none⟩) hz2).trans hd1; have f2 : ∀ o, w3.frozen? ⟨w.heap.size + 1 + 1, o, none⟩ = false := (fun o => (hB3.frozen (p := ⟨w.heap.size + 1 + 1, o, none⟩) hz2).trans (hf0 o)); have hg3 := (hg1.below ((Below.refl _ _).alloc (Nat.le_refl _) _)).below hb2; have hi3 := (hi1.below ((Below.refl _ _).alloc (Nat.le_refl _) _)).below hb2; have hwb : Below w.heap.size w w3 := hWb.trans (hB3.mono (by rw [HS.out]; omega)); have n2 : w.heap.size + 1 + 1 ≠ w1.heap.size := (by omega); obtain ⟨_, eb, _, _, hbf', hbc'⟩ := hi3.cells (Nat.lt_of_le_of_lt (Nat.zero_le _) hkb); cases eb; have hck' := hbc' k hkb; clear hbc'))
    refine bodyPost_ret (v := .tuple #[.agg #[.slice gp1 gs.length gc1, .slice (some ⟨b', 0, none⟩) bs.length ic1], .bool true]) (by simp [results, Try.results40, go_sem, e2, e3]) rfl (freed_yes rfl HH.out ?_ ?_ ?_)
    · exact (((hg3.setFar (fun b e hl eb => HAP.out hl (by intro e; simp [e] at hkb) (by rw [e]; simpa using eb)) _).setLow hz2 _).setLow hz2 _).mono (by omega)
    · exact (((hi3.setAt k hkb false).setLow hz2 _).setLow hz2 _).mono (by omega)
    · exact ((hwb.setCell (by dsimp only; omega) _).setCell (by dsimp only; omega) _).setCell (by dsimp only; omega) _

end Go.Proofs.Ytcncpefdjgnhdaa.Slo
