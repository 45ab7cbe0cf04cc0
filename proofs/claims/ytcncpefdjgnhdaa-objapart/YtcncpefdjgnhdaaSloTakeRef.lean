/-
  What the document's own TakeSlot hands back: the same as Take.
-/
import Derived.Test.YtcncpefdjgnhdaaSloTakes
namespace Go.Proofs.Ytcncpefdjgnhdaa.Slo
open Go.ChangeShapes Go.WideShapes Go.ChangeAt Go.RowKit
attribute [local go_sem ↓] Go.wp_at_zero Go.wp_at_succ

theorem freeIn_some {gs : List Int} {bs : List Bool} {k : Nat} (hg : k < gs.length) (hb : k < bs.length) (h : ∀ j (_ : j < k) (hj' : j < bs.length), bs[j] = true) (h0 : bs[k] = false) : freeIn gs bs = some k := by
  unfold freeIn
  refine freeAt_some (by simp; omega) (fun j hj => ?_) (by simpa using h0)
  simpa using h j hj (by omega)
theorem freeIn_none {gs : List Int} {bs : List Bool} (h : ∀ j, j < min gs.length bs.length → ∀ (hj' : j < bs.length), bs[j] = true) : freeIn gs bs = none := by
  unfold freeIn
  refine freeAt_none fun j hj => ?_
  have : j < min gs.length bs.length ∧ j < bs.length := by simp at hj; omega
  simpa using h j this.1 this.2

theorem trip_far {w' : World} {B0 b k : Nat} {x y z : Value} (h : w'.cell? ⟨B0, 0, none⟩ = some x ∧ w'.cell? ⟨B0, 1, none⟩ = some y ∧ w'.cell? ⟨b, k, none⟩ = some z) {B o1 o2 : Nat} (hB : B ≠ B0) (hb : B ≠ b) (u v : Value) :
    ((w'.setCell ⟨B, o1, none⟩ u).setCell ⟨B, o2, none⟩ v).cell? ⟨B0, 0, none⟩ = some x ∧ ((w'.setCell ⟨B, o1, none⟩ u).setCell ⟨B, o2, none⟩ v).cell? ⟨B0, 1, none⟩ = some y ∧ ((w'.setCell ⟨B, o1, none⟩ u).setCell ⟨B, o2, none⟩ v).cell? ⟨b, k, none⟩ = some z :=
  ⟨by rw [World.cell?_setCell_far _ _ _ _ hB, World.cell?_setCell_far _ _ _ _ hB]; exact h.1, by rw [World.cell?_setCell_far _ _ _ _ hB, World.cell?_setCell_far _ _ _ _ hB]; exact h.2.1, by rw [World.cell?_setCell_far _ _ _ _ hb, World.cell?_setCell_far _ _ _ _ hb]; exact h.2.2⟩

theorem trip_far_drew {w' : World} {B0 b k : Nat} {x y z : Value} (h : w'.drew.cell? ⟨B0, 0, none⟩ = some x ∧ w'.drew.cell? ⟨B0, 1, none⟩ = some y ∧ w'.drew.cell? ⟨b, k, none⟩ = some z) {B o1 o2 : Nat} (hB : B ≠ B0) (hb : B ≠ b) (u v : Value) :
    ((w'.setCell ⟨B, o1, none⟩ u).setCell ⟨B, o2, none⟩ v).drew.cell? ⟨B0, 0, none⟩ = some x ∧ ((w'.setCell ⟨B, o1, none⟩ u).setCell ⟨B, o2, none⟩ v).drew.cell? ⟨B0, 1, none⟩ = some y ∧ ((w'.setCell ⟨B, o1, none⟩ u).setCell ⟨B, o2, none⟩ v).drew.cell? ⟨b, k, none⟩ = some z :=
  trip_far (w' := w') h hB hb u v

set_option maxHeartbeats 400000 in
theorem takeSlot_any (gp ip : Option Addr) (gc ic : Nat) (gs : List Int) (bs : List Bool) (w : World) (hg : Rd w (Value.int .i64) gp gc gs) (hi : Rd w Value.bool ip ic bs) (hgl : gs.length ≤ 64) (hbl : bs.length ≤ 64) (hsm : Small gs) :
    Calls Try.prog 52 #[.agg #[.slice gp gs.length gc, .slice ip bs.length ic]] w fun e w' => Took w w' gs bs e := by
  obtain ⟨W, hW⟩ : ∃ W, W = ((w.alloc (Obj.cells #[Value.slice gp gs.length gc, Value.slice ip bs.length ic] 32)).alloc (Obj.cells #[Value.slice none 0 0, Value.slice none 0 0] 32)).alloc (Obj.cells #[.int .i64 0, .int .i64 0] 38) := ⟨_, rfl⟩
  have hWs : W.heap.size = w.heap.size + 3 := by rw [hW]; simp
  have hWb : Below w.heap.size w W := by rw [hW]; exact (((Below.refl _ _).alloc (Nat.le_refl _) _).alloc (by simp) _).alloc (by simp; omega) _
  have hd0 : W.cell? ⟨w.heap.size + 1, 0, none⟩ = some (.slice none 0 0) := by rw [hW]; simp [go_sem]
  have hd1 : W.cell? ⟨w.heap.size + 1, 1, none⟩ = some (.slice none 0 0) := by rw [hW]; simp [go_sem]
  have hd2 : W.cell? ⟨w.heap.size + 1 + 1, 0, none⟩ = some (.int .i64 0) := by rw [hW]; simp [go_sem]
  have hd3 : W.cell? ⟨w.heap.size + 1 + 1, 1, none⟩ = some (.int .i64 0) := by rw [hW]; simp [go_sem]
  have hf0 : ∀ o, W.frozen? ⟨w.heap.size + 1, o, none⟩ = false := fun o => by rw [hW]; simp [go_sem]
  have hf2 : ∀ o, W.frozen? ⟨w.heap.size + 1 + 1, o, none⟩ = false := fun o => by rw [hW]; simp [go_sem]
  go_enter Try.func52, Try.ntmps52
  go_wp2_with (go_at_call 67; rw [← hW]; refine (copy_any _ _ _ _ gs bs _ (hg.below hWb) (hi.below hWb) hgl hbl).mono ?_; rintro e w1 ⟨gp1, gc1, ip1, ic1, rfl, hg1, hi1, hap, hb1⟩)
  obtain ⟨w3, hw3⟩ : ∃ W2, W2 = w1.alloc (Obj.cells #[Value.slice gp1 gs.length gc1, Value.slice ip1 bs.length ic1] 32) := ⟨_, rfl⟩
  have c0 : w3.cell? ⟨w1.heap.size, 0, none⟩ = some (.slice gp1 gs.length gc1) := by rw [hw3]; simp [go_sem]
  have c1 : w3.cell? ⟨w1.heap.size, 1, none⟩ = some (.slice ip1 bs.length ic1) := by rw [hw3]; simp [go_sem]
  have h12 : Below w1.heap.size w1 w3 := by rw [hw3]; exact (Below.refl _ _).alloc (Nat.le_refl _) _
  have hlt : w1.heap.size < w3.heap.size := by rw [hw3]; simp
  rw [← hw3]
  have hs2 := hb1.size
  have hB3 : Below W.heap.size W w3 := (hb1.trans (h12.mono hs2))
  have hz1 : w.heap.size + 1 < W.heap.size := by rw [hWs]; omega
  have hz2 : w.heap.size + 1 + 1 < W.heap.size := by rw [hWs]; omega
  have e0 := (hB3.cell (p := ⟨w.heap.size + 1, 0, none⟩) hz1).trans hd0
  have e1 := (hB3.cell (p := ⟨w.heap.size + 1, 1, none⟩) hz1).trans hd1
  have e2 := (hB3.cell (p := ⟨w.heap.size + 1 + 1, 0, none⟩) hz2).trans hd2
  have e3 := (hB3.cell (p := ⟨w.heap.size + 1 + 1, 1, none⟩) hz2).trans hd3
  have f0 : ∀ o, w3.frozen? ⟨w.heap.size + 1, o, none⟩ = false := fun o => (hB3.frozen (p := ⟨w.heap.size + 1, o, none⟩) hz1).trans (hf0 o)
  have f2 : ∀ o, w3.frozen? ⟨w.heap.size + 1 + 1, o, none⟩ = false := fun o => (hB3.frozen (p := ⟨w.heap.size + 1 + 1, o, none⟩) hz2).trans (hf2 o)
  have hg3 := (hg1.below h12)
  have hi3 := (hi1.below h12)
  have hwb : Below w.heap.size w w3 := hWb.trans (hB3.mono (by omega))
  clear hd0 hd1 hd2 hd3 hf0 hf2 hW hWs hw3
  go_loop [6] (fun i => ∃ k : Nat, k ≤ 64 ∧ i = .int .i64 k ∧ ∀ j (hj : j < k) (hj' : j < bs.length), bs[j] = true) (fun i => 64 - (intOf i).toNat)
  case atStart => exact ⟨0, Nat.zero_le _, rfl, fun j hj => by omega⟩
  case round =>
    obtain ⟨k, hk, rfl, hall⟩ := hrel
    have HA : Hid (∀ j (hj : j < k) (hj' : j < bs.length), bs[j] = true) := hall
    clear hall
    by_cases hin : k < gs.length ∧ k < bs.length
    · obtain ⟨hkg, hkb⟩ := hin
      obtain ⟨b, rfl, hbW, hblt, hbf, hbc⟩ := hg3.cells (by omega)
      obtain ⟨b', rfl, hbW', hblt', hbf', hbc'⟩ := hi3.cells (by omega)
      have hck' := hbc' k hkb
      by_cases hx : bs[k] = true
      · rw [hx] at hck'
        have HX : Hid (bs[k] = true) := hx
        clear hx hbc hbc'
        go_wp2
        go_round
        case rel => exact ⟨k + 1, by omega, by go_num, fun j hj hj' => by
          by_cases e : j = k
          · subst e; exact HX.out
          · exact HA.out j (by omega) hj'⟩
        case measure => simp [intOf]; omega
      · have hx' : bs[k] = false := by simpa using hx
        rw [hx'] at hck'
        have hkk := freeIn_some hkg hkb HA.out hx'
        have hne : b ≠ b' := fun e => hap (by intro e; simp [e] at hkg) (by intro e; simp [e] at hkb) (by rw [e])
        have hbw : b < w1.heap.size := by obtain ⟨_, e, _, h, _⟩ := hg1.cells (by omega); cases e; exact h
        have hbw' : b' < w1.heap.size := by obtain ⟨_, e, _, h, _⟩ := hi1.cells (by omega); cases e; exact h
        have n0 : b ≠ w1.heap.size := by omega
        have n1 : b' ≠ w1.heap.size := by omega
        have n2 : b ≠ w.heap.size + 1 := by omega
        have n3 : b' ≠ w.heap.size + 1 := by omega
        have n4 : b ≠ w.heap.size + 1 + 1 := by omega
        have n5 : b' ≠ w.heap.size + 1 + 1 := by omega
        have hck := hbc k hkg
        have hgk := hsm gs[k] (List.getElem_mem hkg)
        have HK : Hid (freeIn gs bs = some k) := hkk
        clear hap hbc hbc' hx hx' hkk
        go_wp2
        have hg4 : Own ((w3.setCell ⟨b', k, none⟩ (.bool true)).setCell ⟨b, k, none⟩ (.int .i64 (gs[k] + 1))) W.heap.size (Value.int .i64) (some ⟨b, 0, none⟩) gc1 (gs.set k (gs[k] + 1)) :=
          (hg3.setFar (fun x e _ => by cases e; exact hne) _).setAt k hkg _
        have hi4 : Own ((w3.setCell ⟨b', k, none⟩ (.bool true)).setCell ⟨b, k, none⟩ (.int .i64 (gs[k] + 1))) W.heap.size Value.bool (some ⟨b', 0, none⟩) ic1 (bs.set k true) :=
          (hi3.setAt k hkb true).setFar (fun x e _ => by cases e; exact Ne.symm hne) _
        have hcc : ∀ x : Addr, b ≠ x.block → b' ≠ x.block → ((w3.setCell ⟨b', k, none⟩ (.bool true)).setCell ⟨b, k, none⟩ (.int .i64 (gs[k] + 1))).cell? x = w3.cell? x := fun x h1 h2 => by
          rw [World.cell?_setCell_far _ _ _ _ h1, World.cell?_setCell_far _ _ _ _ h2]
        have hff : ∀ x : Addr, ((w3.setCell ⟨b', k, none⟩ (.bool true)).setCell ⟨b, k, none⟩ (.int .i64 (gs[k] + 1))).frozen? x = w3.frozen? x := fun x => by
          rw [World.frozen?_setCell, World.frozen?_setCell]
        have hwb4 : Below w.heap.size w ((w3.setCell ⟨b', k, none⟩ (.bool true)).setCell ⟨b, k, none⟩ (.int .i64 (gs[k] + 1))) := (hwb.setCell (by dsimp only; omega) _).setCell (by dsimp only; omega) _
        generalize ((w3.setCell ⟨b', k, none⟩ (.bool true)).setCell ⟨b, k, none⟩ (.int .i64 (gs[k] + 1))) = W4 at *
        have c0' := (hcc ⟨w1.heap.size, 0, none⟩ n0 n1).trans c0
        have c1' := (hcc ⟨w1.heap.size, 1, none⟩ n0 n1).trans c1
        have g0 := (hcc ⟨w.heap.size + 1, 0, none⟩ n2 n3).trans e0
        have g1 := (hcc ⟨w.heap.size + 1, 1, none⟩ n2 n3).trans e1
        have g2 := (hcc ⟨w.heap.size + 1 + 1, 0, none⟩ n4 n5).trans e2
        have g3 := (hcc ⟨w.heap.size + 1 + 1, 1, none⟩ n4 n5).trans e3
        have q0 : ∀ o, W4.frozen? ⟨w.heap.size + 1, o, none⟩ = false := fun o => (hff _).trans (f0 o)
        have q1 : ∀ o, W4.frozen? ⟨w.heap.size + 1 + 1, o, none⟩ = false := fun o => (hff _).trans (f2 o)
        have m1 : w.heap.size + 1 ≠ w1.heap.size := by omega
        have m2 : w.heap.size + 1 + 1 ≠ w1.heap.size := by omega
        have m3 : w.heap.size + 1 ≠ b := by omega
        have m4 : w.heap.size + 1 + 1 ≠ b := by omega
        have cb : W4.cell? ⟨b, k, none⟩ = some (.int .i64 (gs[k] + 1)) := by
          obtain ⟨_, e, _, _, _, h⟩ := hg4.cells (by simp; omega)
          cases e
          rw [h k (by simpa using hkg)]
          simp
        have z0 : (0 : Int) ≤ (k : Int) := by omega
        have z1 : (k : Int) < (gs.length : Int) := by omega
        clear hcc hff c0 c1 e0 e1 e2 e3 f0 f2 hck hck' hgk hbf hbf' n0 n1 n2 n3 n4 n5 hblt hblt' hbW hbW' hlt hs2 hbw hbw' hkb hWb
        go_region_held3 (fun w' => w'.cell? ⟨w1.heap.size, 0, none⟩ = some (.slice (some ⟨b, 0, none⟩) gs.length gc1) ∧ w'.cell? ⟨w1.heap.size, 1, none⟩ = some (.slice (some ⟨b', 0, none⟩) bs.length ic1) ∧ w'.cell? ⟨b, k, none⟩ = some (.int .i64 (gs[k] + 1)))
          ((first | with_reducible (exact trip_far_drew ‹World.cell? _ _ = _ ∧ World.cell? _ _ = _ ∧ World.cell? _ _ = _› m1 m3 _ _) | with_reducible (exact trip_far_drew ‹World.cell? _ _ = _ ∧ World.cell? _ _ = _ ∧ World.cell? _ _ = _› m2 m4 _ _) | exact ⟨c0', c1', cb⟩))
          (fail)
        all_goals go_wp2
        refine bodyPost_ret (v := .tuple #[.agg #[.slice (some ⟨b, 0, none⟩) gs.length gc1, .slice (some ⟨b', 0, none⟩) bs.length ic1], .agg #[.int .i64 k, .int .i64 (gs[k] + 1)], .bool true]) (by simp [results, Try.results52, go_sem, g0, g1, g2, g3]) rfl (took_some HK.out hkg ?_ ?_ ?_)
        · exact ((((hg4.setLow hz1 _).setLow hz1 _).setLow hz2 _).setLow hz2 _).below (Below.refl _ _).drew |>.mono (by omega)
        · exact ((((hi4.setLow hz1 _).setLow hz1 _).setLow hz2 _).setLow hz2 _).below (Below.refl _ _).drew |>.mono (by omega)
        · exact ((((hwb4.setCell (by dsimp only; omega) _).setCell (by dsimp only; omega) _).setCell (by dsimp only; omega) _).setCell (by dsimp only; omega) _).drew
    · have HK : Hid (freeIn gs bs = none) := freeIn_none fun j hj hj' => HA.out j (by omega) hj'
      by_cases hkb : k < bs.length
      · have hkg : ¬ k < gs.length := fun h => hin ⟨h, hkb⟩
        clear hin
        go_wp2
        refine bodyPost_ret (v := .tuple #[.agg #[.slice gp1 gs.length gc1, .slice ip1 bs.length ic1], .agg #[.int .i64 0, .int .i64 0], .bool false]) (by simp [results, Try.results52, go_sem, e0, e1, e2, e3]) rfl (took_none HK.out ?_ ?_ ?_)
        · exact ((((hg3.setLow hz1 _).setLow hz1 _).setLow hz2 _).setLow hz2 _).mono (by omega)
        · exact ((((hi3.setLow hz1 _).setLow hz1 _).setLow hz2 _).setLow hz2 _).mono (by omega)
        · exact (((hwb.setCell (by dsimp only; omega) _).setCell (by dsimp only; omega) _).setCell (by dsimp only; omega) _).setCell (by dsimp only; omega) _
      · clear hin
        go_wp2
        refine bodyPost_ret (v := .tuple #[.agg #[.slice gp1 gs.length gc1, .slice ip1 bs.length ic1], .agg #[.int .i64 0, .int .i64 0], .bool false]) (by simp [results, Try.results52, go_sem, e0, e1, e2, e3]) rfl (took_none HK.out ?_ ?_ ?_)
        · exact ((((hg3.setLow hz1 _).setLow hz1 _).setLow hz2 _).setLow hz2 _).mono (by omega)
        · exact ((((hi3.setLow hz1 _).setLow hz1 _).setLow hz2 _).setLow hz2 _).mono (by omega)
        · exact (((hwb.setCell (by dsimp only; omega) _).setCell (by dsimp only; omega) _).setCell (by dsimp only; omega) _).setCell (by dsimp only; omega) _

end Go.Proofs.Ytcncpefdjgnhdaa.Slo
