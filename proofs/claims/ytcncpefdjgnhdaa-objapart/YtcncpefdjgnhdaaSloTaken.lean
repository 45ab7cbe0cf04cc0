/-
  What taken of package slots hands back: a map of its own, from the handles that are somebody's to their places.
-/
import Derived.Test.YtcncpefdjgnhdaaSloKeys
namespace Go.Proofs.Ytcncpefdjgnhdaa.Slo
open Go.ChangeShapes Go.WideShapes Go.ChangeAt Go.RowKit Go.Maps
attribute [local go_sem ↓] Go.wp_at_zero Go.wp_at_succ

theorem grown_of_below {w w' : World} (h : Below w.heap.size w w') (row : Option Nat) : w.grownBy w' row := ⟨h.os, h.tape, h.output, h.size, fun k hk _ => h.block k hk⟩
theorem tk_yes {gs : List Int} {bs : List Bool} {k : Nat} (h : bs.getD k false = true) : tk gs bs (k + 1) = (tk gs bs k).put (hkey k (gs.getD k 0)) (.lit (.int .i64 k)) := by rw [tk, if_pos h]
theorem tk_no {gs : List Int} {bs : List Bool} {k : Nat} (h : bs.getD k false = false) : tk gs bs (k + 1) = tk gs bs k := by rw [tk, if_neg (by rw [h]; decide)]

set_option maxHeartbeats 400000 in
theorem taken_any (gp ip : Option Addr) (gc ic : Nat) (gs : List Int) (bs : List Bool) (w : World) (hg : Rd w (Value.int .i64) gp gc gs) (hi : Rd w Value.bool ip ic bs) (hgl : gs.length ≤ 64) (hbl : bs.length ≤ 64) (hsm : Small gs) :
    Calls Try.prog 63 #[.agg #[.slice gp gs.length gc, .slice ip bs.length ic]] w fun e w' => ∃ B, e = .returned (.map (some B)) ∧ w'.ownsMap Try.prog 38 (plainElem Try.prog 3) B (min gs.length bs.length) (tk gs bs (min gs.length bs.length)) ∧ Below w.heap.size w w' := by
  have hmm := @run_makeMap Try.prog
  obtain ⟨W, hW⟩ : ∃ W, W = (w.alloc (Obj.cells #[Value.slice gp gs.length gc, Value.slice ip bs.length ic] 27)) := ⟨_, rfl⟩
  have hWs : W.heap.size = w.heap.size + 1 := by rw [hW]; simp
  have hWb : Below w.heap.size w W := by rw [hW]; exact ((Below.refl _ _).alloc (Nat.le_refl _) _)
  have hc0 : W.cell? ⟨w.heap.size, 0, none⟩ = some (.slice gp gs.length gc) := by rw [hW]; simp [go_sem]
  have hc1 : W.cell? ⟨w.heap.size, 1, none⟩ = some (.slice ip bs.length ic) := by rw [hW]; simp [go_sem]
  have kS : ∀ w', Below W.heap.size W w' → w'.cell? ⟨w.heap.size, 0, none⟩ = some (.slice gp gs.length gc) ∧ w'.cell? ⟨w.heap.size, 1, none⟩ = some (.slice ip bs.length ic) ∧ Below W.heap.size W w' := fun w' h =>
    ⟨(h.cell (p := ⟨w.heap.size, 0, none⟩) (by show w.heap.size < _; omega)).trans hc0, (h.cell (p := ⟨w.heap.size, 1, none⟩) (by show w.heap.size < _; omega)).trans hc1, h⟩
  obtain ⟨n, hn⟩ : ∃ n, n = min gs.length bs.length := ⟨_, rfl⟩
  rw [← hn]
  have hs0 : (0 : Int) ≤ (n : Int) := by omega
  have hs1 : (n : Int) ≤ (ic : Int) := by have := hi.cap; omega
  have hn1 : n ≤ 64 := by omega
  have HN : Hid (n = min gs.length bs.length) := hn
  go_enter Try.func63, Try.ntmps63
  go_wp2
  rw [← hW]
  have hown0 := World.ownsMap_made (H := Unit) W Try.prog 38 (plainElem Try.prog 3)
  have hWM : Below W.heap.size W (W.alloc (Obj.map #[] 0)) := (Below.refl _ _).alloc (Nat.le_refl _) _
  have hMs : W.heap.size < (W.alloc (Obj.map #[] 0)).heap.size := by simp
  generalize (W.alloc (Obj.map #[] 0)) = W2 at *
  have HS : Hid (W.heap.size = w.heap.size + 1) := hWs
  clear hn hW hWs hc0 hc1
  go_region_held3 (fun w' => w'.cell? ⟨w.heap.size, 0, none⟩ = some (.slice gp gs.length gc) ∧ w'.cell? ⟨w.heap.size, 1, none⟩ = some (.slice ip bs.length ic) ∧ Below W2.heap.size W2 w')
    ((first | with_reducible (exact ⟨(kS _ (bel_call hWM (Nat.le_refl _) hb2)).1, (kS _ (bel_call hWM (Nat.le_refl _) hb2)).2.1, hb2⟩) | exact ⟨(kS _ hWM).1, (kS _ hWM).2.1, (Below.refl _ _).drew⟩))
    ((go_at_call 73; refine (places_n _ _ _ _ _ _ n _ HN.out).mono ?_; rintro e w2 ⟨rfl, hb2'⟩; have hb2 : Below W2.heap.size W2 w2 := (Below.refl _ _).drew.trans hb2'))
  have hown1 : w2.ownsMap Try.prog 38 (plainElem Try.prog 3) (w.heap.size + 1) 0 (tk gs bs 0) := by
    rw [← HS.out]; exact hown0.kept (grown_of_below hb2 none) (by simp)
  have hW2 : Below W.heap.size W w2 := hWM.trans (hb2.mono (by omega))
  have hsz2 : w.heap.size + 1 < w2.heap.size := by have := hb2.size; rw [← HS.out]; omega
  clear hown0 hb2' hb2 hWM hMs
  go_wp2
  go_loopw [13] (fun i wr => ∃ k : Nat, k ≤ n ∧ i = .int .i64 k ∧ wr.ownsMap Try.prog 38 (plainElem Try.prog 3) (w.heap.size + 1) k (tk gs bs k) ∧ Below W.heap.size W wr ∧ w.heap.size + 1 < wr.heap.size) (fun i _ => n - (intOf i).toNat)
  case atStart => exact ⟨0, Nat.zero_le _, rfl, hown1, hW2, hsz2⟩
  case round =>
    obtain ⟨k, hk, rfl, hown, hbw, hsz⟩ := hrel
    obtain ⟨c0, c1, _⟩ := kS wr hbw
    have hwr : Below w.heap.size w wr := hWb.trans (hbw.mono (by rw [HS.out]; omega))
    clear kS hown1 hW2 hsz2
    by_cases hlt : k < n
    · have hkg : k < gs.length := by have := HN.out; omega
      have hkb : k < bs.length := by have := HN.out; omega
      obtain ⟨b', o', rfl, _, hbc⟩ := (hi.below hwr).some (by omega)
      have hck := hbc k hkb
      clear hbc
      have z0 : (k : Int) < (n : Int) := by omega
      by_cases hx : bs[k] = true
      · rw [hx] at hck
        have HX : Hid (bs.getD k false = true) := (by simp [List.getD_eq_getElem?_getD, hkb, hx] : bs.getD k false = true)
        have hgd : gs.getD k 0 = gs[k] := by simp [List.getD_eq_getElem?_getD, hkg]
        have hkey := keyOf_handle (k : Int) (gs.getD k 0) (wf_nat (by omega)) (wf_small hsm k)
        rw [hgd] at hkey
        have HG : Hid (gs.getD k 0 = gs[k]) := hgd
        clear hx hgd
        go_wp2_with (first
          | (go_at_call 74; refine (handle_n _ _ _ gs.length gs k gs[k] _ (hg.below hwr) hgl rfl hkg rfl).mono ?_; rintro e w3 ⟨rfl, hb3⟩; have hown3 := hown.kept (grown_of_below hb3 none) (by simp))
          | (at_mapUpdate; refine wpList_mapUpdate_own _ rfl _ _ _ 116 rfl 38 3 Try.law24 Try.underlying116 _ (w.heap.size + 1) k _ rfl hown3 (by unfold maxLen; omega) _ _ _ rfl rfl hkey _ [] (plainElem_int Try.underlying3 (wf_nat (by omega))) ?_; intro w4 hown4 hgrow4)
          | go_in)
        have hs3 := hb3.size
        have hs4 := hgrow4.size
        have hbs := hbw.size
        have hW1 : W.heap.size ≤ w.heap.size + 1 := Nat.le_of_eq HS.out
        go_roundw
        case rel => exact ⟨k + 1, by omega, by go_num, by rw [tk_yes HX.out, HG.out]; exact hown4, (hbw.trans (hb3.mono hbs)).grown hgrow4 (by omega) (fun j hj => by cases hj; exact hW1), by omega⟩
        case measure => simp [intOf]; omega
      · have hx' : bs[k] = false := by simpa using hx
        rw [hx'] at hck
        have HX : Hid (bs.getD k false = false) := (by simp [List.getD_eq_getElem?_getD, hkb, hx'] : bs.getD k false = false)
        clear hx hx'
        go_wp2
        go_roundw
        case rel => exact ⟨k + 1, by omega, by go_num, by rw [tk_no HX.out]; exact hown.mono (by omega), hbw, hsz⟩
        case measure => simp [intOf]; omega
    · have hkn : k = n := by omega
      subst hkn
      go_wp2
      go_ret
      exact ⟨_, rfl, hown, hwr⟩

end Go.Proofs.Ytcncpefdjgnhdaa.Slo
