/-
  What Turn of package obj and of the document hand back.
-/
import Derived.Test.YtcncpefdjgnhdaaClone
import Derived.Test.YtcncpefdjgnhdaaWith
import Derived.Test.YtcncpefdjgnhdaaFinds
namespace Go.Proofs.Ytcncpefdjgnhdaa
open Go.ChangeShapes Go.WideShapes Go.ChangeAt Go.RowKit
attribute [local go_sem ↓] Go.wp_at_zero Go.wp_at_succ

theorem getD_of {T : Tb} (h : T.T.length = 12) (k : Nat) (hk : k < 12) : T.T.getD k th0 = T.T[k]'(by rw [h]; exact hk) := by simp [List.getD_eq_getElem?_getD, h, hk]
theorem Ow.ok {w : World} {B g : Nat} {y : Tw} {xs : List Tc} {T : Tb} (h : Ow w B g y xs T) (k : Nat) (hk : k < 12) : ∃ X, xs[k]? = some X ∧ X ∈ xs ∧ At10 w g (k * 10) X ∧ Ok w X (T.T.getD k th0) := by
  have hx : k < xs.length := by rw [h.len]; exact hk
  obtain ⟨b, o, e, _, hc⟩ := (own_rd h.R).thing k hx
  cases e
  rw [Nat.zero_add] at hc
  refine ⟨xs[k], List.getElem?_eq_getElem hx, List.getElem_mem hx, hc, ?_⟩
  rw [getD_of h.tl k hk]
  exact h.ts.2 k hx (by rw [h.tl]; exact hk)
theorem Nt.sum {B g : Nat} {X : Tc} (h : Nt B g X) (s : Nat) : Nt B g { X with s := s } := ⟨h.l, h.w, h.f, h.lg, h.wg, h.fg⟩
set_option maxRecDepth 20000 in
set_option maxHeartbeats 8000000 in
theorem turnt_any (x : Tw) (T : Tb) (w : World) (ht : Tr w x T) (p : Int) (B : Bool) (hB : isThere T.T p = B) :
    Calls Try.prog 17 #[.agg #[.slice x.gp 12 x.gc, .slice x.ip 12 x.ic, .slice x.tp 12 x.tc], .int .i64 p] w fun e w' => ∃ y : Tw, e = .returned (.tuple #[.agg #[.slice y.gp 12 y.gc, .slice y.ip 12 y.ic, .slice y.tp 12 y.tc], .bool B]) ∧ Tr w' y (tnR T p) ∧ Below w.heap.size w w' := by
  obtain ⟨W, hW⟩ : ∃ W, W = (w.alloc (.cells #[.slice x.gp 12 x.gc, .slice x.ip 12 x.ic, .slice x.tp 12 x.tc] 30)).alloc (.cells #[.slice none 0 0, .slice none 0 0, .slice none 0 0] 30) := ⟨_, rfl⟩
  have bW : Below w.heap.size w W := by rw [hW]; exact ((Below.refl _ _).alloc (Nat.le_refl _) _).alloc (by simp) _
  have hsz : W.heap.size = w.heap.size + 2 := by rw [hW]; simp
  have hV : Vw W w.heap.size x 30 := by rw [hW]; exact (Vw.new _ _ _).below (bel_self _ _)
  have hR : Lv W (w.heap.size + 1) #[.slice none 0 0, .slice none 0 0, .slice none 0 0] 30 := by rw [hW]; exact heap_at (by simp)
  have hT := ht.below bW
  cases B with
  | false =>
    have HT : Hid (tnR T p = T) := by show _ = _; unfold tnR; rw [hB]; rfl
    go_enter Try.func17, Try.ntmps17
    go_wp2_with (first
      | (go_at_call 35; rw [← hW]; refine (clone_any x T _ hT).mono ?_; rintro e w1 ⟨y, rfl, ⟨g, xs, ow⟩, b1⟩; have s1 := bel_self w1 (.cells #[.slice y.gp 12 y.gc, .slice y.ip 12 y.ic, .slice y.tp 12 y.tc] 30); have bA : Below W.heap.size W (w1.alloc (.cells #[.slice y.gp 12 y.gc, .slice y.ip 12 y.ic, .slice y.tp 12 y.tc] 30)) := b1.alloc b1.size _; have V1 := (hV.below b1).below s1; have N1 : Vw (w1.alloc (.cells #[.slice y.gp 12 y.gc, .slice y.ip 12 y.ic, .slice y.tp 12 y.tc] 30)) w1.heap.size y 30 := Vw.new _ _ _; have ow1 := ow.below s1; obtain ⟨c0, c1, c2⟩ := V1.at)
      | (go_at_call 41; refine (there_any x T _ (hT.below bA) p false hB).mono ?_; rintro e w2 ⟨rfl, b2⟩; have bB := bel_call bA (Nat.le_refl _) b2; have N2 := N1.below b2; have R2 := hR.below bB; have ow2 := ow1.below b2; obtain ⟨e0, e1, e2⟩ := N2.at)
      | (refine wpList_stV (E := eTb) rfl 30 (.tmp 4) (.tmp 13) rfl size30 (w.heap.size + 1) _ R2 rfl y rfl rfl ?_; intro w9 L9 k9))
    have e9 := load30 L9
    have B9 : Below w.heap.size w w9 := bel_kp (bel_call bW (Nat.le_refl _) bB) k9 (by omega) (bel_call bW (Nat.le_refl _) bB).size
    refine bodyPost_ret (v := .tuple #[.agg #[.slice y.gp 12 y.gc, .slice y.ip 12 y.ic, .slice y.tp 12 y.tc], .bool false]) (by first | (simp [results, Try.results17, asAddr, e9]; done) | (simp [results, Try.results17, asAddr, Act.put, e9]; done)) rfl ⟨y, rfl, ?_, B9⟩
    rw [HT.out]
    exact (ow2.kp k9 (by omega)).tr
  | true =>
    have HT : Hid (tnR T p = ⟨T.G, T.I, T.T.set p.toNat (turnT (T.T.getD p.toNat th0))⟩) := by show _ = _; unfold tnR; rw [hB]; rfl
    have hp : 0 ≤ p ∧ p < 12 := by
      have h := hB
      unfold isThere at h
      simp only [decide_eq_true_eq] at h
      exact ⟨h.1, h.2.1⟩
    obtain ⟨k, rfl⟩ := Int.eq_ofNat_of_zero_le hp.1
    have hk : k < 12 := by omega
    have hkI : (k : Int) < 12 := hp.2
    clear hp
    go_enter Try.func17, Try.ntmps17
    go_wp2_with (first
      | (go_at_call 35; rw [← hW]; refine (clone_any x T _ hT).mono ?_; rintro e w1 ⟨y, rfl, ⟨g, xs, ow⟩, b1⟩; have s1 := bel_self w1 (.cells #[.slice y.gp 12 y.gc, .slice y.ip 12 y.ic, .slice y.tp 12 y.tc] 30); have bA : Below W.heap.size W (w1.alloc (.cells #[.slice y.gp 12 y.gc, .slice y.ip 12 y.ic, .slice y.tp 12 y.tc] 30)) := b1.alloc b1.size _; have V1 := (hV.below b1).below s1; have N1 : Vw (w1.alloc (.cells #[.slice y.gp 12 y.gc, .slice y.ip 12 y.ic, .slice y.tp 12 y.tc] 30)) w1.heap.size y 30 := Vw.new _ _ _; have ow1 := ow.below s1; obtain ⟨c0, c1, c2⟩ := V1.at)
      | (go_at_call 41; refine (there_any x T _ (hT.below bA) (k : Int) true hB).mono ?_; rintro e w2 ⟨rfl, b2⟩; have bB := bel_call bA (Nat.le_refl _) b2; have N2 := N1.below b2; have R2 := hR.below bB; have ow2 := ow1.below b2; obtain ⟨e0, e1, e2⟩ := N2.at))
    have lg : g < w1.heap.size := own_lt ow.R
    have hb1 := b1.size
    have hb2 := b2.size
    have hs1 := s1.size
    have hsA : w1.heap.size < (w1.alloc (.cells #[.slice y.gp 12 y.gc, .slice y.ip 12 y.ic, .slice y.tp 12 y.tc] 30)).heap.size := by simp
    clear c0 c1 c2 e0 e1 e2 V1 N1 ow ow1 hW
    obtain ⟨gv, hgv⟩ : ∃ gv, gv = w1.heap.size := ⟨_, rfl⟩
    rw [← hgv] at N2 lg hb1 hsA
    simp only [← hgv]
    have HGV : Hid (gv = w1.heap.size) := hgv
    clear hgv
    have hgW : W.heap.size ≤ gv := by omega
    obtain ⟨X, hXg, hXm, hXa, hXo⟩ := ow2.ok k hk
    have hgv2 : gv < w2.heap.size := by omega
    have ytp := ow2.tp
    refine wp_region_held_drew (S := fun w' => w'.heap[gv]? = w2.heap[gv]?) (by kernel_rfl) rfl (fun hHeld => ?_)
    refine wpAnyH_take (i := 0) (oi := _) (v := ?_) rfl (by kernel_rfl) (by kernel_rfl) (by kernel_rfl) (fun _ _ _ h => h) (Or.inl ⟨by rfl, ?_⟩) hHeld ?_
    rotate_left
    · intro w' hSw
      (go_simp <;> with_reducible rfl)
    try simp only [Act.put, List.getElem_toArray, List.getElem_cons_zero, List.setIfInBounds_toArray, List.set_cons_zero, List.set_cons_succ]
    refine wpAnyH_take (i := 1) (oi := _) (v := ?_) rfl (by kernel_rfl) (by kernel_rfl) (by kernel_rfl) (fun _ _ _ h => h) (Or.inl ⟨by rfl, ?_⟩) hHeld ?_
    rotate_left
    · intro w' hSw
      obtain ⟨c0, c1, c2⟩ := Vw.at (show Vw w' gv y 30 from hSw.trans N2)
      rw [ytp] at c2
      (go_simp <;> with_reducible rfl)
    try simp only [Act.put, List.getElem_toArray, List.getElem_cons_succ, List.getElem_cons_zero, List.setIfInBounds_toArray, List.set_cons_zero, List.set_cons_succ]
    refine wpAnyH_take (i := 2) (oi := _) (v := ?_) rfl (by kernel_rfl) (by kernel_rfl) (by kernel_rfl) (fun _ _ _ h => h) (Or.inl ⟨by rfl, ?_⟩) hHeld ?_
    rotate_left
    · intro w' hSw
      (go_simp <;> with_reducible rfl)
    try simp only [Act.put, List.getElem_toArray, List.getElem_cons_succ, List.getElem_cons_zero, List.setIfInBounds_toArray, List.set_cons_zero, List.set_cons_succ]
    refine wpAnyH_take (i := 3) (oi := _) (v := ?_) rfl (by kernel_rfl) (by kernel_rfl) (by kernel_rfl) (fun _ _ _ h => h) (Or.inl ⟨by rfl, ?_⟩) hHeld ?_
    rotate_left
    · intro w' hSw
      (go_simp <;> with_reducible rfl)
    try simp only [Act.put, List.getElem_toArray, List.getElem_cons_succ, List.getElem_cons_zero, List.setIfInBounds_toArray, List.set_cons_zero, List.set_cons_succ]
    refine wpAnyH_take (i := 4) (oi := _) (v := ?_) rfl (by kernel_rfl) (by kernel_rfl) (by kernel_rfl) (fun _ _ _ h => h) (Or.inl ⟨by rfl, ?_⟩) hHeld ?_
    rotate_left
    · intro w' hSw
      obtain ⟨c0, c1, c2⟩ := Vw.at (show Vw w' gv y 30 from hSw.trans N2)
      rw [ytp] at c2
      (go_simp <;> with_reducible rfl)
    try simp only [Act.put, List.getElem_toArray, List.getElem_cons_succ, List.getElem_cons_zero, List.setIfInBounds_toArray, List.set_cons_zero, List.set_cons_succ]
    refine wpAnyH_take (i := 5) (oi := _) (v := ?_) rfl (by kernel_rfl) (by kernel_rfl) (by kernel_rfl) (fun _ _ _ h => h) (Or.inl ⟨by rfl, ?_⟩) hHeld ?_
    rotate_left
    · intro w' hSw
      (go_simp <;> with_reducible rfl)
    try simp only [Act.put, List.getElem_toArray, List.getElem_cons_succ, List.getElem_cons_zero, List.setIfInBounds_toArray, List.set_cons_zero, List.set_cons_succ]
    refine wpAnyH_take (i := 6) (oi := _) (v := ?_) rfl (by kernel_rfl) (by kernel_rfl) (by kernel_rfl) (fun _ _ _ h => h) (Or.inl ⟨by rfl, ?_⟩) hHeld ?_
    rotate_left
    · intro w' hSw
      (go_simp <;> with_reducible rfl)
    try simp only [Act.put, List.getElem_toArray, List.getElem_cons_succ, List.getElem_cons_zero, List.setIfInBounds_toArray, List.set_cons_zero, List.set_cons_succ]
    refine wpAnyH_ready (rs := [7]) (by kernel_rfl) (by simp) ?_
    refine AllReadyH.cons (o := _) rfl (fun K hK => ?_) (AllReadyH.nil)
    obtain ⟨d0, d1, d2, d3, d4, d5, d6, d7, d8, d9⟩ := hXa
    go_simp
    refine hK.out _ _ hHeld (fun hHeld => ?_)
    clear hK K
    try simp only [Act.put, List.getElem_toArray, List.getElem_cons_succ, List.getElem_cons_zero, List.setIfInBounds_toArray, List.set_cons_zero, List.set_cons_succ]
    refine wpAnyH_ready (rs := [8]) (by kernel_rfl) (by simp) ?_
    refine AllReadyH.cons (o := _) rfl (fun K hK => ?_) (AllReadyH.nil)
    go_simp
    go_at_call 45; refine (turn_any X _ hXo.s9 _ rfl).mono ?_
    rintro e w3 ⟨rfl, b3'⟩
    have b3 : Below w2.heap.size w2 w3 := (Below.refl _ _).drew.trans b3'
    have ow3 := ow2.below b3
    refine hK.out _ _ (b3.block gv hgv2) (fun hHeld => ?_)
    clear hK K
    try simp only [Act.put, List.getElem_toArray, List.getElem_cons_succ, List.getElem_cons_zero, List.setIfInBounds_toArray, List.set_cons_zero, List.set_cons_succ]
    refine wpAnyH_take (i := 9) (oi := _) (v := ?_) rfl (by kernel_rfl) (by kernel_rfl) (by kernel_rfl) (fun _ _ _ h => h) (Or.inl ⟨by rfl, ?_⟩) hHeld ?_
    rotate_left
    · intro w' hSw
      (go_simp <;> with_reducible rfl)
    try simp only [Act.put, List.getElem_toArray, List.getElem_cons_succ, List.getElem_cons_zero, List.setIfInBounds_toArray, List.set_cons_zero, List.set_cons_succ]
    refine wpAnyH_ready (rs := [10]) (by kernel_rfl) (by simp) ?_
    refine AllReadyH.cons (o := _) rfl (fun K hK => ?_) (AllReadyH.nil)
    refine step_stR (E := eT) rfl 58 _ _ rfl size58 W.heap.size g _ _ ow3.R k (by rw [ow3.len]; exact hk) _ rfl ({ X with s := comp X.s } : Tc) rfl rfl ?_
    intro w4 o4 k4
    have hS4 : w4.heap[gv]? = w2.heap[gv]? := (k4.block gv (Nat.lt_of_lt_of_le hgv2 b3.size) (by intro h; cases h; exact Nat.lt_irrefl _ lg)).trans hHeld
    refine hK.out _ _ hS4 (fun hHeld => ?_)
    clear hK K
    try simp only [Act.put, List.getElem_toArray, List.getElem_cons_succ, List.getElem_cons_zero]
    refine wpAnyH_done (by kernel_rfl) ?_ _
    clear ytp
    have ow4 := ow3.put k k4 o4 ((hXo.below b3).sum (comp X.s) (comp_lt _)) ((ow2.nt X hXm).sum _)
    rw [hXo.s] at ow4
    have hb3 := b3.size
    have hb4 := k4.size
    have hz2 : w.heap.size + 2 ≤ g := by have := own_ge ow3.R; omega
    have B4 : Below w.heap.size w w4 := bel_kp (bel_call (bel_call bW (Nat.le_refl _) bB) (Nat.le_refl _) b3) k4 (by omega) (by have := bW.size; omega)
    have N4 : Vw w4 gv y 30 := hHeld.trans N2
    have R4 : Lv w4 (w.heap.size + 1) #[.slice none 0 0, .slice none 0 0, .slice none 0 0] 30 := (R2.below b3).kp k4 (by omega)
    obtain ⟨c0, c1, c2⟩ := N4.at
    go_wp2_with (refine wpList_stV (E := eTb) rfl 30 (.tmp 4) (.tmp 24) rfl size30 (w.heap.size + 1) _ R4 rfl y rfl rfl ?_; intro w9 L9 k9)
    have e9 := load30 L9
    have B9 : Below w.heap.size w w9 := bel_kp B4 k9 (by omega) B4.size
    refine bodyPost_ret (v := .tuple #[.agg #[.slice y.gp 12 y.gc, .slice y.ip 12 y.ic, .slice y.tp 12 y.tc], .bool true]) (by first | (simp [results, Try.results17, asAddr, e9]; done) | (simp [results, Try.results17, asAddr, Act.put, e9]; done)) rfl ⟨y, rfl, ?_, B9⟩
    rw [HT.out]
    exact (ow4.kp k9 (by omega)).tr
end Go.Proofs.Ytcncpefdjgnhdaa
