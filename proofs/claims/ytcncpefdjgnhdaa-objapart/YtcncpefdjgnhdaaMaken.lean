/-
  What Make of package obj hands back, and that it lies in new blocks; a table behind stores elsewhere.
-/
import Derived.Test.YtcncpefdjgnhdaaMakes
namespace Go.Proofs.Ytcncpefdjgnhdaa
open Go.ChangeShapes Go.WideShapes Go.ChangeAt Go.RowKit
attribute [local go_sem ↓] Go.wp_at_zero Go.wp_at_succ

theorem rd_mid {α : Type} {E : Elt α} {w3 w' : World} {B : Nat} {p : Option Addr} {c : Nat} {l : List α} (h : Rd E w3 p c l) (hn : Nw B p) (hm : ∀ b, B ≤ b → b < w3.heap.size → w'.heap[b]? = w3.heap[b]?) : Rd E w' p c l := by
  refine ⟨h.cap, ?_⟩
  rcases h.at_ with h0 | ⟨b, o, s, rfl, hs, hc⟩
  · exact .inl h0
  · by_cases hl : l = []
    · subst hl
      exact .inr ⟨b, o, s, rfl, fun h => absurd rfl h, fun j v hj => by simp [fl] at hj⟩
    · have := hs hl
      subst this
      refine .inr ⟨b, o, none, rfl, fun _ => rfl, fun j v hj => ?_⟩
      have hb := lt_of_cell (hc j v hj)
      have hh := hm b (hn b o rfl) hb
      have h1 := hc j v hj
      unfold World.cell? at h1 ⊢
      rw [hh]
      exact h1
theorem Ow.mid {w3 w' : World} {B g : Nat} {y : Tw} {xs : List Tc} {T : Tb} (h : Ow w3 B g y xs T) (hm : ∀ b, B ≤ b → b < w3.heap.size → w'.heap[b]? = w3.heap[b]?) : Tr w' y T :=
  ⟨rd_mid h.G h.gn hm, rd_mid h.I h.in_ hm, ⟨xs, by rw [h.tp]; exact rd_mid (own_rd h.R) (Nw.own h.R (Nat.le_refl _)) hm, h.ts.1, fun i h1 h2 => by
      have hn := h.nt _ (List.getElem_mem h1)
      have ho := h.ts.2 i h1 h2
      exact { ho with L := rd_mid ho.L hn.l hm, W := rd_mid ho.W hn.w hm, F := rd_mid ho.F hn.f hm }⟩, h.gl, h.il, h.tl⟩
theorem Lv.ne {w : World} {g h : Nat} {cs ds : Array Value} {e f : TypeId} (hg : Lv w g cs e) (hh : Lv w h ds f) (hne : e ≠ f) : g ≠ h := by
  rintro rfl
  have := hg.symm.trans hh
  simp at this
  exact hne this.2
set_option maxRecDepth 20000 in
set_option maxHeartbeats 3000000 in
theorem make_n (x : Tw) (T : Tb) (N : Nat) (w : World) (ht : Tr w x T) (hw : Wf N T) (hN : N ≤ 1000) (k : Int) (B : Bool) (hB : mkOk T k = B) (A G : Int) (hA : mkA T k = A) (hG : mkG T k = G) :
    Calls Try.prog 22 #[.agg #[.slice x.gp 12 x.gc, .slice x.ip 12 x.ic, .slice x.tp 12 x.tc], .int .i64 k] w fun e w' => ∃ z : Tw, e = .returned (.tuple #[.agg #[.slice z.gp 12 z.gc, .slice z.ip 12 z.ic, .slice z.tp 12 z.tc], .agg #[.int .i64 A, .int .i64 G], .bool B]) ∧ (∃ (g : Nat) (xs : List Tc), Ow w' w.heap.size g z xs (mkR T k)) ∧ Below w.heap.size w w' := by
  obtain ⟨W, hW⟩ : ∃ W, W = ((w.alloc (.cells #[.slice x.gp 12 x.gc, .slice x.ip 12 x.ic, .slice x.tp 12 x.tc] 30)).alloc (.cells #[.slice none 0 0, .slice none 0 0, .slice none 0 0] 30)).alloc (.cells #[.int .i64 0, .int .i64 0] 38) := ⟨_, rfl⟩
  have bW : Below w.heap.size w W := by rw [hW]; exact (((Below.refl _ _).alloc (Nat.le_refl _) _).alloc (by simp) _).alloc (by simp; omega) _
  have hsz : W.heap.size = w.heap.size + 3 := by rw [hW]; simp
  have hV : Vw W w.heap.size x 30 := by rw [hW]; exact ((Vw.new _ _ _).below (bel_self _ _)).below (bel_self _ _)
  have hR : Lv W (w.heap.size + 1) #[.slice none 0 0, .slice none 0 0, .slice none 0 0] 30 := by rw [hW]; exact Lv.below (heap_at (by simp)) (bel_self _ _)
  have hH : Lv W (w.heap.size + 1 + 1) #[.int .i64 0, .int .i64 0] 38 := by rw [hW]; exact heap_at (by simp)
  have hT := ht.below bW
  obtain ⟨m, hm⟩ : ∃ m, (plc k T.T 12).length = m := ⟨_, rfl⟩
  have hm12 : m ≤ 12 := by rw [← hm]; exact plc_le k T.T 12
  obtain ⟨mo, hmo⟩ : ∃ mo, mostN k = mo := ⟨_, rfl⟩
  cases hfr : Slo.tOk T.G T.I with
  | false =>
    have hB2 : B = false := by rw [← hB]; unfold mkOk; rw [hfr]; rfl
    subst hB2
    have HT : Hid (mkR T k = T) := by show _ = _; unfold mkR; rw [hB]; rfl
    have hA2 : A = 0 := by rw [← hA]; unfold mkA; rw [hB]; rfl
    have hG2 : G = 0 := by rw [← hG]; unfold mkG; rw [hB]; rfl
    subst hA2 hG2
    clear hB hA hG
    obtain ⟨tA, hta⟩ : ∃ tA, Slo.tAt T.G T.I = tA := ⟨_, rfl⟩
    obtain ⟨tG, htg⟩ : ∃ tG, Slo.tGen T.G T.I = tG := ⟨_, rfl⟩
    clear hm hm12 hmo
    go_enter Try.func22, Try.ntmps22
    go_wp2_with (first
      | (go_at_call 35; rw [← hW]; refine (clone_any x T _ hT).mono ?_; rintro e w1 ⟨z, rfl, ⟨gl, xs, ow⟩, b1⟩; have s1 := bel_self w1 (.cells #[.slice z.gp 12 z.gc, .slice z.ip 12 z.ic, .slice z.tp 12 z.tc] 30); have a1 : Below W.heap.size W (w1.alloc (.cells #[.slice z.gp 12 z.gc, .slice z.ip 12 z.ic, .slice z.tp 12 z.tc] 30)) := b1.alloc b1.size _; have N1 : Vw (w1.alloc (.cells #[.slice z.gp 12 z.gc, .slice z.ip 12 z.ic, .slice z.tp 12 z.tc] 30)) w1.heap.size z 30 := Vw.new _ _ _; obtain ⟨c0, c1, c2⟩ := (hV.below a1).at)
      | (go_at_call 49; refine (take_t x T N _ (hT.below a1) hw hN tA tG false hta htg hfr).mono ?_; rintro e w2 ⟨sp, sc, sq, sd, rfl, r1, r2, nn1, nn2, b2⟩; have s2 : Below w2.heap.size w2 ((w2.alloc (.cells #[.slice sp 12 sc, .slice sq 12 sd] 27)).alloc (.cells #[.int .i64 tA, .int .i64 tG] 38)) := ((Below.refl _ _).alloc (Nat.le_refl _) _).alloc (by simp) _; have n3 : Below (w1.alloc (.cells #[.slice z.gp 12 z.gc, .slice z.ip 12 z.ic, .slice z.tp 12 z.tc] 30)).heap.size (w1.alloc (.cells #[.slice z.gp 12 z.gc, .slice z.ip 12 z.ic, .slice z.tp 12 z.tc] 30)) ((w2.alloc (.cells #[.slice sp 12 sc, .slice sq 12 sd] 27)).alloc (.cells #[.int .i64 tA, .int .i64 tG] 38)) := bel_call b2 (Nat.le_refl _) s2; have a3 := bel_call a1 (Nat.le_refl _) n3; have S3 : Lv ((w2.alloc (.cells #[.slice sp 12 sc, .slice sq 12 sd] 27)).alloc (.cells #[.int .i64 tA, .int .i64 tG] 38)) w2.heap.size #[.slice sp 12 sc, .slice sq 12 sd] 27 := Lv.below (Lv.new _ _ _) (bel_self _ _); have H3 : Lv ((w2.alloc (.cells #[.slice sp 12 sc, .slice sq 12 sd] 27)).alloc (.cells #[.int .i64 tA, .int .i64 tG] 38)) (w2.heap.size + 1) #[.int .i64 tA, .int .i64 tG] 38 := heap_at (by simp); clear c0 c1 c2; obtain ⟨c0, c1, c2⟩ := (hV.below a3).at; obtain ⟨e0, e1, e2⟩ := (N1.below n3).at; have R4 := hR.below a3; have H4 := hH.below a3)
      | (refine wpList_stV (E := eTb) rfl 30 (.tmp 4) (.tmp 39) rfl size30 (w.heap.size + 1) _ R4 rfl z rfl rfl ?_; intro w9 L9 k9; have H9 := H4.kp k9 (by omega); have h90 := H9.c 0 rfl; have h91 := H9.c 1 rfl; have z90 := H9.fz 0; have z91 := H9.fz 1))
    have e9 := load30 L9
    have B9 : Below w.heap.size w w9 := bel_kp (bel_call bW (Nat.le_refl _) a3) k9 (by omega) (bel_call bW (Nat.le_refl _) a3).size
    have L10 : Lv ((w9.setCell ⟨w.heap.size + 1 + 1, 0, none⟩ (.int .i64 0)).setCell ⟨w.heap.size + 1 + 1, 1, none⟩ (.int .i64 0)) (w.heap.size + 1) _ 30 := (L9.far (a := ⟨w.heap.size + 1 + 1, 0, none⟩) (by simp) _).far (a := ⟨w.heap.size + 1 + 1, 1, none⟩) (by simp) _
    have e10 := load30 (x := z) L10
    have H10 := (H9.set 0 (.int .i64 0)).set 1 (.int .i64 0)
    have e11 := load38 (a := 0) (b := 0) H10
    refine bodyPost_ret (v := .tuple #[.agg #[.slice z.gp 12 z.gc, .slice z.ip 12 z.ic, .slice z.tp 12 z.tc], .agg #[.int .i64 0, .int .i64 0], .bool false]) (by simp [results, Try.results22, asAddr, e10, e11]) rfl ⟨z, rfl, ?_, ?_⟩
    · rw [HT.out]
      exact ⟨_, _, ((((ow.below (bel_call s1 (Nat.le_refl _) n3)).kp k9 (by omega)).kp (Kp.set (g := w.heap.size + 1 + 1) (a := ⟨w.heap.size + 1 + 1, 0, none⟩) rfl _) (by omega)).kp (Kp.set (g := w.heap.size + 1 + 1) (a := ⟨w.heap.size + 1 + 1, 1, none⟩) rfl _) (by omega)).mono (by have := bW.size; omega)⟩
    · exact Below.setCell (Below.setCell B9 (p := ⟨w.heap.size + 1 + 1, 0, none⟩) (by show w.heap.size ≤ w.heap.size + 1 + 1; omega) _) (p := ⟨w.heap.size + 1 + 1, 1, none⟩) (by show w.heap.size ≤ w.heap.size + 1 + 1; omega) _
  | true =>
    obtain ⟨j, hj⟩ := Option.isSome_iff_exists.1 (show (Slo.freeIn T.G T.I).isSome = true from hfr)
    obtain ⟨hj12, _⟩ := free_of hw hj
    have hta : Slo.tAt T.G T.I = (j : Int) := by unfold Slo.tAt; rw [hj]
    obtain ⟨tG, htg⟩ : ∃ tG, Slo.tGen T.G T.I = tG := ⟨_, rfl⟩
    have dj : decide ((12 : Int) ≤ (j : Int)) = false := by simp; omega
    clear hj
    by_cases hmm : mo ≤ m
    · have dm : decide ((mo : Int) ≤ (m : Int)) = true := by simpa using hmm
      have hB2 : B = false := by rw [← hB]; unfold mkOk; rw [hm, hmo, hfr]; simp; omega
      subst hB2
      have HT : Hid (mkR T k = T) := by show _ = _; unfold mkR; rw [hB]; rfl
      have hA2 : A = 0 := by rw [← hA]; unfold mkA; rw [hB]; rfl
      have hG2 : G = 0 := by rw [← hG]; unfold mkG; rw [hB]; rfl
      subst hA2 hG2
      clear hB hA hG
      go_enter Try.func22, Try.ntmps22
      go_wp2_with (first
        | (go_at_call 35; rw [← hW]; refine (clone_any x T _ hT).mono ?_; rintro e w1 ⟨z, rfl, ⟨gl, xs, ow⟩, b1⟩; have s1 := bel_self w1 (.cells #[.slice z.gp 12 z.gc, .slice z.ip 12 z.ic, .slice z.tp 12 z.tc] 30); have a1 : Below W.heap.size W (w1.alloc (.cells #[.slice z.gp 12 z.gc, .slice z.ip 12 z.ic, .slice z.tp 12 z.tc] 30)) := b1.alloc b1.size _; have N1 : Vw (w1.alloc (.cells #[.slice z.gp 12 z.gc, .slice z.ip 12 z.ic, .slice z.tp 12 z.tc] 30)) w1.heap.size z 30 := Vw.new _ _ _; obtain ⟨c0, c1, c2⟩ := (hV.below a1).at)
        | (go_at_call 49; refine (take_t x T N _ (hT.below a1) hw hN (j : Int) tG true hta htg hfr).mono ?_; rintro e w2 ⟨sp, sc, sq, sd, rfl, r1, r2, nn1, nn2, b2⟩; have s2 : Below w2.heap.size w2 ((w2.alloc (.cells #[.slice sp 12 sc, .slice sq 12 sd] 27)).alloc (.cells #[.int .i64 (j : Int), .int .i64 tG] 38)) := ((Below.refl _ _).alloc (Nat.le_refl _) _).alloc (by simp) _; have n3 : Below (w1.alloc (.cells #[.slice z.gp 12 z.gc, .slice z.ip 12 z.ic, .slice z.tp 12 z.tc] 30)).heap.size (w1.alloc (.cells #[.slice z.gp 12 z.gc, .slice z.ip 12 z.ic, .slice z.tp 12 z.tc] 30)) ((w2.alloc (.cells #[.slice sp 12 sc, .slice sq 12 sd] 27)).alloc (.cells #[.int .i64 (j : Int), .int .i64 tG] 38)) := bel_call b2 (Nat.le_refl _) s2; have a3 := bel_call a1 (Nat.le_refl _) n3; have S3 : Lv ((w2.alloc (.cells #[.slice sp 12 sc, .slice sq 12 sd] 27)).alloc (.cells #[.int .i64 (j : Int), .int .i64 tG] 38)) w2.heap.size #[.slice sp 12 sc, .slice sq 12 sd] 27 := Lv.below (Lv.new _ _ _) (bel_self _ _); have H3 : Lv ((w2.alloc (.cells #[.slice sp 12 sc, .slice sq 12 sd] 27)).alloc (.cells #[.int .i64 (j : Int), .int .i64 tG] 38)) (w2.heap.size + 1) #[.int .i64 (j : Int), .int .i64 tG] 38 := heap_at (by simp); clear c0 c1 c2; obtain ⟨c0, c1, c2⟩ := (hV.below a3).at; obtain ⟨e0, e1, e2⟩ := (N1.below n3).at; have h0 := H3.c 0 rfl; have h1 := H3.c 1 rfl)
        | (go_at_call 50; refine (places_any x T _ (hT.below a3) k m hm).mono ?_; rintro e w3 ⟨p3, q3, rfl, _, b3⟩; have a4 := bel_call a3 (Nat.le_refl _) b3)
        | (go_at_call 51; refine (most_any k _ mo hmo).mono ?_; rintro e w4 ⟨rfl, b4⟩; have a5 := bel_call a4 (Nat.le_refl _) b4; have R4 := hR.below a5; have H4 := hH.below a5; have n5 := bel_call (bel_call n3 (Nat.le_refl _) b3) (Nat.le_refl _) b4; clear e0 e1 e2 c0 c1 c2; obtain ⟨e0, e1, e2⟩ := (N1.below n5).at; clear h0 h1)
        | (refine wpList_stV (E := eTb) rfl 30 (.tmp 4) (.tmp 39) rfl size30 (w.heap.size + 1) _ R4 rfl z rfl rfl ?_; intro w9 L9 k9; have H9 := H4.kp k9 (by omega); have h90 := H9.c 0 rfl; have h91 := H9.c 1 rfl; have z90 := H9.fz 0; have z91 := H9.fz 1))
      have e9 := load30 L9
      have B9 : Below w.heap.size w w9 := bel_kp (bel_call bW (Nat.le_refl _) a5) k9 (by omega) (bel_call bW (Nat.le_refl _) a5).size
      have L10 : Lv ((w9.setCell ⟨w.heap.size + 1 + 1, 0, none⟩ (.int .i64 0)).setCell ⟨w.heap.size + 1 + 1, 1, none⟩ (.int .i64 0)) (w.heap.size + 1) _ 30 := (L9.far (a := ⟨w.heap.size + 1 + 1, 0, none⟩) (by simp) _).far (a := ⟨w.heap.size + 1 + 1, 1, none⟩) (by simp) _
      have e10 := load30 (x := z) L10
      have H10 := (H9.set 0 (.int .i64 0)).set 1 (.int .i64 0)
      have e11 := load38 (a := 0) (b := 0) H10
      refine bodyPost_ret (v := .tuple #[.agg #[.slice z.gp 12 z.gc, .slice z.ip 12 z.ic, .slice z.tp 12 z.tc], .agg #[.int .i64 0, .int .i64 0], .bool false]) (by simp [results, Try.results22, asAddr, e10, e11]) rfl ⟨z, rfl, ?_, ?_⟩
      · rw [HT.out]
        exact ⟨_, _, ((((ow.below (bel_call s1 (Nat.le_refl _) n5)).kp k9 (by omega)).kp (Kp.set (g := w.heap.size + 1 + 1) (a := ⟨w.heap.size + 1 + 1, 0, none⟩) rfl _) (by omega)).kp (Kp.set (g := w.heap.size + 1 + 1) (a := ⟨w.heap.size + 1 + 1, 1, none⟩) rfl _) (by omega)).mono (by have := bW.size; omega)⟩
      · exact Below.setCell (Below.setCell B9 (p := ⟨w.heap.size + 1 + 1, 0, none⟩) (by show w.heap.size ≤ w.heap.size + 1 + 1; omega) _) (p := ⟨w.heap.size + 1 + 1, 1, none⟩) (by show w.heap.size ≤ w.heap.size + 1 + 1; omega) _
    · have dm : decide ((mo : Int) ≤ (m : Int)) = false := by simp; omega
      have hlt : m < mo := by omega
      have hB2 : B = true := by rw [← hB]; unfold mkOk; rw [hm, hmo, hfr]; simpa using hlt
      subst hB2
      have HT : Hid (mkR T k = ⟨Slo.tg T.G T.I, Slo.tb T.G T.I, T.T.set j (freshT k (j : Int) tG 8)⟩) := by show _ = _; unfold mkR mkT; rw [hB, hta, htg]; rfl
      have hA2 : A = (j : Int) := by rw [← hA]; unfold mkA; rw [hB, hta]; rfl
      have hG2 : G = tG := by rw [← hG]; unfold mkG; rw [hB, htg]; rfl
      subst hA2 hG2
      obtain ⟨S, hS⟩ : ∃ S, (freshT k (j : Int) G 8).s = S := ⟨_, rfl⟩
      have HS : Hid ((freshT k (j : Int) G 8).s = S) := hS
      have hjI : (j : Int) < 12 := by omega
      obtain ⟨C, hC⟩ : ∃ C, (if k = 1 then (8 : Int) else 0) = C := ⟨_, rfl⟩
      have HC : Hid ((if k = 1 then (8 : Int) else 0) = C) := hC
      clear hC
      have hjZ : (0 : Int) ≤ (j : Int) := by omega
      have HL : Hid ((Slo.tg T.G T.I).length = 12 ∧ (Slo.tb T.G T.I).length = 12) := ⟨by rw [Slo.tg_len]; exact ht.gl, by rw [Slo.tb_len]; exact ht.il⟩
      clear hB hA hG hS
      go_enter Try.func22, Try.ntmps22
      go_wp2_with (first
        | (go_at_call 35; rw [← hW]; refine (clone_any x T _ hT).mono ?_; rintro e w1 ⟨z, rfl, ⟨gl, xs, ow⟩, b1⟩; have s1 := bel_self w1 (.cells #[.slice z.gp 12 z.gc, .slice z.ip 12 z.ic, .slice z.tp 12 z.tc] 30); have a1 : Below W.heap.size W (w1.alloc (.cells #[.slice z.gp 12 z.gc, .slice z.ip 12 z.ic, .slice z.tp 12 z.tc] 30)) := b1.alloc b1.size _; have N1 : Vw (w1.alloc (.cells #[.slice z.gp 12 z.gc, .slice z.ip 12 z.ic, .slice z.tp 12 z.tc] 30)) w1.heap.size z 30 := Vw.new _ _ _; obtain ⟨c0, c1, c2⟩ := (hV.below a1).at)
        | (go_at_call 49; refine (take_t x T N _ (hT.below a1) hw hN (j : Int) G true hta htg hfr).mono ?_; rintro e w2 ⟨sp, sc, sq, sd, rfl, r1, r2, nn1, nn2, b2⟩; have s2 : Below w2.heap.size w2 ((w2.alloc (.cells #[.slice sp 12 sc, .slice sq 12 sd] 27)).alloc (.cells #[.int .i64 (j : Int), .int .i64 G] 38)) := ((Below.refl _ _).alloc (Nat.le_refl _) _).alloc (by simp) _; have n3 : Below (w1.alloc (.cells #[.slice z.gp 12 z.gc, .slice z.ip 12 z.ic, .slice z.tp 12 z.tc] 30)).heap.size (w1.alloc (.cells #[.slice z.gp 12 z.gc, .slice z.ip 12 z.ic, .slice z.tp 12 z.tc] 30)) ((w2.alloc (.cells #[.slice sp 12 sc, .slice sq 12 sd] 27)).alloc (.cells #[.int .i64 (j : Int), .int .i64 G] 38)) := bel_call b2 (Nat.le_refl _) s2; have a3 := bel_call a1 (Nat.le_refl _) n3; have S3 : Lv ((w2.alloc (.cells #[.slice sp 12 sc, .slice sq 12 sd] 27)).alloc (.cells #[.int .i64 (j : Int), .int .i64 G] 38)) w2.heap.size #[.slice sp 12 sc, .slice sq 12 sd] 27 := Lv.below (Lv.new _ _ _) (bel_self _ _); have H3 : Lv ((w2.alloc (.cells #[.slice sp 12 sc, .slice sq 12 sd] 27)).alloc (.cells #[.int .i64 (j : Int), .int .i64 G] 38)) (w2.heap.size + 1) #[.int .i64 (j : Int), .int .i64 G] 38 := heap_at (by simp); clear c0 c1 c2; obtain ⟨c0, c1, c2⟩ := (hV.below a3).at; obtain ⟨e0, e1, e2⟩ := (N1.below n3).at; have h0 := H3.c 0 rfl; have h1 := H3.c 1 rfl)
        | (go_at_call 50; refine (places_any x T _ (hT.below a3) k m hm).mono ?_; rintro e w3 ⟨p3, q3, rfl, _, b3⟩; have a4 := bel_call a3 (Nat.le_refl _) b3)
        | (go_at_call 51; refine (most_any k _ mo hmo).mono ?_; rintro e w4 ⟨rfl, b4⟩; have a5 := bel_call a4 (Nat.le_refl _) b4; have R4 := hR.below a5; have H4 := hH.below a5; have n5 := bel_call (bel_call n3 (Nat.le_refl _) b3) (Nat.le_refl _) b4; clear e0 e1 e2 c0 c1 c2; obtain ⟨e0, e1, e2⟩ := (N1.below n5).at; clear h0 h1; have S5 := (S3.below b3).below b4; have H5 := (H3.below b3).below b4; have t0 := S5.c 0 rfl; have t1 := S5.c 1 rfl; have h0 := H5.c 0 rfl; have h1 := H5.c 1 rfl; have N5 := N1.below n5)
        | (refine wpList_stP rfl 27 (.tmp 42) (.tmp 41) rfl w1.heap.size 0 _ 30 N5 [.slice sp 12 sc, .slice sq 12 sd] size27p (by simp) (by intro v hv; simp at hv; rcases hv with rfl | rfl <;> rfl) rfl rfl ?_; intro w6 Q6 k6))
      have N6 : Vw w6 w1.heap.size (⟨sp, sc, sq, sd, z.tp, z.tc⟩ : Tw) 30 := Q6
      have l1 := b1.size
      have l2 := b2.size
      have l3 := b3.size
      have l4 := b4.size
      have ls1 := s1.size
      have ls2 := s2.size
      have lA : w1.heap.size < (w1.alloc (.cells #[.slice z.gp 12 z.gc, .slice z.ip 12 z.ic, .slice z.tp 12 z.tc] 30)).heap.size := by simp
      have lB : w2.heap.size + 1 < ((w2.alloc (.cells #[.slice sp 12 sc, .slice sq 12 sd] 27)).alloc (.cells #[.int .i64 (j : Int), .int .i64 G] 38)).heap.size := by simp
      have a6 : Below W.heap.size W w6 := bel_kp a5 k6 l1 a5.size
      have n6 : Below w1.heap.size w1 w6 := bel_kp (bel_call s1 (Nat.le_refl _) n5) k6 (Nat.le_refl _) (by omega)
      have lg := own_lt ow.R
      have hge := own_ge ow.R
      have r1' := rd_kpF (((r1.below s2).below b3).below b4) k6 (nn1.far (by omega))
      have r2' := rd_kpF (((r2.below s2).below b3).below b4) k6 (nn2.far (by omega))
      have ow6 := (ow.below n6).slots r1' r2' (fun b o e => by have := nn1 b o e; omega) (fun b o e => by have := nn2 b o e; omega) (nn1.far (by omega)) (nn2.far (by omega)) HL.out.1 HL.out.2
      have H6 := H5.kp k6 (by omega)
      have R6 := hR.below a6
      have J6 := hH.below a6
      obtain ⟨gv, hgv⟩ : ∃ gv, gv = w1.heap.size := ⟨_, rfl⟩
      obtain ⟨gh, hgh⟩ : ∃ gh, gh = w2.heap.size + 1 := ⟨_, rfl⟩
      have qv1 : w.heap.size + 3 ≤ gv := by omega
      have qv2 : gv < w6.heap.size := by rw [hgv]; exact N6.lt
      have qv3 : gv ≠ gl := by omega
      have qh1 : w.heap.size + 3 ≤ gh := by omega
      have qh2 : gh < w6.heap.size := by rw [hgh]; exact H6.lt
      have qh3 : gh ≠ gl := by omega
      rw [← hgv] at N6
      rw [← hgh] at H6
      simp only [← hgv, ← hgh]
      have bw6 := bel_call bW (Nat.le_refl _) a6
      have ytp : z.tp = some ⟨gl, 0, none⟩ := ow6.tp
      clear hgv hgh e0 e1 e2 t0 t1 h0 h1 N1 N5 S3 H3 S5 H5 Q6 k6 r1 r2 r1' r2' nn1 nn2 ow n6 n5 n3 lA lB l1 l2 l3 l4 ls1 ls2 R4 H4 hW
      refine wp_region_held_drew (S := fun w' => w'.heap[gv]? = w6.heap[gv]? ∧ w'.heap[gh]? = w6.heap[gh]?) (by kernel_rfl) ⟨rfl, rfl⟩ (fun hHeld => ?_)
      refine wpAnyH_take (i := 0) (oi := _) (v := ?_) rfl (by kernel_rfl) (by kernel_rfl) (by kernel_rfl) (fun _ _ _ h => h) (Or.inl ⟨by rfl, ?_⟩) hHeld ?_
      rotate_left
      · intro w' hSw
        (go_simp <;> with_reducible rfl)
      try simp only [Act.put, List.getElem_toArray, List.getElem_cons_zero, List.setIfInBounds_toArray, List.set_cons_zero, List.set_cons_succ]
      refine wpAnyH_take (i := 1) (oi := _) (v := ?_) rfl (by kernel_rfl) (by kernel_rfl) (by kernel_rfl) (fun _ _ _ h => h) (Or.inl ⟨by rfl, ?_⟩) hHeld ?_
      rotate_left
      · intro w' hSw
        obtain ⟨e0, e1, e2⟩ := Vw.at (show Vw w' gv (⟨sp, sc, sq, sd, z.tp, z.tc⟩ : Tw) 30 from hSw.1.trans N6)
        dsimp only at e2
        rw [ytp] at e2
        have h0 := Lv.c (show Lv w' gh #[.int .i64 (j : Int), .int .i64 G] 38 from hSw.2.trans H6) 0 rfl
        have h1 := Lv.c (show Lv w' gh #[.int .i64 (j : Int), .int .i64 G] 38 from hSw.2.trans H6) 1 rfl
        (go_simp <;> with_reducible rfl)
      try simp only [Act.put, List.getElem_toArray, List.getElem_cons_succ, List.getElem_cons_zero, List.setIfInBounds_toArray, List.set_cons_zero, List.set_cons_succ]
      refine wpAnyH_take (i := 2) (oi := _) (v := ?_) rfl (by kernel_rfl) (by kernel_rfl) (by kernel_rfl) (fun _ _ _ h => h) (Or.inl ⟨by rfl, ?_⟩) hHeld ?_
      rotate_left
      · intro w' hSw
        (go_simp <;> with_reducible rfl)
      try simp only [Act.put, List.getElem_toArray, List.getElem_cons_succ, List.getElem_cons_zero, List.setIfInBounds_toArray, List.set_cons_zero, List.set_cons_succ]
      refine wpAnyH_take (i := 3) (oi := _) (v := ?_) rfl (by kernel_rfl) (by kernel_rfl) (by kernel_rfl) (fun _ _ _ h => h) (Or.inl ⟨by rfl, ?_⟩) hHeld ?_
      rotate_left
      · intro w' hSw
        obtain ⟨e0, e1, e2⟩ := Vw.at (show Vw w' gv (⟨sp, sc, sq, sd, z.tp, z.tc⟩ : Tw) 30 from hSw.1.trans N6)
        dsimp only at e2
        rw [ytp] at e2
        have h0 := Lv.c (show Lv w' gh #[.int .i64 (j : Int), .int .i64 G] 38 from hSw.2.trans H6) 0 rfl
        have h1 := Lv.c (show Lv w' gh #[.int .i64 (j : Int), .int .i64 G] 38 from hSw.2.trans H6) 1 rfl
        (go_simp <;> with_reducible rfl)
      try simp only [Act.put, List.getElem_toArray, List.getElem_cons_succ, List.getElem_cons_zero, List.setIfInBounds_toArray, List.set_cons_zero, List.set_cons_succ]
      refine wpAnyH_take (i := 4) (oi := _) (v := ?_) rfl (by kernel_rfl) (by kernel_rfl) (by kernel_rfl) (fun _ _ _ h => h) (Or.inl ⟨by rfl, ?_⟩) hHeld ?_
      rotate_left
      · intro w' hSw
        (go_simp <;> with_reducible rfl)
      try simp only [Act.put, List.getElem_toArray, List.getElem_cons_succ, List.getElem_cons_zero, List.setIfInBounds_toArray, List.set_cons_zero, List.set_cons_succ]
      refine wpAnyH_take (i := 5) (oi := _) (v := ?_) rfl (by kernel_rfl) (by kernel_rfl) (by kernel_rfl) (fun _ _ _ h => h) (Or.inl ⟨by rfl, ?_⟩) hHeld ?_
      rotate_left
      · intro w' hSw
        obtain ⟨e0, e1, e2⟩ := Vw.at (show Vw w' gv (⟨sp, sc, sq, sd, z.tp, z.tc⟩ : Tw) 30 from hSw.1.trans N6)
        dsimp only at e2
        rw [ytp] at e2
        have h0 := Lv.c (show Lv w' gh #[.int .i64 (j : Int), .int .i64 G] 38 from hSw.2.trans H6) 0 rfl
        have h1 := Lv.c (show Lv w' gh #[.int .i64 (j : Int), .int .i64 G] 38 from hSw.2.trans H6) 1 rfl
        (go_simp <;> with_reducible rfl)
      try simp only [Act.put, List.getElem_toArray, List.getElem_cons_succ, List.getElem_cons_zero, List.setIfInBounds_toArray, List.set_cons_zero, List.set_cons_succ]
      refine wpAnyH_ready (rs := [6]) (by kernel_rfl) (by simp) ?_
      refine AllReadyH.cons (o := _) rfl (fun K hK => ?_) (AllReadyH.nil)
      go_simp
      go_at_call 47; refine (begunT_c k (j : Int) G 8 _ S HS.out C HC.out).mono ?_
      rintro e w7 ⟨rfl, b7'⟩
      have b7 : Below w6.heap.size w6 w7 := (Below.refl _ _).drew.trans b7'
      have hS7 : w7.heap[gv]? = w6.heap[gv]? ∧ w7.heap[gh]? = w6.heap[gh]? := ⟨b7.block gv qv2, b7.block gh qh2⟩
      have ow7 := ow6.below b7
      refine hK.out _ _ hS7 (fun hHeld => ?_)
      clear hK K
      try simp only [Act.put, List.getElem_toArray, List.getElem_cons_succ, List.getElem_cons_zero, List.setIfInBounds_toArray, List.set_cons_zero, List.set_cons_succ]
      refine wpAnyH_take (i := 7) (oi := _) (v := ?_) rfl (by kernel_rfl) (by kernel_rfl) (by kernel_rfl) (fun _ _ _ h => h) (Or.inl ⟨by rfl, ?_⟩) hHeld ?_
      rotate_left
      · intro w' hSw
        (go_simp <;> with_reducible rfl)
      try simp only [Act.put, List.getElem_toArray, List.getElem_cons_succ, List.getElem_cons_zero, List.setIfInBounds_toArray, List.set_cons_zero, List.set_cons_succ]
      refine wpAnyH_ready (rs := [8]) (by kernel_rfl) (by simp) ?_
      refine AllReadyH.cons (o := _) rfl (fun K hK => ?_) (AllReadyH.nil)
      refine step_stR (E := eT) rfl 58 _ _ rfl size58 W.heap.size gl _ _ ow7.R j (by rw [ow7.len]; exact hj12) _ rfl (⟨k, (j : Int), G, C, 0, none, 0, 0, none, 0, 0, 0, none, 0, 0, S⟩ : Tc) rfl rfl ?_
      intro w8 o8 k8
      have lz7 := b7.size
      have hS8 : w8.heap[gv]? = w6.heap[gv]? ∧ w8.heap[gh]? = w6.heap[gh]? := ⟨(k8.block gv (by omega) (by intro h; exact qv3 (Option.some.inj h))).trans hS7.1, (k8.block gh (by omega) (by intro h; exact qh3 (Option.some.inj h))).trans hS7.2⟩
      refine hK.out _ _ hS8 (fun hHeld => ?_)
      clear hK K
      try simp only [Act.put, List.getElem_toArray, List.getElem_cons_succ, List.getElem_cons_zero]
      refine wpAnyH_done (by kernel_rfl) ?_ _
      have okN : Ok w7 (⟨k, (j : Int), G, C, 0, none, 0, 0, none, 0, 0, 0, none, 0, 0, S⟩ : Tc) (freshT k (j : Int) G 8) := Ok.freshC w7 k (j : Int) G 8 S HS.out C HC.out
      have ow8 := ow7.put j k8 o8 okN (Nt.nil _ _ _ _ _ _ _)
      have N8 : Vw w8 gv (⟨sp, sc, sq, sd, z.tp, z.tc⟩ : Tw) 30 := hHeld.1.trans N6
      have H8 : Lv w8 gh #[.int .i64 (j : Int), .int .i64 G] 38 := hHeld.2.trans H6
      have qo : W.heap.size ≤ gl := hge
      have R8 : Lv w8 (w.heap.size + 1) #[.slice none 0 0, .slice none 0 0, .slice none 0 0] 30 := (R6.below b7).kp k8 (by omega)
      have J8 : Lv w8 (w.heap.size + 1 + 1) #[.int .i64 0, .int .i64 0] 38 := (J6.below b7).kp k8 (by omega)
      have B7 := bel_call bw6 (Nat.le_refl _) b7
      have B8 : Below w.heap.size w w8 := bel_kp B7 k8 (by omega) B7.size
      have lz8 := k8.size
      clear hHeld ytp
      go_wp2
      refine wp_region_held_drew (S := fun w' => w'.heap[gv]? = w8.heap[gv]? ∧ w'.heap[gh]? = w8.heap[gh]?) (by kernel_rfl) ⟨rfl, rfl⟩ (fun hHeld => ?_)
      refine wpAnyH_take (i := 0) (oi := _) (v := ?_) rfl (by kernel_rfl) (by kernel_rfl) (by kernel_rfl) (fun _ _ _ h => h) (Or.inl ⟨by rfl, ?_⟩) hHeld ?_
      rotate_left
      · intro w' hSw
        obtain ⟨e0, e1, e2⟩ := Vw.at (show Vw w' gv (⟨sp, sc, sq, sd, z.tp, z.tc⟩ : Tw) 30 from hSw.1.trans N8)
        have h0 := Lv.c (show Lv w' gh #[.int .i64 (j : Int), .int .i64 G] 38 from hSw.2.trans H8) 0 rfl
        have h1 := Lv.c (show Lv w' gh #[.int .i64 (j : Int), .int .i64 G] 38 from hSw.2.trans H8) 1 rfl
        (go_simp <;> with_reducible rfl)
      try simp only [Act.put, List.getElem_toArray, List.getElem_cons_zero, List.setIfInBounds_toArray, List.set_cons_zero, List.set_cons_succ]
      refine wpAnyH_take (i := 1) (oi := _) (v := ?_) rfl (by kernel_rfl) (by kernel_rfl) (by kernel_rfl) (fun _ _ _ h => h) (Or.inl ⟨by rfl, ?_⟩) hHeld ?_
      rotate_left
      · intro w' hSw
        obtain ⟨e0, e1, e2⟩ := Vw.at (show Vw w' gv (⟨sp, sc, sq, sd, z.tp, z.tc⟩ : Tw) 30 from hSw.1.trans N8)
        have h0 := Lv.c (show Lv w' gh #[.int .i64 (j : Int), .int .i64 G] 38 from hSw.2.trans H8) 0 rfl
        have h1 := Lv.c (show Lv w' gh #[.int .i64 (j : Int), .int .i64 G] 38 from hSw.2.trans H8) 1 rfl
        (go_simp <;> with_reducible rfl)
      try simp only [Act.put, List.getElem_toArray, List.getElem_cons_succ, List.getElem_cons_zero, List.setIfInBounds_toArray, List.set_cons_zero, List.set_cons_succ]
      refine wpAnyH_ready (rs := [2]) (by kernel_rfl) (by simp) ?_
      refine AllReadyH.cons (o := _) rfl (fun K hK => ?_) (AllReadyH.nil)
      refine step_stV (E := eTb) rfl 30 _ _ rfl size30 (w.heap.size + 1) _ (Lv.draw R8) rfl (⟨sp, sc, sq, sd, z.tp, z.tc⟩ : Tw) rfl rfl ?_
      intro w9 L9 k9
      have lz9 : w8.heap.size ≤ w9.heap.size := k9.size
      have hS9 : w9.heap[gv]? = w8.heap[gv]? ∧ w9.heap[gh]? = w8.heap[gh]? := ⟨k9.block gv (by show gv < w8.heap.size; omega) (by intro h; have h := Option.some.inj h; omega), k9.block gh (by show gh < w8.heap.size; omega) (by intro h; have h := Option.some.inj h; omega)⟩
      have J9 := Lv.kp (Lv.draw J8) k9 (by omega)
      refine hK.out _ _ hS9 (fun hHeld => ?_)
      clear hK K
      try simp only [Act.put, List.getElem_toArray, List.getElem_cons_succ, List.getElem_cons_zero]
      refine wpAnyH_ready (rs := [3]) (by kernel_rfl) (by simp) ?_
      refine AllReadyH.cons (o := _) rfl (fun K hK => ?_) (AllReadyH.nil)
      refine step_stV (E := eH) rfl 38 _ _ rfl size38 (w.heap.size + 1 + 1) _ J9 rfl ((j : Int), G) rfl rfl ?_
      intro w10 L10 k10
      have hS10 : w10.heap[gv]? = w8.heap[gv]? ∧ w10.heap[gh]? = w8.heap[gh]? := ⟨(k10.block gv (by omega) (by intro h; have h := Option.some.inj h; omega)).trans hS9.1, (k10.block gh (by omega) (by intro h; have h := Option.some.inj h; omega)).trans hS9.2⟩
      refine hK.out _ _ hS10 (fun hHeld => ?_)
      clear hK K
      try simp only [Act.put, List.getElem_toArray, List.getElem_cons_succ, List.getElem_cons_zero]
      refine wpAnyH_take (i := 4) (oi := _) (v := ?_) rfl (by kernel_rfl) (by kernel_rfl) (by kernel_rfl) (fun _ _ _ h => h) (Or.inl ⟨by rfl, ?_⟩) hHeld ?_
      rotate_left
      · intro w' hSw
        (go_simp <;> with_reducible rfl)
      try simp only [Act.put, List.getElem_toArray, List.getElem_cons_succ, List.getElem_cons_zero, List.setIfInBounds_toArray, List.set_cons_zero, List.set_cons_succ]
      refine wpAnyH_done (by kernel_rfl) ?_ _
      have e9 := load30 (x := (⟨sp, sc, sq, sd, z.tp, z.tc⟩ : Tw)) (Lv.kp L9 k10 (by omega))
      have e10 := load38 L10
      have B9 : Below w.heap.size w w9 := bel_kp B8.drew k9 (by omega) (by have := B8.size; exact this)
      have B10 : Below w.heap.size w w10 := bel_kp B9 k10 (by omega) B9.size
      go_wp2
      refine bodyPost_ret (v := .tuple #[.agg #[.slice sp 12 sc, .slice sq 12 sd, .slice z.tp 12 z.tc], .agg #[.int .i64 (j : Int), .int .i64 G], .bool true]) (by simp [results, Try.results22, asAddr, e9, e10]) rfl ⟨(⟨sp, sc, sq, sd, z.tp, z.tc⟩ : Tw), rfl, ?_, B10⟩
      rw [HT.out]
      exact ⟨_, _, ((((ow8.below (Below.refl _ _).drew).kp k9 (by omega)).kp k10 (by omega))).mono (by have := bW.size; omega)⟩
end Go.Proofs.Ytcncpefdjgnhdaa
