/-
  What Audit of package obj hands back.
-/
import Derived.Test.YtcncpefdjgnhdaaAudn
import Derived.Test.YtcncpefdjgnhdaaMakes
namespace Go.Proofs.Ytcncpefdjgnhdaa
open Go.ChangeShapes Go.WideShapes Go.ChangeAt Go.RowKit
attribute [local go_sem ↓] Go.wp_at_zero Go.wp_at_succ

theorem Lx.grew {H : Nat} {X : Tc} {w w' : World} {q q' : Option Addr} {t : Th} (h : Ok w X t) (hl : Lx H X) (hH : H ≤ w.heap.size) (hg : Grew w w' q q') (hq : Nw H q) : Ok w' X t := by
  have k : ∀ {α : Type} {E : Elt α} {p : Option Addr} {c : Nat} {l : List α}, Rd E w p c l → (∀ b o, p = some ⟨b, o, none⟩ → b < H) → Rd E w' p c l := by
    intro α E p c l hr hp
    refine ⟨hr.cap, ?_⟩
    rcases hr.at_ with h0 | ⟨b, o, s, rfl, hs, hc⟩
    · exact .inl h0
    · by_cases hn : l = []
      · subst hn
        exact .inr ⟨b, o, s, rfl, fun h => absurd rfl h, fun j v hj => by simp [fl] at hj⟩
      · have := hs hn
        subst this
        have hb := hp b o rfl
        exact .inr ⟨b, o, none, rfl, fun _ => rfl, fun j v hj => by
          have e := hg.stays b (by omega) (hq.far hb)
          exact (World.cell?_of_block (a := ⟨b, o + j, none⟩) e).trans (hc j v hj)⟩
  exact { h with L := k h.L hl.1, W := k h.W hl.2.1, F := k h.F hl.2.2 }
theorem Rd.grewLow {α : Type} {E : Elt α} {H : Nat} {w w' : World} {q q' p : Option Addr} {c : Nat} {l : List α} (hr : Rd E w p c l) (hp : ∀ b o, p = some ⟨b, o, none⟩ → b < H) (hH : H ≤ w.heap.size) (hg : Grew w w' q q') (hq : Nw H q) : Rd E w' p c l := by
  refine ⟨hr.cap, ?_⟩
  rcases hr.at_ with h0 | ⟨b, o, s, rfl, hs, hc⟩
  · exact .inl h0
  · by_cases hn : l = []
    · subst hn
      exact .inr ⟨b, o, s, rfl, fun h => absurd rfl h, fun j v hj => by simp [fl] at hj⟩
    · have := hs hn
      subst this
      have hb := hp b o rfl
      exact .inr ⟨b, o, none, rfl, fun _ => rfl, fun j v hj => by
        have e := hg.stays b (by omega) (hq.far hb)
        exact (World.cell?_of_block (a := ⟨b, o + j, none⟩) e).trans (hc j v hj)⟩
/-- an own table is as it was while a row that lies higher grows -/
theorem Ow.grew {w w' : World} {B g H : Nat} {y : Tw} {xs : List Tc} {T : Tb} (h : Ow w B g y xs T) (hl : Lq H y xs) (hgH : g < H) (hH : H ≤ w.heap.size) {q q' : Option Addr} (hg : Grew w w' q q') (hq : Nw H q) : Ow w' B g y xs T :=
  { h with G := h.G.grewLow hl.g hH hg hq, I := h.I.grewLow hl.i hH hg hq, R := own_block_eq h.R (fun b o e => by cases e; exact hg.stays g (own_lt h.R) (hq.far hgH)), ts := ⟨h.ts.1, fun i h1 h2 => Lx.grew (h.ts.2 i h1 h2) (hl.x _ (List.getElem_mem h1)) hH hg hq⟩ }
theorem Lq.set {H : Nat} {y : Tw} {xs : List Tc} (h : Lq H y xs) (n : Nat) {X : Tc} (hx : Lx H X) : Lq H y (xs.set n X) := ⟨h.g, h.i, fun Z hZ => by
  rcases List.mem_or_eq_of_mem_set hZ with hZ | hZ
  · exact h.x Z hZ
  · subst hZ; exact hx⟩
theorem Lx.nil (H : Nat) (k a g c h : Int) (b s : Nat) : Lx H ⟨k, a, g, c, h, none, 0, 0, none, 0, 0, b, none, 0, 0, s⟩ := by
  unfold Lx
  exact ⟨fun _ _ e => (by cases e), fun _ _ e => (by cases e), fun _ _ e => (by cases e)⟩
theorem Far.type2 {α : Type} {E : Elt α} {w : World} {base : Nat} {e t : TypeId} {q : Option Addr} {d : Nat} {l : List α} (h : Own E w base e q d l) {g : Nat} {cs : Array Value} (hl : Lv w g cs t) (hne : e ≠ t) : Far q g := Far.type h hl hne
theorem anew_no {t : Th} (h : t.k = 0) : anew t = false := by unfold anew; rw [h]; rfl
theorem anew_tn {t : Th} (h : turnedT t = false) : anew t = false := by unfold anew; rw [h, Bool.and_false]
theorem anew_yes {t : Th} (h : t.k ≠ 0) (h2 : turnedT t = true) : anew t = true := by unfold anew; rw [h2]; simpa using h
set_option maxRecDepth 20000 in
set_option maxHeartbeats 8000000 in
theorem audit_any (x : Tw) (T : Tb) (w : World) (ht : Tr w x T) (m : Nat) (hm : (audP T.T 12).length = m) :
    Calls Try.prog 19 #[.agg #[.slice x.gp 12 x.gc, .slice x.ip 12 x.ic, .slice x.tp 12 x.tc]] w fun e w' => ∃ (z : Tw) (pa : Option Addr) (ca : Nat) (pb : Option Addr) (cb : Nat), e = .returned (.tuple #[.agg #[.slice z.gp 12 z.gc, .slice z.ip 12 z.ic, .slice z.tp 12 z.tc], .slice pa m ca, .slice pb m cb]) ∧ Tr w' z (adR T) ∧ Rd eI w' pa ca (audP T.T 12) ∧ Lr w' pb cb (audW T.T 12) ∧ Below w.heap.size w w' := by
  have HMM : Hid ((audP T.T 12).length = m) := hm
  clear hm
  obtain ⟨gp, gc, ip, ic, tp, tc⟩ := x
  obtain ⟨b, o, _, e9, _⟩ := ht.thing 0 (by decide)
  dsimp only at e9 ⊢
  subst e9
  obtain ⟨W, hW⟩ : ∃ W, W = (w.alloc (.cells #[.slice gp 12 gc, .slice ip 12 ic, .slice (some ⟨b, o, none⟩) 12 tc] 30)).alloc (.cells #[.slice none 0 0, .slice none 0 0, .slice none 0 0] 30) := ⟨_, rfl⟩
  have bW : Below w.heap.size w W := by rw [hW]; exact ((Below.refl _ _).alloc (Nat.le_refl _) _).alloc (by simp) _
  have hsz : W.heap.size = w.heap.size + 2 := by rw [hW]; simp
  have hV : Vw W w.heap.size (⟨gp, gc, ip, ic, some ⟨b, o, none⟩, tc⟩ : Tw) 30 := by rw [hW]; exact (Vw.new _ (⟨gp, gc, ip, ic, some ⟨b, o, none⟩, tc⟩ : Tw) _).below (bel_self _ _)
  have hR : Lv W (w.heap.size + 1) #[.slice none 0 0, .slice none 0 0, .slice none 0 0] 30 := by rw [hW]; exact heap_at (by simp)
  have hT := ht.below bW
  have HTL : Hid (T.T.length = 12) := ht.tl
  go_enter Try.func19, Try.ntmps19
  go_wp2_with (go_at_call 35; rw [← hW]; refine (clone_lq (⟨gp, gc, ip, ic, some ⟨b, o, none⟩, tc⟩ : Tw) T _ hT).mono ?_; rintro e w1 ⟨z, rfl, ⟨g, xs, ow, lq⟩, b1⟩; have s1 := bel_self w1 (.cells #[.slice z.gp 12 z.gc, .slice z.ip 12 z.ic, .slice z.tp 12 z.tc] 30); have a1 : Below W.heap.size W (w1.alloc (.cells #[.slice z.gp 12 z.gc, .slice z.ip 12 z.ic, .slice z.tp 12 z.tc] 30)) := b1.alloc b1.size _; have N1 : Vw (w1.alloc (.cells #[.slice z.gp 12 z.gc, .slice z.ip 12 z.ic, .slice z.tp 12 z.tc] 30)) w1.heap.size z 30 := Vw.new _ _ _; obtain ⟨c0, c1, c2⟩ := (hV.below a1).at)
  have lg : g < w1.heap.size := own_lt ow.R
  have hge : W.heap.size ≤ g := own_ge ow.R
  have hgW : W.heap.size ≤ w1.heap.size := b1.size
  have V1 := hV.below a1
  have R1 := hR.below a1
  have ow1 := ow.below s1
  have ow2 : Ow (w1.alloc (.cells #[.slice z.gp 12 z.gc, .slice z.ip 12 z.ic, .slice z.tp 12 z.tc] 30)) W.heap.size g z xs ⟨T.G, T.I, audN T.T 0⟩ := by rw [audN_zero]; exact ow1
  have B1 := bel_call bW (Nat.le_refl _) a1
  have hA1 : w1.heap.size < (w1.alloc (.cells #[.slice z.gp 12 z.gc, .slice z.ip 12 z.ic, .slice z.tp 12 z.tc] 30)).heap.size := by simp
  clear ow ow1 hT hW c0 c1 c2 s1 a1 b1 hV hR
  obtain ⟨c0, c1, c2⟩ := V1.at
  generalize (w1.alloc (.cells #[.slice z.gp 12 z.gc, .slice z.ip 12 z.ic, .slice z.tp 12 z.tc] 30)) = wA at *
  obtain ⟨gv, hgv⟩ : ∃ gv, gv = w1.heap.size := ⟨_, rfl⟩
  rw [← hgv] at N1 lg hgW hA1 lq
  simp only [← hgv]
  clear hgv
  have lqA : Lq wA.heap.size z xs := ⟨fun b o e => by have := lq.g b o e; omega, fun b o e => by have := lq.i b o e; omega, fun X hX => (lq.x X hX).mono (by omega)⟩
  clear lq
  obtain ⟨H0, hH0⟩ : ∃ H0, wA.heap.size = H0 := ⟨_, rfl⟩
  have hH0' : wA.heap.size = H0 := hH0
  rw [hH0] at lqA hA1
  clear c0 c1 c2
  obtain ⟨c0, c1, c2⟩ := V1.at
  go_loopw [6, 7, 8, 15] (fun a q _ i wr => ∃ (n l : Nat) (pa : Option Addr) (ca : Nat) (pb : Option Addr) (cb : Nat) (ys : List Tc), n ≤ 12 ∧ i = .int .i64 n ∧ a = .slice pa l ca ∧ q = .slice pb l cb ∧ (audP T.T n).length = l ∧ Own eI wr H0 3 pa ca (audP T.T n) ∧ Lo wr H0 pb cb (audW T.T n) pa ∧ Ow wr W.heap.size g z ys ⟨T.G, T.I, audN T.T n⟩ ∧ Lq H0 z ys ∧ Vw wr gv z 30 ∧ Vw wr w.heap.size (⟨gp, gc, ip, ic, some ⟨b, o, none⟩, tc⟩ : Tw) 30 ∧ Lv wr (w.heap.size + 1) #[.slice none 0 0, .slice none 0 0, .slice none 0 0] 30 ∧ Below w.heap.size w wr ∧ H0 ≤ wr.heap.size) (fun _ _ _ i _ => 12 - (intOf i).toNat)
  case atStart => exact ⟨0, 0, none, 0, none, 0, xs, Nat.zero_le _, rfl, rfl, rfl, rfl, own_nil _ _ _, Lo.nil _ _ _, ow2, lqA, N1, V1, R1, B1, Nat.le_of_eq hH0'.symm⟩
  case round =>
    obtain ⟨n, l, pa, ca, pb, cb, ys, hn, rfl, rfl, rfl, hl, oa, ob, owr, lqr, hN, hV, hR, hbw, hle⟩ := hrel
    have HL : Hid ((audP T.T n).length = l) := hl
    have hl9 : l ≤ 12 := by have := audP_le T.T n; omega
    clear hl ow2 lqA N1 V1 R1 B1 hH0 hH0' c0 c1 c2
    by_cases hlt : n < 12
    · have hnI : (n : Int) < 12 := by omega
      have hnZ : (0 : Int) ≤ (n : Int) := by omega
      have hnl : n < T.T.length := by rw [HTL.out]; exact hlt
      obtain ⟨b', o', X, e8, hb, hXw, hXo⟩ := ht.thing n hlt
      cases e8
      obtain ⟨f0, f1, f2, f3, f4, f5, f6, f7, f8, f9⟩ := hXw.below hbw hb
      have s1 := bel_self wr (.cells #[.int .i64 X.k, .int .i64 X.a, .int .i64 X.g, .int .i64 X.c, .int .i64 X.h, .slice X.lp X.ln X.lc, .slice X.wp X.wn X.wc, .int .u32 (X.b : Int), .slice X.fp X.fn X.fc, .int .u32 (X.s : Int)] 58)
      have b1 := bel_call hbw (Nat.le_refl _) s1
      have X1 : Vt (wr.alloc (.cells #[.int .i64 X.k, .int .i64 X.a, .int .i64 X.g, .int .i64 X.c, .int .i64 X.h, .slice X.lp X.ln X.lc, .slice X.wp X.wn X.wc, .int .u32 (X.b : Int), .slice X.fp X.fn X.fc, .int .u32 (X.s : Int)] 58)) wr.heap.size X 58 := Vt.new _ _ _
      obtain ⟨c0, c1, c2⟩ := (hV.below s1).at
      obtain ⟨d0, d1, d2, d3, d4, d5, d6, d7, d8, d9⟩ := X1.at
      obtain ⟨t, htt⟩ : ∃ t, T.T.getD n th0 = t := ⟨_, rfl⟩
      have HTT : Hid (T.T.getD n th0 = t) := htt
      rw [htt] at hXo
      clear htt
      cases hB : isThere T.T (n : Int) with
      | false =>
        have hk0 : t.k = 0 := by
          unfold isThere at hB
          simp only [decide_eq_false_iff_not] at hB
          rw [← HTT.out]
          exact Classical.byContradiction fun h => hB ⟨by omega, by omega, h⟩
        have han := anew_no hk0
        have HP : Hid (audP T.T (n + 1) = audP T.T n ∧ audW T.T (n + 1) = audW T.T n ∧ audN T.T (n + 1) = audN T.T n) := ⟨by rw [audP, HTT.out, han]; simp, by rw [audW, HTT.out, han]; simp, audN_same hnl (by rw [HTT.out]; exact han)⟩
        clear hk0 han f0 f1 f2 f3 f4 f5 f6 f7 f8 f9
        obtain ⟨f0, f1, f2, f3, f4, f5, f6, f7, f8, f9⟩ := hXw.below hbw hb
        go_wp2_with (go_at_call 41; refine (there_any (⟨gp, gc, ip, ic, some ⟨b, o, none⟩, tc⟩ : Tw) T _ (ht.below b1) (n : Int) false hB).mono ?_; rintro e w2 ⟨rfl, b2⟩)
        have bb := bel_call s1 (Nat.le_refl _) b2
        go_roundw
        case rel => exact ⟨n + 1, l, pa, ca, pb, cb, ys, by omega, by go_num, rfl, rfl, by rw [HP.out.1]; exact HL.out, by rw [HP.out.1]; exact own_below oa bb, by rw [HP.out.2.1]; exact ob.below bb, by rw [HP.out.2.2]; exact owr.below bb, lqr, hN.below bb, hV.below bb, hR.below bb, bel_call hbw (Nat.le_refl _) bb, by have := bb.size; omega⟩
        case measure => simp [intOf]; omega
      | true =>
        obtain ⟨k', hk', _, hk0⟩ := isThere_yes hB
        have hkn : k' = n := by omega
        subst hkn
        rw [HTT.out] at hk0
        cases hB2 : turnedT t with
        | false =>
          have han := anew_tn hB2
          have HP : Hid (audP T.T (k' + 1) = audP T.T k' ∧ audW T.T (k' + 1) = audW T.T k' ∧ audN T.T (k' + 1) = audN T.T k') := ⟨by rw [audP, HTT.out, han]; simp, by rw [audW, HTT.out, han]; simp, audN_same hnl (by rw [HTT.out]; exact han)⟩
          clear hk0 han hk'
          go_wp2_with (first
            | (go_at_call 41; refine (there_any (⟨gp, gc, ip, ic, some ⟨b, o, none⟩, tc⟩ : Tw) T _ (ht.below b1) (k' : Int) true hB).mono ?_; rintro e w2 ⟨rfl, b2⟩; clear d0 d1 d2 d3 d4 d5 d6 d7 d8 d9; obtain ⟨d0, d1, d2, d3, d4, d5, d6, d7, d8, d9⟩ := (X1.below b2).at)
            | (go_at_call 44; refine (isturned_any X t _ (hXo.below (bel_call b1 (Nat.le_refl _) b2)) false hB2).mono ?_; rintro e w3 ⟨rfl, b3⟩))
          have bb := bel_call (bel_call s1 (Nat.le_refl _) b2) (Nat.le_refl _) b3
          go_roundw
          case rel => exact ⟨k' + 1, l, pa, ca, pb, cb, ys, by omega, by go_num, rfl, rfl, by rw [HP.out.1]; exact HL.out, by rw [HP.out.1]; exact own_below oa bb, by rw [HP.out.2.1]; exact ob.below bb, by rw [HP.out.2.2]; exact owr.below bb, lqr, hN.below bb, hV.below bb, hR.below bb, bel_call hbw (Nat.le_refl _) bb, by have := bb.size; omega⟩
          case measure => simp [intOf]; omega
        | true =>
          have han := anew_yes hk0 hB2
          have HP : Hid (audP T.T (k' + 1) = audP T.T k' ++ [(k' : Int)] ∧ audW T.T (k' + 1) = audW T.T k' ++ [waitT t] ∧ audN T.T (k' + 1) = (audN T.T k').set k' (freshT t.k t.a t.g t.c)) := ⟨by rw [audP, HTT.out, han]; simp, by rw [audW, HTT.out, han]; simp, by rw [audN_set hnl, HTT.out]; unfold audT; rw [han]; rfl⟩
          obtain ⟨C, hC⟩ : ∃ C, (if X.k = 1 then X.c else 0) = C := ⟨_, rfl⟩
          have HC : Hid ((if X.k = 1 then X.c else 0) = C) := hC
          obtain ⟨S, hS⟩ : ∃ S, (freshT X.k X.a X.g X.c).s = S := ⟨_, rfl⟩
          have HS : Hid ((freshT X.k X.a X.g X.c).s = S) := hS
          obtain ⟨nw, hnw⟩ : ∃ nw, X.wn + X.fn = nw := ⟨_, rfl⟩
          have hnw9 : nw ≤ 200 := by have := hXo.w9; have := hXo.f9; omega
          clear hk0 han hk' hC hS
          go_wp2_with (first
            | (go_at_call 41; refine (there_any (⟨gp, gc, ip, ic, some ⟨b, o, none⟩, tc⟩ : Tw) T _ (ht.below b1) (k' : Int) true hB).mono ?_; rintro e w2 ⟨rfl, b2⟩; clear d0 d1 d2 d3 d4 d5 d6 d7 d8 d9; obtain ⟨d0, d1, d2, d3, d4, d5, d6, d7, d8, d9⟩ := (X1.below b2).at)
            | (go_at_call 44; refine (isturned_any X t _ (hXo.below (bel_call b1 (Nat.le_refl _) b2)) true hB2).mono ?_; rintro e w3 ⟨rfl, b3⟩))
          have bb := bel_call (bel_call s1 (Nat.le_refl _) b2) (Nat.le_refl _) b3
          have N3 := hN.below bb
          have V3 := hV.below bb
          have R3 := hR.below bb
          have X3 := (X1.below b2).below b3
          have ow3 := owr.below bb
          have oa3 := own_below oa bb
          have ob3 := ob.below bb
          have B3 := bel_call hbw (Nat.le_refl _) bb
          have l3 := bb.size
          have ls1 : wr.heap.size < (wr.alloc (.cells #[.int .i64 X.k, .int .i64 X.a, .int .i64 X.g, .int .i64 X.c, .int .i64 X.h, .slice X.lp X.ln X.lc, .slice X.wp X.wn X.wc, .int .u32 (X.b : Int), .slice X.fp X.fn X.fc, .int .u32 (X.s : Int)] 58)).heap.size := by simp
          have lb2 := b2.size
          have lb3 := b3.size
          have hgx : wr.heap.size < w3.heap.size := X3.lt
          have ytp : Hid (z.tp = some ⟨g, 0, none⟩) := ow3.tp
          obtain ⟨gx, hgxE⟩ : ∃ gx, gx = wr.heap.size := ⟨_, rfl⟩
          rw [← hgxE] at X3 hgx l3 hle
          simp only [← hgxE]
          clear hgxE f0 f1 f2 f3 f4 f5 f6 f7 f8 f9 d0 d1 d2 d3 d4 d5 d6 d7 d8 d9 c0 c1 c2 hN hV hR X1 owr oa ob s1 b1 b2 b3 ls1 lb2 lb3 bb hbw
          refine wp_region_held_drew (S := fun w' => w'.heap[gv]? = w3.heap[gv]? ∧ w'.heap[gx]? = w3.heap[gx]?) (by kernel_rfl) ⟨rfl, rfl⟩ (fun hHeld => ?_)
          refine wpAnyH_take (i := 0) (oi := _) (v := ?_) rfl (by kernel_rfl) (by kernel_rfl) (by kernel_rfl) (fun _ _ _ h => h) (Or.inl ⟨by rfl, ?_⟩) hHeld ?_
          rotate_left
          · intro w' hSw
            (go_simp <;> with_reducible rfl)
          try simp only [Act.put, List.getElem_toArray, List.getElem_cons_zero, List.setIfInBounds_toArray, List.set_cons_zero, List.set_cons_succ]
          refine wpAnyH_take (i := 1) (oi := _) (v := ?_) rfl (by kernel_rfl) (by kernel_rfl) (by kernel_rfl) (fun _ _ _ h => h) (Or.inl ⟨by rfl, ?_⟩) hHeld ?_
          rotate_left
          · intro w' hSw
            obtain ⟨e0, e1, e2⟩ := Vw.at (show Vw w' gv z 30 from hSw.1.trans N3)
            rw [ytp.out] at e2
            obtain ⟨d0, d1, d2, d3, d4, d5, d6, d7, d8, d9⟩ := Vt.at (show Vt w' gx X 58 from hSw.2.trans X3)
            (go_simp <;> with_reducible rfl)
          try simp only [Act.put, List.getElem_toArray, List.getElem_cons_succ, List.getElem_cons_zero, List.setIfInBounds_toArray, List.set_cons_zero, List.set_cons_succ]
          refine wpAnyH_take (i := 2) (oi := _) (v := ?_) rfl (by kernel_rfl) (by kernel_rfl) (by kernel_rfl) (fun _ _ _ h => h) (Or.inl ⟨by rfl, ?_⟩) hHeld ?_
          rotate_left
          · intro w' hSw
            (go_simp <;> with_reducible rfl)
          try simp only [Act.put, List.getElem_toArray, List.getElem_cons_succ, List.getElem_cons_zero, List.setIfInBounds_toArray, List.set_cons_zero, List.set_cons_succ]
          refine wpAnyH_take (i := 3) (oi := _) (v := ?_) rfl (by kernel_rfl) (by kernel_rfl) (by kernel_rfl) (fun _ _ _ h => h) (Or.inl ⟨by rfl, ?_⟩) hHeld ?_
          rotate_left
          · intro w' hSw
            (go_simp <;> with_reducible rfl)
          try simp only [Act.put, List.getElem_toArray, List.getElem_cons_succ, List.getElem_cons_zero, List.setIfInBounds_toArray, List.set_cons_zero, List.set_cons_succ]
          refine wpAnyH_take (i := 4) (oi := _) (v := ?_) rfl (by kernel_rfl) (by kernel_rfl) (by kernel_rfl) (fun _ _ _ h => h) (Or.inl ⟨by rfl, ?_⟩) hHeld ?_
          rotate_left
          · intro w' hSw
            obtain ⟨e0, e1, e2⟩ := Vw.at (show Vw w' gv z 30 from hSw.1.trans N3)
            rw [ytp.out] at e2
            obtain ⟨d0, d1, d2, d3, d4, d5, d6, d7, d8, d9⟩ := Vt.at (show Vt w' gx X 58 from hSw.2.trans X3)
            (go_simp <;> with_reducible rfl)
          try simp only [Act.put, List.getElem_toArray, List.getElem_cons_succ, List.getElem_cons_zero, List.setIfInBounds_toArray, List.set_cons_zero, List.set_cons_succ]
          refine wpAnyH_take (i := 5) (oi := _) (v := ?_) rfl (by kernel_rfl) (by kernel_rfl) (by kernel_rfl) (fun _ _ _ h => h) (Or.inl ⟨by rfl, ?_⟩) hHeld ?_
          rotate_left
          · intro w' hSw
            (go_simp <;> with_reducible rfl)
          try simp only [Act.put, List.getElem_toArray, List.getElem_cons_succ, List.getElem_cons_zero, List.setIfInBounds_toArray, List.set_cons_zero, List.set_cons_succ]
          refine wpAnyH_take (i := 6) (oi := _) (v := ?_) rfl (by kernel_rfl) (by kernel_rfl) (by kernel_rfl) (fun _ _ _ h => h) (Or.inl ⟨by rfl, ?_⟩) hHeld ?_
          rotate_left
          · intro w' hSw
            obtain ⟨e0, e1, e2⟩ := Vw.at (show Vw w' gv z 30 from hSw.1.trans N3)
            rw [ytp.out] at e2
            obtain ⟨d0, d1, d2, d3, d4, d5, d6, d7, d8, d9⟩ := Vt.at (show Vt w' gx X 58 from hSw.2.trans X3)
            (go_simp <;> with_reducible rfl)
          try simp only [Act.put, List.getElem_toArray, List.getElem_cons_succ, List.getElem_cons_zero, List.setIfInBounds_toArray, List.set_cons_zero, List.set_cons_succ]
          refine wpAnyH_take (i := 7) (oi := _) (v := ?_) rfl (by kernel_rfl) (by kernel_rfl) (by kernel_rfl) (fun _ _ _ h => h) (Or.inl ⟨by rfl, ?_⟩) hHeld ?_
          rotate_left
          · intro w' hSw
            (go_simp <;> with_reducible rfl)
          try simp only [Act.put, List.getElem_toArray, List.getElem_cons_succ, List.getElem_cons_zero, List.setIfInBounds_toArray, List.set_cons_zero, List.set_cons_succ]
          refine wpAnyH_take (i := 8) (oi := _) (v := ?_) rfl (by kernel_rfl) (by kernel_rfl) (by kernel_rfl) (fun _ _ _ h => h) (Or.inl ⟨by rfl, ?_⟩) hHeld ?_
          rotate_left
          · intro w' hSw
            (go_simp <;> with_reducible rfl)
          try simp only [Act.put, List.getElem_toArray, List.getElem_cons_succ, List.getElem_cons_zero, List.setIfInBounds_toArray, List.set_cons_zero, List.set_cons_succ]
          refine wpAnyH_take (i := 9) (oi := _) (v := ?_) rfl (by kernel_rfl) (by kernel_rfl) (by kernel_rfl) (fun _ _ _ h => h) (Or.inl ⟨by rfl, ?_⟩) hHeld ?_
          rotate_left
          · intro w' hSw
            obtain ⟨e0, e1, e2⟩ := Vw.at (show Vw w' gv z 30 from hSw.1.trans N3)
            rw [ytp.out] at e2
            obtain ⟨d0, d1, d2, d3, d4, d5, d6, d7, d8, d9⟩ := Vt.at (show Vt w' gx X 58 from hSw.2.trans X3)
            (go_simp <;> with_reducible rfl)
          try simp only [Act.put, List.getElem_toArray, List.getElem_cons_succ, List.getElem_cons_zero, List.setIfInBounds_toArray, List.set_cons_zero, List.set_cons_succ]
          refine wpAnyH_ready (rs := [10]) (by kernel_rfl) (by simp) ?_
          refine AllReadyH.cons (o := _) rfl (fun K hK => ?_) (AllReadyH.nil)
          go_simp
          go_at_call 47; refine (begunT_c X.k X.a X.g X.c _ S HS.out C HC.out).mono ?_
          rintro e w4 ⟨rfl, b4'⟩
          have b4 : Below w3.heap.size w3 w4 := (Below.refl _ _).drew.trans b4'
          have hS4 : w4.heap[gv]? = w3.heap[gv]? ∧ w4.heap[gx]? = w3.heap[gx]? := ⟨b4.block gv N3.lt, b4.block gx hgx⟩
          have ow4 := ow3.below b4
          refine hK.out _ _ hS4 (fun hHeld => ?_)
          clear hK K
          try simp only [Act.put, List.getElem_toArray, List.getElem_cons_succ, List.getElem_cons_zero, List.setIfInBounds_toArray, List.set_cons_zero, List.set_cons_succ]
          refine wpAnyH_take (i := 11) (oi := _) (v := ?_) rfl (by kernel_rfl) (by kernel_rfl) (by kernel_rfl) (fun _ _ _ h => h) (Or.inl ⟨by rfl, ?_⟩) hHeld ?_
          rotate_left
          · intro w' hSw
            (go_simp <;> with_reducible rfl)
          try simp only [Act.put, List.getElem_toArray, List.getElem_cons_succ, List.getElem_cons_zero, List.setIfInBounds_toArray, List.set_cons_zero, List.set_cons_succ]
          refine wpAnyH_ready (rs := [12]) (by kernel_rfl) (by simp) ?_
          refine AllReadyH.cons (o := _) rfl (fun K hK => ?_) (AllReadyH.nil)
          refine step_stR (E := eT) rfl 58 _ _ rfl size58 W.heap.size g _ _ ow4.R k' (by rw [ow4.len]; exact hlt) _ rfl (⟨X.k, X.a, X.g, C, 0, none, 0, 0, none, 0, 0, 0, none, 0, 0, S⟩ : Tc) rfl rfl ?_
          intro w5 o5 k5
          have lz4 := b4.size
          have lN3 := N3.lt
          have hS5 : w5.heap[gv]? = w3.heap[gv]? ∧ w5.heap[gx]? = w3.heap[gx]? := ⟨(k5.block gv (by omega) (by intro h; have h := Option.some.inj h; omega)).trans hS4.1, (k5.block gx (by omega) (by intro h; have h := Option.some.inj h; omega)).trans hS4.2⟩
          refine hK.out _ _ hS5 (fun hHeld => ?_)
          clear hK K
          try simp only [Act.put, List.getElem_toArray, List.getElem_cons_succ, List.getElem_cons_zero]
          refine wpAnyH_done (by kernel_rfl) ?_ _
          have okN : Ok w4 (⟨X.k, X.a, X.g, C, 0, none, 0, 0, none, 0, 0, 0, none, 0, 0, S⟩ : Tc) (freshT t.k t.a t.g t.c) := by
            have h := Ok.freshC w4 X.k X.a X.g X.c S HS.out C HC.out
            rw [hXo.k, hXo.a, hXo.g, hXo.c] at h
            rw [hXo.k, hXo.a, hXo.g]
            exact h
          have ow5 := ow4.put k' k5 o5 okN (Nt.nil _ _ _ _ _ _ _)
          have lq5 := lqr.set k' (Lx.nil H0 X.k X.a X.g C 0 0 S)
          obtain ⟨csg, lvg⟩ := own_lv ow4.R
          have oa5 := own_type (own_below oa3 b4) lvg (by decide) k5
          have ob5 := (ob3.below b4).kp lvg (by decide) (by decide) k5
          have N5 : Vw w5 gv z 30 := hS5.1.trans N3
          have X5 : Vt w5 gx X 58 := hS5.2.trans X3
          have V5 : Vw w5 w.heap.size (⟨gp, gc, ip, ic, some ⟨b, o, none⟩, tc⟩ : Tw) 30 := Lv.kp (V3.below b4) k5 (by omega)
          have R5 := (R3.below b4).kp k5 (by omega)
          have B5 : Below w.heap.size w w5 := bel_kp (bel_call B3 (Nat.le_refl _) b4) k5 (by omega) (bel_call B3 (Nat.le_refl _) b4).size
          have lz5 := k5.size
          clear hHeld hS4 hS5 ow3 ow4 oa3 ob3 N3 X3 V3 R3 ytp okN
          have s6 := bel_self w5 (.cells #[.int .i64 (k' : Int)] 3)
          have oa6 := own_below oa5 s6
          have ls6 := s6.size
          have X6 := X5.below s6
          go_wp2_with (first
            | (at_builtin; refine wpList_app tI _ rfl _ _ rfl H0 pa ca _ l HL.out rfl oa6 _ _ [(k' : Int)] 1 rfl rfl (rd_block (heap_alloc_new _ _) 1 rfl rfl) (by omega) (by omega) (l + 1) rfl ?_; intro p7 c7 w7 o7 b7 g7; have X7 := Lv.grew X6 g7 (Far.type oa6 X6 (by decide)); obtain ⟨d0, d1, d2, d3, d4, d5, d6, d7, d8, d9⟩ := Vt.at (x := X) X7; have l7 := b7.size; have bx7 : Below w.heap.size w w7 := (bel_call B5 (Nat.le_refl _) s6).trans (b7.mono (by omega)))
            | (go_at_call 37; refine (waiting_any X t _ (hXo.below bx7) nw hnw).mono ?_; rintro e w8 ⟨p8, c8, rfl, o8, b8⟩; have s9 := bel_self w8 (.cells #[.slice p8 nw c8] 24); have l8 := b8.size; have ls9 := s9.size; obtain ⟨ss, q1, q2, q3⟩ := (((ob5.below s6).grew oa6 g7).below b8).below s9; have HSS : Hid (ss.length = l) := q2.trans ((audW_len T.T k').trans HL.out))
            | (at_builtin; refine wpList_app tS _ rfl _ _ rfl H0 pb cb ss l HSS.out rfl q1 _ _ [(p8, nw, c8)] 1 rfl rfl (rd_block (heap_alloc_new _ _) 1 rfl rfl) (by omega) (by omega) (l + 1) rfl ?_; intro p9 c9 w9 o9 b9 g9))
          have hnwl : (waitT t).length = nw := by unfold waitT; rw [List.length_append, List.length_map, hXo.wn, hXo.fn]; exact hnw
          have hn7 : Nw H0 pa := Nw.own oa6 (Nat.le_refl _)
          have ow7 := (ow5.below s6).grew lq5 (by omega) (by omega) g7 hn7
          have N7 : Vw w7 gv z 30 := Lv.grew (N5.below s6) g7 (Far.type oa6 (N5.below s6) (by decide))
          have V7 : Vw w7 w.heap.size (⟨gp, gc, ip, ic, some ⟨b, o, none⟩, tc⟩ : Tw) 30 := Lv.grew (Vw.below V5 s6) g7 (Far.type oa6 (Vw.below V5 s6) (by decide))
          have R7 := Lv.grew (R5.below s6) g7 (Far.type oa6 (R5.below s6) (by decide))
          have t8 := bel_call b8 (Nat.le_refl _) s9
          have ow9 := (ow7.below t8).grew lq5 (by omega) (by omega) g9 (Nw.own q1 (Nat.le_refl _))
          have N9 : Vw w9 gv z 30 := Lv.grew (N7.below t8) g9 (Far.type2 q1 (N7.below t8) (by decide))
          have V9 : Vw w9 w.heap.size (⟨gp, gc, ip, ic, some ⟨b, o, none⟩, tc⟩ : Tw) 30 := Lv.grew (V7.below t8) g9 (Far.type2 q1 (V7.below t8) (by decide))
          have R9 := Lv.grew (R7.below t8) g9 (Far.type2 q1 (R7.below t8) (by decide))
          have oa9 := Own.grew (own_below o7 t8) g9 (Two.type q1 (own_below o7 t8) (by decide))
          have two8 : Two p7 p8 := fun b o e b2 o2 e2 h => by subst e e2; have h1 := own_ge o8; have h2 := own_lt o7; omega
          have ob9 := Lo.snoc q1 q2 q3 g9 o9 hnwl (by show nw ≤ 1000; omega) (own_below o8 s9) two8
          have B9 : Below w.heap.size w w9 := (bel_call bx7 (Nat.le_refl _) t8).trans (b9.mono (by omega))
          have l9 := b9.size
          go_roundw
          case rel => exact ⟨k' + 1, l + 1, p7, c7, p9, c9, _, by omega, by go_num, rfl, rfl, by rw [HP.out.1, List.length_append, HL.out]; rfl, by rw [HP.out.1]; exact oa9, by rw [HP.out.2.1]; exact ob9, by rw [HP.out.2.2]; exact ow9, lq5, N9, V9, R9, B9, by omega⟩
          case measure => simp [intOf]; omega
    · have hn12 : n = 12 := by omega
      subst hn12
      have hlm : l = m := HL.out.symm.trans HMM.out
      subst hlm
      obtain ⟨c0, c1, c2⟩ := hV.at
      obtain ⟨e0, e1, e2⟩ := hN.at
      go_wp2_with (refine wpList_stV (E := eTb) rfl 30 (.tmp 2) (.tmp 49) rfl size30 (w.heap.size + 1) _ hR rfl z rfl rfl ?_; intro w9 L9 k9)
      have e9 := load30 L9
      have B9 : Below w.heap.size w w9 := bel_kp hbw k9 (by omega) hbw.size
      have oa9 := own_type oa hR (by decide) k9
      have ob9 := ob.kp hR (by decide) (by decide) k9
      have ow9 := (owr.kp k9 (by omega)).tr
      rw [audN_all HTL.out] at ow9
      refine bodyPost_ret (v := .tuple #[.agg #[.slice z.gp 12 z.gc, .slice z.ip 12 z.ic, .slice z.tp 12 z.tc], .slice pa l ca, .slice pb l cb]) (by simp [results, Try.results19, asAddr, e9]) rfl ⟨z, pa, ca, pb, cb, rfl, ow9, own_rd oa9, ob9.lr, B9⟩
end Go.Proofs.Ytcncpefdjgnhdaa
