/-
  What Audit of the document hands back.
-/
import Derived.Test.YtcncpefdjgnhdaaAudn
import Derived.Test.YtcncpefdjgnhdaaMaker
import Derived.Test.YtcncpefdjgnhdaaWaitr
import Derived.Deep.Cut
import Derived.Deep.CutRange
namespace Go.Proofs.Ytcncpefdjgnhdaa
open Go.ChangeShapes Go.WideShapes Go.ChangeAt Go.RowKit
attribute [local go_sem ↓] Go.wp_at_zero Go.wp_at_succ

/-- a row of things: as it was, or an own one -/
def Rw (w wr : World) (p : Option Addr) (c : Nat) (ys : List Tc) : Prop := Rd eT w p c ys ∨ ∃ B, Own eT wr B 56 p c ys
theorem Rw.rd {w wr : World} {p : Option Addr} {c : Nat} {ys : List Tc} (h : Rw w wr p c ys) (hb : Below w.heap.size w wr) : Rd eT wr p c ys := by
  rcases h with h | ⟨B, h⟩
  · exact h.below hb
  · exact own_rd h
theorem Rw.below {w wr w' : World} {p : Option Addr} {c : Nat} {ys : List Tc} (h : Rw w wr p c ys) (hb : Below wr.heap.size wr w') : Rw w w' p c ys := by
  rcases h with h | ⟨B, h⟩
  · exact .inl h
  · exact .inr ⟨B, own_below h hb⟩
theorem Rw.grew {α : Type} {E : Elt α} {w wr w' : World} {p : Option Addr} {c : Nat} {ys : List Tc} (h : Rw w wr p c ys) {H : Nat} {e : TypeId} {q q' : Option Addr} {d : Nat} {l : List α} (ho : Own E wr H e q d l) (hne : e ≠ 56) (hg : Grew wr w' q q') : Rw w w' p c ys := by
  rcases h with h | ⟨B, h⟩
  · exact .inl h
  · exact .inr ⟨B, Own.grew h hg (Two.type ho h hne)⟩
theorem Rw.kp {w wr w' : World} {p : Option Addr} {c : Nat} {ys : List Tc} (h : Rw w wr p c ys) {g : Nat} {cs : Array Value} {t : TypeId} (hl : Lv wr g cs t) (hne : (56 : TypeId) ≠ t) (hk : Kp g wr w') : Rw w w' p c ys := by
  rcases h with h | ⟨B, h⟩
  · exact .inl h
  · exact .inr ⟨B, own_type h hl hne hk⟩
/-- what a round keeps beside the two rows -/
structure Sa (w wr : World) (H gx : Nat) (X : Tc) (x : Tw) (ys : List Tc) : Prop where
  v : Vw wr w.heap.size x 35
  r : Lv wr (w.heap.size + 1) #[.slice none 0 0, .slice none 0 0, .slice none 0 0] 35
  t : Rw w wr x.tp x.tc ys
  x : Vt wr gx X 56
  b : Below w.heap.size w wr
  le : H ≤ wr.heap.size
theorem Sa.below {w wr w' : World} {H gx : Nat} {X : Tc} {x : Tw} {ys : List Tc} (h : Sa w wr H gx X x ys) (hb : Below wr.heap.size wr w') : Sa w w' H gx X x ys :=
  ⟨h.v.below hb, h.r.below hb, h.t.below hb, h.x.below hb, bel_call h.b (Nat.le_refl _) hb, Nat.le_trans h.le hb.size⟩
theorem Sa.grew {α : Type} {E : Elt α} {w wr w' : World} {H gx : Nat} {X : Tc} {x : Tw} {ys : List Tc} (h : Sa w wr H gx X x ys) {e : TypeId} {q q' : Option Addr} {d : Nat} {l : List α} (ho : Own E wr H e q d l) (h1 : e ≠ 35) (h2 : e ≠ 56) (hg : Grew wr w' q q') (hb : Below H wr w') (hH : w.heap.size ≤ H) : Sa w w' H gx X x ys :=
  ⟨Lv.grew h.v hg (Far.type ho h.v h1), Lv.grew h.r hg (Far.type ho h.r h1), h.t.grew ho h2 hg, Lv.grew h.x hg (Far.type ho h.x h2), h.b.trans (hb.mono hH), Nat.le_trans h.le hb.size⟩
theorem fresh_seal (k a g c : Int) : sealOf (freshT k a g c) = (freshT k a g c).s := by
  unfold freshT sealedT
  exact sealOf_s _ _
theorem xanew_no {t : Th} (h : t.k = 0) : anew t = false := by unfold anew; rw [h]; rfl
theorem xanew_tn {t : Th} (h : turnedT t = false) : anew t = false := by unfold anew; rw [h, Bool.and_false]
theorem xanew_yes {t : Th} (h : t.k ≠ 0) (h2 : turnedT t = true) : anew t = true := by unfold anew; rw [h2]; simpa using h
set_option maxRecDepth 20000 in
set_option maxHeartbeats 4000000 in
theorem raudit_any (x : Tw) (T : Tb) (w : World) (ht : Tr w x T) (m : Nat) (hm : (audP T.T 12).length = m) :
    Calls Try.prog 20 #[.agg #[.slice x.gp 12 x.gc, .slice x.ip 12 x.ic, .slice x.tp 12 x.tc]] w fun e w' => ∃ (z : Tw) (pa : Option Addr) (ca : Nat) (pb : Option Addr) (cb : Nat), e = .returned (.tuple #[.agg #[.slice z.gp 12 z.gc, .slice z.ip 12 z.ic, .slice z.tp 12 z.tc], .slice pa m ca, .slice pb m cb]) ∧ Tr w' z (adR T) ∧ Rd eI w' pa ca (audP T.T 12) ∧ Lr w' pb cb (audW T.T 12) ∧ Below w.heap.size w w' := by
  have HMM : Hid ((audP T.T 12).length = m) := hm
  clear hm
  obtain ⟨gp, gc, ip, ic, tp, tc⟩ := x
  dsimp only
  obtain ⟨W, hW⟩ : ∃ W, W = (w.alloc (.cells #[.slice gp 12 gc, .slice ip 12 ic, .slice tp 12 tc] 35)).alloc (.cells #[.slice none 0 0, .slice none 0 0, .slice none 0 0] 35) := ⟨_, rfl⟩
  have bW : Below w.heap.size w W := by rw [hW]; exact ((Below.refl _ _).alloc (Nat.le_refl _) _).alloc (by simp) _
  have hsz : W.heap.size = w.heap.size + 2 := by rw [hW]; simp
  have hV : Vw W w.heap.size (⟨gp, gc, ip, ic, tp, tc⟩ : Tw) 35 := by rw [hW]; exact (Vw.new _ (⟨gp, gc, ip, ic, tp, tc⟩ : Tw) _).below (bel_self _ _)
  have hR : Lv W (w.heap.size + 1) #[.slice none 0 0, .slice none 0 0, .slice none 0 0] 35 := by rw [hW]; exact heap_at (by simp)
  have HTL : Hid (T.T.length = 12) := ht.tl
  obtain ⟨xs, hxs, hts⟩ := ht.R
  have hts0 : Ts w xs (audN T.T 0) := by rw [audN_zero]; exact hts
  go_enter Try.func20, Try.ntmps20
  go_wp2
  rw [← hW]
  clear hW
  obtain ⟨H0, hH0⟩ : ∃ H0, H0 = W.heap.size := ⟨_, rfl⟩
  obtain ⟨c0, c1, c2⟩ := hV.at
  go_loopw [5, 6, 7] (fun a q i wr => ∃ (n l : Nat) (pa : Option Addr) (ca : Nat) (pb : Option Addr) (cb : Nat) (p : Option Addr) (c : Nat) (ys : List Tc), n ≤ 12 ∧ i = .int .i64 n ∧ a = .slice pa l ca ∧ q = .slice pb l cb ∧ (audP T.T n).length = l ∧ Own eI wr H0 3 pa ca (audP T.T n) ∧ Lo wr H0 pb cb (audW T.T n) pa ∧ Ts w ys (audN T.T n) ∧ Rw w wr p c ys ∧ Vw wr w.heap.size (⟨gp, gc, ip, ic, p, c⟩ : Tw) 35 ∧ Lv wr (w.heap.size + 1) #[.slice none 0 0, .slice none 0 0, .slice none 0 0] 35 ∧ Below w.heap.size w wr ∧ H0 ≤ wr.heap.size) (fun _ _ i _ => 12 - (intOf i).toNat)
  case atStart => exact ⟨0, 0, none, 0, none, 0, tp, tc, xs, Nat.zero_le _, rfl, rfl, rfl, rfl, own_nil _ _ _, Lo.nil _ _ _, hts0, .inl hxs, hV, hR, bW, Nat.le_of_eq hH0⟩
  case round =>
    obtain ⟨n, l, pa, ca, pb, cb, p, c, ys, hn, rfl, rfl, rfl, hl, oa, ob, hty, hrw, hV, hR, hbw, hle⟩ := hrel
    have HL : Hid ((audP T.T n).length = l) := hl
    have hl9 : l ≤ 12 := by have := audP_le T.T n; omega
    have hwH : w.heap.size ≤ H0 := by omega
    have HYL : Hid (ys.length = 12) := by show _ = _; rw [hty.1, audN_len, HTL.out]
    clear hl hts0 hts hxs c0 c1 c2
    by_cases hlt : n < 12
    · have hnI : (n : Int) < 12 := by omega
      have hnZ : (0 : Int) ≤ (n : Int) := by omega
      have hnl : n < T.T.length := by rw [HTL.out]; exact hlt
      have hny : n < ys.length := by rw [HYL.out]; exact hlt
      obtain ⟨b, o, e8, hb, hXw⟩ := (hrw.rd hbw).thing n hny
      have hXo : Ok w ys[n] (T.T.getD n th0) := by
        have h := hty.2 n hny (by rw [audN_len]; exact hnl)
        have e : (audN T.T n)[n]'(by rw [audN_len]; exact hnl) = T.T.getD n th0 := by
          rw [← audN_at hnl, List.getD_eq_getElem?_getD, List.getElem?_eq_getElem (by rw [audN_len]; exact hnl)]
          rfl
        rw [e] at h
        exact h
      obtain ⟨X, hX⟩ : ∃ X, X = ys[n] := ⟨_, rfl⟩
      rw [← hX] at hXo hXw
      clear hX
      subst e8
      obtain ⟨f0, f1, f2, f3, f4, f5, f6, f7, f8, f9⟩ := hXw
      obtain ⟨c0, c1, c2⟩ := hV.at
      have s1 := bel_self wr (.cells #[.int .i64 X.k, .int .i64 X.a, .int .i64 X.g, .int .i64 X.c, .int .i64 X.h, .slice X.lp X.ln X.lc, .slice X.wp X.wn X.wc, .int .u32 (X.b : Int), .slice X.fp X.fn X.fc, .int .u32 (X.s : Int)] 56)
      have X1 : Vt (wr.alloc (.cells #[.int .i64 X.k, .int .i64 X.a, .int .i64 X.g, .int .i64 X.c, .int .i64 X.h, .slice X.lp X.ln X.lc, .slice X.wp X.wn X.wc, .int .u32 (X.b : Int), .slice X.fp X.fn X.fc, .int .u32 (X.s : Int)] 56)) wr.heap.size X 56 := Vt.new _ _ _
      have sa : Sa w (wr.alloc (.cells #[.int .i64 X.k, .int .i64 X.a, .int .i64 X.g, .int .i64 X.c, .int .i64 X.h, .slice X.lp X.ln X.lc, .slice X.wp X.wn X.wc, .int .u32 (X.b : Int), .slice X.fp X.fn X.fc, .int .u32 (X.s : Int)] 56)) H0 wr.heap.size X ⟨gp, gc, ip, ic, some ⟨b, o, none⟩, c⟩ ys := ⟨hV.below s1, hR.below s1, hrw.below s1, X1, bel_call hbw (Nat.le_refl _) s1, Nat.le_trans hle s1.size⟩
      have oa1 := own_below oa s1
      have ob1 := ob.below s1
      obtain ⟨d0, d1, d2, d3, d4, d5, d6, d7, d8, d9⟩ := X1.at
      obtain ⟨t, htt⟩ : ∃ t, T.T.getD n th0 = t := ⟨_, rfl⟩
      have HTT : Hid (T.T.getD n th0 = t) := htt
      rw [htt] at hXo
      clear htt
      by_cases hk0 : t.k = 0
      · have x1 : (X.k == 0) = true := by rw [hXo.k]; simpa using hk0
        have x2 : decide (X.k = 0) = true := by rw [hXo.k]; simpa using hk0
        have han := xanew_no hk0
        have HP : Hid (audP T.T (n + 1) = audP T.T n ∧ audW T.T (n + 1) = audW T.T n ∧ audN T.T (n + 1) = audN T.T n) := ⟨by rw [audP, HTT.out, han]; simp, by rw [audW, HTT.out, han]; simp, audN_same hnl (by rw [HTT.out]; exact han)⟩
        clear hk0 han
        go_wp2_with (go_quiet (fail))
        have bq := below_drewN (Below.refl (wr.alloc (.cells #[.int .i64 X.k, .int .i64 X.a, .int .i64 X.g, .int .i64 X.c, .int .i64 X.h, .slice X.lp X.ln X.lc, .slice X.wp X.wn X.wc, .int .u32 (X.b : Int), .slice X.fp X.fn X.fc, .int .u32 (X.s : Int)] 56)).heap.size (wr.alloc (.cells #[.int .i64 X.k, .int .i64 X.a, .int .i64 X.g, .int .i64 X.c, .int .i64 X.h, .slice X.lp X.ln X.lc, .slice X.wp X.wn X.wc, .int .u32 (X.b : Int), .slice X.fp X.fn X.fc, .int .u32 (X.s : Int)] 56))) nq
        go_roundw
        case rel => exact ⟨n + 1, l, pa, ca, pb, cb, some ⟨b, o, none⟩, c, ys, by omega, by go_num, rfl, rfl, by rw [HP.out.1]; exact HL.out, by rw [HP.out.1]; exact own_below oa1 bq, by rw [HP.out.2.1]; exact ob1.below bq, by rw [HP.out.2.2]; exact hty, (sa.below bq).t, (sa.below bq).v, (sa.below bq).r, (sa.below bq).b, (sa.below bq).le⟩
        case measure => simp [intOf]; omega
      · have x1 : (X.k == 0) = false := by rw [hXo.k]; simpa using hk0
        have x2 : decide (X.k = 0) = false := by rw [hXo.k]; simpa using hk0
        obtain ⟨S0, hS0⟩ : ∃ S0, sealOf t = S0 := ⟨_, rfl⟩
        have HS0 : Hid (sealOf t = S0) := hS0
        cases hB2 : turnedT t with
        | false =>
          have HP : Hid (audP T.T (n + 1) = audP T.T n ∧ audW T.T (n + 1) = audW T.T n ∧ audN T.T (n + 1) = audN T.T n) := by
            have han := xanew_tn hB2
            exact ⟨by rw [audP, HTT.out, han]; simp, by rw [audW, HTT.out, han]; simp, audN_same hnl (by rw [HTT.out]; exact han)⟩
          have hb1 : ((X.s : Int) == (S0 : Int)) = true := by
            have h := hB2
            unfold turnedT at h
            rw [hS0, ← hXo.s] at h
            simp at h ⊢
            omega
          clear hB2 hS0
          go_upto_region 7 with fail
          obtain ⟨W1, hW1⟩ : ∃ W1, W1 = wr.alloc (.cells #[.int .i64 X.k, .int .i64 X.a, .int .i64 X.g, .int .i64 X.c, .int .i64 X.h, .slice X.lp X.ln X.lc, .slice X.wp X.wn X.wc, .int .u32 (X.b : Int), .slice X.fp X.fn X.fc, .int .u32 (X.s : Int)] 56) := ⟨_, rfl⟩
          rw [← hW1] at sa X1 s1 oa1 ob1 ⊢
          clear hW1 d0 d1 d2 d3 d4 d5 d6 d7 d8 d9
          refine wp_region_held_drew (S := fun w' => Below W1.heap.size W1 w') (by kernel_rfl) (Below.refl _ _).drew (fun hHeld => ?_)
          refine wpAnyH_take (i := 0) (oi := _) (v := ?_) rfl (by kernel_rfl) (by kernel_rfl) (by kernel_rfl) (fun _ _ _ h => h) (Or.inl ⟨by rfl, ?_⟩) hHeld ?_
          rotate_left
          · intro w' hSw
            (go_simp <;> with_reducible rfl)
          try simp only [Act.put, List.getElem_toArray, List.getElem_cons_zero, List.setIfInBounds_toArray, List.set_cons_zero, List.set_cons_succ]
          refine wpAnyH_take (i := 1) (oi := _) (v := ?_) rfl (by kernel_rfl) (by kernel_rfl) (by kernel_rfl) (fun _ _ _ h => h) (Or.inl ⟨by rfl, ?_⟩) hHeld ?_
          rotate_left
          · intro w' hSw
            obtain ⟨d0, d1, d2, d3, d4, d5, d6, d7, d8, d9⟩ := (X1.below hSw).at
            (go_simp <;> with_reducible rfl)
          try simp only [Act.put, List.getElem_toArray, List.getElem_cons_succ, List.getElem_cons_zero, List.setIfInBounds_toArray, List.set_cons_zero, List.set_cons_succ]
          refine wpAnyH_take (i := 2) (oi := _) (v := ?_) rfl (by kernel_rfl) (by kernel_rfl) (by kernel_rfl) (fun _ _ _ h => h) (Or.inl ⟨by rfl, ?_⟩) hHeld ?_
          rotate_left
          · intro w' hSw
            (go_simp <;> with_reducible rfl)
          try simp only [Act.put, List.getElem_toArray, List.getElem_cons_succ, List.getElem_cons_zero, List.setIfInBounds_toArray, List.set_cons_zero, List.set_cons_succ]
          refine wpAnyH_take (i := 3) (oi := _) (v := ?_) rfl (by kernel_rfl) (by kernel_rfl) (by kernel_rfl) (fun _ _ _ h => h) (Or.inl ⟨by rfl, ?_⟩) hHeld ?_
          rotate_left
          · intro w' hSw
            (go_simp <;> with_reducible rfl)
          try simp only [Act.put, List.getElem_toArray, List.getElem_cons_succ, List.getElem_cons_zero, List.setIfInBounds_toArray, List.set_cons_zero, List.set_cons_succ]
          refine wpAnyH_take (i := 4) (oi := _) (v := ?_) rfl (by kernel_rfl) (by kernel_rfl) (by kernel_rfl) (fun _ _ _ h => h) (Or.inl ⟨by rfl, ?_⟩) hHeld ?_
          rotate_left
          · intro w' hSw
            (go_simp <;> with_reducible rfl)
          try simp only [Act.put, List.getElem_toArray, List.getElem_cons_succ, List.getElem_cons_zero, List.setIfInBounds_toArray, List.set_cons_zero, List.set_cons_succ]
          refine wpAnyH_take (i := 5) (oi := _) (v := ?_) rfl (by kernel_rfl) (by kernel_rfl) (by kernel_rfl) (fun _ _ _ h => h) (Or.inl ⟨by rfl, ?_⟩) hHeld ?_
          rotate_left
          · intro w' hSw
            obtain ⟨d0, d1, d2, d3, d4, d5, d6, d7, d8, d9⟩ := (X1.below hSw).at
            (go_simp <;> with_reducible rfl)
          try simp only [Act.put, List.getElem_toArray, List.getElem_cons_succ, List.getElem_cons_zero, List.setIfInBounds_toArray, List.set_cons_zero, List.set_cons_succ]
          refine wpAnyH_take (i := 6) (oi := _) (v := ?_) rfl (by kernel_rfl) (by kernel_rfl) (by kernel_rfl) (fun _ _ _ h => h) (Or.inl ⟨by rfl, ?_⟩) hHeld ?_
          rotate_left
          · intro w' hSw
            obtain ⟨d0, d1, d2, d3, d4, d5, d6, d7, d8, d9⟩ := (X1.below hSw).at
            (go_simp <;> with_reducible rfl)
          try simp only [Act.put, List.getElem_toArray, List.getElem_cons_succ, List.getElem_cons_zero, List.setIfInBounds_toArray, List.set_cons_zero, List.set_cons_succ]
          refine wpAnyH_ready (rs := [7]) (by kernel_rfl) (by simp) ?_
          refine AllReadyH.cons (o := _) rfl (fun K hK => ?_) AllReadyH.nil
          go_simp
          go_at_call 46; refine (seal_any X t _ (hXo.below (bel_call sa.b (Nat.le_refl _) hHeld)) S0 HS0.out).mono ?_
          rintro e w3 ⟨rfl, b3'⟩
          have b3 : Below W1.heap.size W1 w3 := hHeld.trans b3'
          refine hK.out _ _ b3 (fun _ => ?_)
          refine wpAnyH_weaken (S' := fun w' => Below w3.heap.size w3 w') (fun w' h => bel_call b3 (Nat.le_refl _) h) _ _ _ _ ?_
          clear hHeld hK K
          have hHeld : Below w3.heap.size w3 w3 := Below.refl _ _
          try simp only [Act.put, List.getElem_toArray, List.getElem_cons_succ, List.getElem_cons_zero, List.setIfInBounds_toArray, List.set_cons_zero, List.set_cons_succ]
          refine wpAnyH_take (i := 8) (oi := _) (v := ?_) rfl (by kernel_rfl) (by kernel_rfl) (by kernel_rfl) (fun _ _ _ h => h) (Or.inl ⟨by rfl, ?_⟩) hHeld ?_
          rotate_left
          · intro w' hSw
            (go_simp <;> with_reducible rfl)
          try simp only [Act.put, List.getElem_toArray, List.getElem_cons_succ, List.getElem_cons_zero, List.setIfInBounds_toArray, List.set_cons_zero, List.set_cons_succ]
          refine wpAnyH_take (i := 9) (oi := _) (v := ?_) rfl (by kernel_rfl) (by kernel_rfl) (by kernel_rfl) (fun _ _ _ h => h) (Or.inl ⟨by rfl, ?_⟩) hHeld ?_
          rotate_left
          · intro w' hSw
            (go_simp <;> with_reducible rfl)
          try simp only [Act.put, List.getElem_toArray, List.getElem_cons_succ, List.getElem_cons_zero, List.setIfInBounds_toArray, List.set_cons_zero, List.set_cons_succ]
          refine wpAnyH_done (by kernel_rfl) ?_ _
          clear hHeld b3'
          go_wp2
          go_roundw
          case rel => exact ⟨n + 1, l, pa, ca, pb, cb, some ⟨b, o, none⟩, c, ys, by omega, by go_num, rfl, rfl, by rw [HP.out.1]; exact HL.out, by rw [HP.out.1]; exact own_below oa1 b3, by rw [HP.out.2.1]; exact ob1.below b3, by rw [HP.out.2.2]; exact hty, sa.t.below b3, sa.v.below b3, sa.r.below b3, (sa.below b3).b, (sa.below b3).le⟩
          case measure => simp [intOf]; omega
        | true =>
          have HP : Hid (audP T.T (n + 1) = audP T.T n ++ [(n : Int)] ∧ audW T.T (n + 1) = audW T.T n ++ [waitT t] ∧ audN T.T (n + 1) = (audN T.T n).set n (freshT t.k t.a t.g t.c)) := by
            have han := xanew_yes hk0 hB2
            exact ⟨by rw [audP, HTT.out, han]; simp, by rw [audW, HTT.out, han]; simp, by rw [audN_set hnl, HTT.out]; unfold audT; rw [han]; rfl⟩
          have hb1 : ((X.s : Int) == (S0 : Int)) = false := by
            have h := hB2
            unfold turnedT at h
            rw [hS0, ← hXo.s] at h
            simp at h ⊢
            omega
          obtain ⟨nw, hnw⟩ : ∃ nw, X.wn + X.fn = nw := ⟨_, rfl⟩
          have hnw9 : nw ≤ 200 := by have := hXo.w9; have := hXo.f9; omega
          have hnwl : (waitT t).length = nw := by unfold waitT; rw [List.length_append, List.length_map, hXo.wn, hXo.fn]; exact hnw
          have HNWL : Hid ((waitT t).length = nw) := hnwl
          clear hB2 hS0 hk0 hnwl
          go_upto_region 7 with fail
          obtain ⟨W1, hW1⟩ : ∃ W1, W1 = wr.alloc (.cells #[.int .i64 X.k, .int .i64 X.a, .int .i64 X.g, .int .i64 X.c, .int .i64 X.h, .slice X.lp X.ln X.lc, .slice X.wp X.wn X.wc, .int .u32 (X.b : Int), .slice X.fp X.fn X.fc, .int .u32 (X.s : Int)] 56) := ⟨_, rfl⟩
          rw [← hW1] at sa X1 s1 oa1 ob1 ⊢
          clear hW1 d0 d1 d2 d3 d4 d5 d6 d7 d8 d9
          refine wp_region_held_drew (S := fun w' => Below W1.heap.size W1 w') (by kernel_rfl) (Below.refl _ _).drew (fun hHeld => ?_)
          refine wpAnyH_take (i := 0) (oi := _) (v := ?_) rfl (by kernel_rfl) (by kernel_rfl) (by kernel_rfl) (fun _ _ _ h => h) (Or.inl ⟨by rfl, ?_⟩) hHeld ?_
          rotate_left
          · intro w' hSw
            (go_simp <;> with_reducible rfl)
          try simp only [Act.put, List.getElem_toArray, List.getElem_cons_zero, List.setIfInBounds_toArray, List.set_cons_zero, List.set_cons_succ]
          refine wpAnyH_take (i := 1) (oi := _) (v := ?_) rfl (by kernel_rfl) (by kernel_rfl) (by kernel_rfl) (fun _ _ _ h => h) (Or.inl ⟨by rfl, ?_⟩) hHeld ?_
          rotate_left
          · intro w' hSw
            obtain ⟨d0, d1, d2, d3, d4, d5, d6, d7, d8, d9⟩ := (X1.below hSw).at
            (go_simp <;> with_reducible rfl)
          try simp only [Act.put, List.getElem_toArray, List.getElem_cons_succ, List.getElem_cons_zero, List.setIfInBounds_toArray, List.set_cons_zero, List.set_cons_succ]
          refine wpAnyH_take (i := 2) (oi := _) (v := ?_) rfl (by kernel_rfl) (by kernel_rfl) (by kernel_rfl) (fun _ _ _ h => h) (Or.inl ⟨by rfl, ?_⟩) hHeld ?_
          rotate_left
          · intro w' hSw
            (go_simp <;> with_reducible rfl)
          try simp only [Act.put, List.getElem_toArray, List.getElem_cons_succ, List.getElem_cons_zero, List.setIfInBounds_toArray, List.set_cons_zero, List.set_cons_succ]
          refine wpAnyH_take (i := 3) (oi := _) (v := ?_) rfl (by kernel_rfl) (by kernel_rfl) (by kernel_rfl) (fun _ _ _ h => h) (Or.inl ⟨by rfl, ?_⟩) hHeld ?_
          rotate_left
          · intro w' hSw
            (go_simp <;> with_reducible rfl)
          try simp only [Act.put, List.getElem_toArray, List.getElem_cons_succ, List.getElem_cons_zero, List.setIfInBounds_toArray, List.set_cons_zero, List.set_cons_succ]
          refine wpAnyH_take (i := 4) (oi := _) (v := ?_) rfl (by kernel_rfl) (by kernel_rfl) (by kernel_rfl) (fun _ _ _ h => h) (Or.inl ⟨by rfl, ?_⟩) hHeld ?_
          rotate_left
          · intro w' hSw
            (go_simp <;> with_reducible rfl)
          try simp only [Act.put, List.getElem_toArray, List.getElem_cons_succ, List.getElem_cons_zero, List.setIfInBounds_toArray, List.set_cons_zero, List.set_cons_succ]
          refine wpAnyH_take (i := 5) (oi := _) (v := ?_) rfl (by kernel_rfl) (by kernel_rfl) (by kernel_rfl) (fun _ _ _ h => h) (Or.inl ⟨by rfl, ?_⟩) hHeld ?_
          rotate_left
          · intro w' hSw
            obtain ⟨d0, d1, d2, d3, d4, d5, d6, d7, d8, d9⟩ := (X1.below hSw).at
            (go_simp <;> with_reducible rfl)
          try simp only [Act.put, List.getElem_toArray, List.getElem_cons_succ, List.getElem_cons_zero, List.setIfInBounds_toArray, List.set_cons_zero, List.set_cons_succ]
          refine wpAnyH_take (i := 6) (oi := _) (v := ?_) rfl (by kernel_rfl) (by kernel_rfl) (by kernel_rfl) (fun _ _ _ h => h) (Or.inl ⟨by rfl, ?_⟩) hHeld ?_
          rotate_left
          · intro w' hSw
            obtain ⟨d0, d1, d2, d3, d4, d5, d6, d7, d8, d9⟩ := (X1.below hSw).at
            (go_simp <;> with_reducible rfl)
          try simp only [Act.put, List.getElem_toArray, List.getElem_cons_succ, List.getElem_cons_zero, List.setIfInBounds_toArray, List.set_cons_zero, List.set_cons_succ]
          refine wpAnyH_ready (rs := [7]) (by kernel_rfl) (by simp) ?_
          refine AllReadyH.cons (o := _) rfl (fun K hK => ?_) AllReadyH.nil
          go_simp
          go_at_call 46; refine (seal_any X t _ (hXo.below (bel_call sa.b (Nat.le_refl _) hHeld)) S0 HS0.out).mono ?_
          rintro e w3 ⟨rfl, b3'⟩
          have b3 : Below W1.heap.size W1 w3 := hHeld.trans b3'
          refine hK.out _ _ b3 (fun _ => ?_)
          refine wpAnyH_weaken (S' := fun w' => Below w3.heap.size w3 w') (fun w' h => bel_call b3 (Nat.le_refl _) h) _ _ _ _ ?_
          clear hHeld hK K
          have hHeld : Below w3.heap.size w3 w3 := Below.refl _ _
          try simp only [Act.put, List.getElem_toArray, List.getElem_cons_succ, List.getElem_cons_zero, List.setIfInBounds_toArray, List.set_cons_zero, List.set_cons_succ]
          refine wpAnyH_take (i := 8) (oi := _) (v := ?_) rfl (by kernel_rfl) (by kernel_rfl) (by kernel_rfl) (fun _ _ _ h => h) (Or.inl ⟨by rfl, ?_⟩) hHeld ?_
          rotate_left
          · intro w' hSw
            (go_simp <;> with_reducible rfl)
          try simp only [Act.put, List.getElem_toArray, List.getElem_cons_succ, List.getElem_cons_zero, List.setIfInBounds_toArray, List.set_cons_zero, List.set_cons_succ]
          refine wpAnyH_take (i := 9) (oi := _) (v := ?_) rfl (by kernel_rfl) (by kernel_rfl) (by kernel_rfl) (fun _ _ _ h => h) (Or.inl ⟨by rfl, ?_⟩) hHeld ?_
          rotate_left
          · intro w' hSw
            (go_simp <;> with_reducible rfl)
          try simp only [Act.put, List.getElem_toArray, List.getElem_cons_succ, List.getElem_cons_zero, List.setIfInBounds_toArray, List.set_cons_zero, List.set_cons_succ]
          refine wpAnyH_done (by kernel_rfl) ?_ _
          clear hHeld b3'
          go_upto_region 8 with fail
          have sa := sa.below b3
          have oa := own_below oa1 b3
          have ob := ob1.below b3
          obtain ⟨gx, hgx⟩ : ∃ gx, gx = wr.heap.size := ⟨_, rfl⟩
          rw [← hgx] at sa
          simp only [← hgx]
          clear hgx f0 f1 f2 f3 f4 f5 f6 f7 f8 f9 c0 c1 c2 x1 x2 hb1 oa1 ob1 b3 s1 X1 hrw hV hR hbw hle
          have X3 := sa.x
          go_cut [5, 6] from 10 to 60 (fun a q wx => ∃ (p7 : Option Addr) (c7 : Nat) (p9 : Option Addr) (c9 : Nat), a = .slice p7 (l + 1) c7 ∧ q = .slice p9 (l + 1) c9 ∧ Own eI wx H0 3 p7 c7 (audP T.T n ++ [(n : Int)]) ∧ Lo wx H0 p9 c9 (audW T.T n ++ [waitT t]) p7 ∧ Sa w wx H0 gx X ⟨gp, gc, ip, ic, some ⟨b, o, none⟩, c⟩ ys)
          case first =>
            have sa := sa.below (Below.refl w3.heap.size w3).drew
            have oa := own_below oa (Below.refl w3.heap.size w3).drew
            have ob := ob.below (Below.refl w3.heap.size w3).drew
            refine wp_region_held_drew (S := fun w' => w'.heap[gx]? = w3.heap[gx]?) (by kernel_rfl) rfl (fun hHeld => ?_)
            refine wpAnyH_take (i := 0) (oi := _) (v := ?_) rfl (by kernel_rfl) (by kernel_rfl) (by kernel_rfl) (fun _ _ _ h => h) (Or.inl ⟨by rfl, ?_⟩) hHeld ?_
            rotate_left
            · intro w' hSw
              (go_simp <;> with_reducible rfl)
            try simp only [Act.put, List.getElem_toArray, List.getElem_cons_zero, List.setIfInBounds_toArray, List.set_cons_zero, List.set_cons_succ]
            refine wpAnyH_take (i := 1) (oi := _) (v := ?_) rfl (by kernel_rfl) (by kernel_rfl) (by kernel_rfl) (fun _ _ _ h => h) (Or.inl ⟨by rfl, ?_⟩) hHeld ?_
            rotate_left
            · intro w' hSw
              (go_simp <;> with_reducible rfl)
            try simp only [Act.put, List.getElem_toArray, List.getElem_cons_succ, List.getElem_cons_zero, List.setIfInBounds_toArray, List.set_cons_zero, List.set_cons_succ]
            refine wpAnyH_take (i := 4) (oi := _) (v := ?_) rfl (by kernel_rfl) (by kernel_rfl) (by kernel_rfl) (fun _ _ _ h => h) (Or.inl ⟨by rfl, ?_⟩) hHeld ?_
            rotate_left
            · intro w' hSw
              (go_simp <;> with_reducible rfl)
            try simp only [Act.put, List.getElem_toArray, List.getElem_cons_succ, List.getElem_cons_zero, List.setIfInBounds_toArray, List.set_cons_zero, List.set_cons_succ]
            refine wpAnyH_take (i := 5) (oi := _) (v := ?_) rfl (by kernel_rfl) (by kernel_rfl) (by kernel_rfl) (fun _ _ _ h => h) (Or.inl ⟨by rfl, ?_⟩) hHeld ?_
            rotate_left
            · intro w' hSw
              obtain ⟨d0, d1, d2, d3, d4, d5, d6, d7, d8, d9⟩ := Vt.at (show Vt w' gx X 56 from hSw.trans X3)
              (go_simp <;> with_reducible rfl)
            try simp only [Act.put, List.getElem_toArray, List.getElem_cons_succ, List.getElem_cons_zero, List.setIfInBounds_toArray, List.set_cons_zero, List.set_cons_succ]
            refine wpAnyH_ready (rs := [2]) (by kernel_rfl) (by simp) ?_
            refine AllReadyH.cons (o := _) rfl (fun K hK => ?_) (AllReadyH.nil)
            generalize w3.drew = wd at *
            go_simp
            have ba : Below wd.heap.size wd (wd.alloc (.cells #[.int .i64 (n : Int)] 3)) := bel_self _ _
            have na : Own eI (wd.alloc (.cells #[.int .i64 (n : Int)] 3)) H0 3 (some ⟨wd.heap.size, 0, none⟩) 1 [(n : Int)] := own_blockg rfl sa.le rfl 1 rfl (by decide)
            have sa := sa.below ba
            have oa := own_below oa ba
            have ob := ob.below ba
            have nA := na
            clear na ba
            refine hK.out _ _ (sa.x.trans X3.symm) (fun hHeld => ?_)
            clear hK K
            generalize wd.alloc (.cells #[.int .i64 (n : Int)] 3) = wA at *
            try simp only [Act.put, List.getElem_toArray, List.getElem_cons_succ, List.getElem_cons_zero, List.setIfInBounds_toArray, List.set_cons_zero, List.set_cons_succ]
            refine wpAnyH_ready (rs := [3]) (by kernel_rfl) (by simp) ?_
            refine AllReadyH.cons (o := _) rfl (fun K hK => ?_) (AllReadyH.nil)
            refine step_app tI _ rfl _ _ rfl H0 pa ca _ l HL.out rfl oa _ _ [(n : Int)] 1 rfl rfl (own_rd nA) (by omega) sa.le (l + 1) rfl ?_
            intro p7 c7 w7 oa7 b7 g7
            have sa7 := sa.grew oa (by decide) (by decide) g7 b7 hwH
            have ob7 := ob.grew oa g7
            clear oa ob sa nA
            have oa := oa7
            have ob := ob7
            have sa := sa7
            refine hK.out _ _ (sa.x.trans X3.symm) (fun hHeld => ?_)
            clear hK K
            try simp only [Act.put, List.getElem_toArray, List.getElem_cons_succ, List.getElem_cons_zero, List.setIfInBounds_toArray, List.set_cons_zero, List.set_cons_succ]
            refine wpAnyH_ready (rs := [6]) (by kernel_rfl) (by simp) ?_
            refine AllReadyH.cons (o := _) rfl (fun K hK => ?_) (AllReadyH.nil)
            go_simp
            go_at_call 38; refine (rwaiting_any X t _ (hXo.below sa.b) nw hnw).mono ?_
            rintro e w8 ⟨p8, c8, rfl, o8, b8⟩
            have two8 : Two p7 p8 := fun b o e b2 o2 e2 h => by subst e e2; have h1 := own_ge o8; have h2 := own_lt oa; omega
            have sa := sa.below b8
            have oa := own_below oa b8
            have ob := ob.below b8
            refine hK.out _ _ (sa.x.trans X3.symm) (fun hHeld => ?_)
            clear hK K
            try simp only [Act.put, List.getElem_toArray, List.getElem_cons_succ, List.getElem_cons_zero, List.setIfInBounds_toArray, List.set_cons_zero, List.set_cons_succ]
            refine wpAnyH_ready (rs := [7]) (by kernel_rfl) (by simp) ?_
            refine AllReadyH.cons (o := _) rfl (fun K hK => ?_) (AllReadyH.nil)
            go_simp
            have bb : Below w8.heap.size w8 (w8.alloc (.cells #[.slice p8 nw c8] 24)) := bel_self _ _
            have nb : Own eS (w8.alloc (.cells #[.slice p8 nw c8] 24)) H0 24 (some ⟨w8.heap.size, 0, none⟩) 1 [(p8, nw, c8)] := own_blockg rfl sa.le rfl 1 rfl (by decide)
            have sa := sa.below bb
            have oa := own_below oa bb
            have ob := ob.below bb
            have o8 := own_below o8 bb
            have nB := nb
            clear nb bb
            refine hK.out _ _ (sa.x.trans X3.symm) (fun hHeld => ?_)
            clear hK K
            generalize w8.alloc (.cells #[.slice p8 nw c8] 24) = wB at *
            try simp only [Act.put, List.getElem_toArray, List.getElem_cons_succ, List.getElem_cons_zero, List.setIfInBounds_toArray, List.set_cons_zero, List.set_cons_succ]
            refine wpAnyH_ready (rs := [8]) (by kernel_rfl) (by simp) ?_
            refine AllReadyH.cons (o := _) rfl (fun K hK => ?_) (AllReadyH.nil)
            obtain ⟨ss, q1, q2, q3⟩ := ob
            have HSS : Hid (ss.length = l) := q2.trans ((audW_len T.T n).trans HL.out)
            refine step_app tS _ rfl _ _ rfl H0 pb cb ss l HSS.out rfl q1 _ _ [(p8, nw, c8)] 1 rfl rfl (own_rd nB) (by omega) sa.le (l + 1) rfl ?_
            intro p9 c9 w9 o9 b9 g9
            have ob9 := Lo.snoc q1 q2 q3 g9 o9 HNWL.out (by show nw ≤ 1000; omega) o8 two8
            have sa9 := sa.grew q1 (by decide) (by decide) g9 b9 hwH
            have oa9 := Own.grew oa g9 (Two.type q1 oa (by decide))
            clear sa oa o8 two8 nB q1 q2 q3 HSS
            have sa := sa9
            have oa := oa9
            have ob := ob9
            refine hK.out _ _ (sa.x.trans X3.symm) (fun hHeld => ?_)
            clear hK K
            try simp only [Act.put, List.getElem_toArray, List.getElem_cons_succ, List.getElem_cons_zero, List.setIfInBounds_toArray, List.set_cons_zero, List.set_cons_succ]
            refine wpAnyH_take (i := 9) (oi := _) (v := ?_) rfl (by kernel_rfl) (by kernel_rfl) (by kernel_rfl) (fun _ _ _ h => h) (Or.inl ⟨by rfl, ?_⟩) hHeld ?_
            rotate_left
            · intro w' hSw
              (go_simp <;> with_reducible rfl)
            try simp only [Act.put, List.getElem_toArray, List.getElem_cons_succ, List.getElem_cons_zero, List.setIfInBounds_toArray, List.set_cons_zero, List.set_cons_succ]
            refine wpAnyH_take (i := 10) (oi := _) (v := ?_) rfl (by kernel_rfl) (by kernel_rfl) (by kernel_rfl) (fun _ _ _ h => h) (Or.inl ⟨by rfl, ?_⟩) hHeld ?_
            rotate_left
            · intro w' hSw
              (go_simp <;> with_reducible rfl)
            try simp only [Act.put, List.getElem_toArray, List.getElem_cons_succ, List.getElem_cons_zero, List.setIfInBounds_toArray, List.set_cons_zero, List.set_cons_succ]
            refine wpAnyH_done (by kernel_rfl) ?_ _
            go_wp2_with fail
            go_meet
            case rel => exact ⟨p7, c7, p9, c9, rfl, rfl, oa, ob, sa⟩
          case rest =>
            obtain ⟨p7, c7, p9, c9, rfl, rfl, oa7, ob7, sa7⟩ := hcut
            clear sa oa ob X3
            obtain ⟨S9, hS9⟩ : ∃ S9, (freshT X.k X.a X.g X.c).s = S9 := ⟨_, rfl⟩
            have HS9 : Hid ((freshT X.k X.a X.g X.c).s = S9) := hS9
            have hl9 : S9 < 4294967296 := by rw [← hS9, ← fresh_seal]; exact sealOf_lt _
            obtain ⟨S8, hS8⟩ : ∃ S8, (freshT X.k X.a X.g 8).s = S8 := ⟨_, rfl⟩
            have HS8 : Hid ((freshT X.k X.a X.g 8).s = S8) := hS8
            have hl8 : S8 < 4294967296 := by rw [← hS8, ← fresh_seal]; exact sealOf_lt _
            obtain ⟨C, hC⟩ : ∃ C, (if X.k = 1 then X.c else 0) = C := ⟨_, rfl⟩
            have HC : Hid ((if X.k = 1 then X.c else 0) = C) := hC
            have okN : Ok w (⟨X.k, X.a, X.g, C, 0, none, 0, 0, none, 0, 0, 0, none, 0, 0, S9⟩ : Tc) (freshT t.k t.a t.g t.c) := by
              have h := Ok.freshC w X.k X.a X.g X.c S9 HS9.out C HC.out
              rw [hXo.k, hXo.a, hXo.g, hXo.c] at h
              rw [hXo.k, hXo.a, hXo.g]
              exact h
            have okF : ∀ w0, Ok w0 (⟨X.k, X.a, X.g, C, 0, none, 0, 0, none, 0, 0, 0, none, 0, 0, S8⟩ : Tc) { freshT X.k X.a X.g X.c with s := S8 } := fun w0 => (Ok.freshC w0 X.k X.a X.g X.c S9 HS9.out C HC.out).sum S8 hl8
            have HSF : Hid (sealOf { freshT X.k X.a X.g X.c with s := S8 } = S9) := by show _ = _; rw [sealOf_s, fresh_seal]; exact HS9.out
            have HSN : Hid (audN T.T (n + 1) = (audN T.T n).set n (freshT t.k t.a t.g t.c)) := HP.out.2.2
            have htsN : Ts w (ys.set n (⟨X.k, X.a, X.g, C, 0, none, 0, 0, none, 0, 0, 0, none, 0, 0, S9⟩ : Tc)) (audN T.T (n + 1)) := by rw [HSN.out]; exact hty.set n okN
            clear hS9 hS8 hC
            obtain ⟨d0, d1, d2, d3, d4, d5, d6, d7, d8, d9⟩ := sa7.x.at
            by_cases hk1 : X.k = 1
            · have HK1 : Hid (X.k = 1) := hk1
              have y1 : (X.k == 1) = true := by simpa using hk1
              have y2 : decide (X.k = 1) = true := by simpa using hk1
              have hC1 : X.c = C := by have := HC.out; rwa [if_pos hk1] at this
              clear hk1
              subst hC1
              go_wp2_with (first
                | (go_at_call 48; refine (freshT_c X.k X.a X.g _ S8 HS8.out 8 (if_pos HK1.out)).mono ?_; rintro e w4 ⟨rfl, b4⟩; have sa8 := sa7.below b4; have N0 : Vt (w4.alloc (.cells #[.int .i64 X.k, .int .i64 X.a, .int .i64 X.g, .int .i64 8, .int .i64 0, .slice none 0 0, .slice none 0 0, .int .u32 0, .slice none 0 0, .int .u32 (S8 : Int)] 56)) w4.heap.size (⟨X.k, X.a, X.g, 8, 0, none, 0, 0, none, 0, 0, 0, none, 0, 0, S8⟩ : Tc) 56 := Vt.new w4 (⟨X.k, X.a, X.g, 8, 0, none, 0, 0, none, 0, 0, 0, none, 0, 0, S8⟩ : Tc) 56; have sa9 := sa8.below (bel_self w4 (.cells #[.int .i64 X.k, .int .i64 X.a, .int .i64 X.g, .int .i64 8, .int .i64 0, .slice none 0 0, .slice none 0 0, .int .u32 0, .slice none 0 0, .int .u32 (S8 : Int)] 56)); clear d0 d1 d2 d3 d4 d5 d6 d7 d8 d9; obtain ⟨d0, d1, d2, d3, d4, d5, d6, d7, d8, d9⟩ := sa9.x.at; obtain ⟨n0, n1, n2, n3, n4, n5, n6, n7, n8, n9⟩ := N0.at)
                | (go_at_call 46; refine (seal_any (⟨X.k, X.a, X.g, X.c, 0, none, 0, 0, none, 0, 0, 0, none, 0, 0, S8⟩ : Tc) _ _ (okF _) S9 HSF.out).mono ?_; rintro e w5 ⟨rfl, b5⟩; clear n0 n1 n2 n3 n4 n5 n6 n7 n8 n9 d0 d1 d2 d3 d4 d5 d6 d7 d8 d9; have N1 := (show Vt (w4.alloc (.cells #[.int .i64 X.k, .int .i64 X.a, .int .i64 X.g, .int .i64 X.c, .int .i64 0, .slice none 0 0, .slice none 0 0, .int .u32 0, .slice none 0 0, .int .u32 (S8 : Int)] 56)) w4.heap.size (⟨X.k, X.a, X.g, X.c, 0, none, 0, 0, none, 0, 0, 0, none, 0, 0, S8⟩ : Tc) 56 from Vt.new w4 (⟨X.k, X.a, X.g, X.c, 0, none, 0, 0, none, 0, 0, 0, none, 0, 0, S8⟩ : Tc) 56).below b5; have b45 := bel_call (bel_self w4 (.cells #[.int .i64 X.k, .int .i64 X.a, .int .i64 X.g, .int .i64 X.c, .int .i64 0, .slice none 0 0, .slice none 0 0, .int .u32 0, .slice none 0 0, .int .u32 (S8 : Int)] 56)) (Nat.le_refl _) b5; obtain ⟨n0, n1, n2, n3, n4, n5, n6, n7, n8, n9⟩ := N1.at; have z9 := N1.z 9; obtain ⟨c0, c1, c2⟩ := (sa8.below b45).v.at; have hwn : w.heap.size ≠ w4.heap.size := (by have h := sa8.v.lt; omega); have bWW : Below w4.heap.size w4 (w5.setCell ⟨w4.heap.size, 9, none⟩ (.int .u32 (S9 : Int))) := Below.setCell b45 (p := ⟨w4.heap.size, 9, none⟩) (Nat.le_refl _) (.int .u32 (S9 : Int)); have saW := sa8.below bWW)
                | (go_at_call 39; refine (with_own ⟨gp, gc, ip, ic, some ⟨b, o, none⟩, c⟩ ys _ (saW.t.rd saW.b) HYL.out n hlt (⟨X.k, X.a, X.g, X.c, 0, none, 0, 0, none, 0, 0, 0, none, 0, 0, S9⟩ : Tc)).mono ?_; rintro e w6 ⟨p1, c1', rfl, o6, b6⟩; have sa6 := saW.below b6)
                | (refine wpList_stV (E := eTb) rfl 35 (.tmp 1) (.tmp 60) rfl size35 w.heap.size _ sa6.v rfl (⟨gp, gc, ip, ic, p1, c1'⟩ : Tw) rfl rfl ?_; intro w9 L9 k9))
              have b46 := bel_call b4 (Nat.le_refl _) (bel_call bWW (Nat.le_refl _) b6)
              have oa9 := own_type (own_below oa7 b46) sa6.v (by decide) k9
              have ob9 := (ob7.below b46).kp sa6.v (by decide) (by decide) k9
              have o9 := own_type o6 sa6.v (by decide) k9
              have r9 := Lv.kp sa6.r k9 (by omega)
              have B9 := bel_kp sa6.b k9 (Nat.le_refl _) sa6.b.size
              have l9 := k9.size
              have l6 := sa6.le
              go_roundw
              case rel => exact ⟨n + 1, l + 1, p7, c7, p9, c9, p1, c1', _, by omega, by go_num, rfl, rfl, by rw [HP.out.1, List.length_append, HL.out]; rfl, by rw [HP.out.1]; exact oa9, by rw [HP.out.2.1]; exact ob9, htsN, .inr ⟨_, o9⟩, L9, r9, B9, by omega⟩
              case measure => simp [intOf]; omega
            · have HK1 : Hid (¬ X.k = 1) := hk1
              have y1 : (X.k == 1) = false := by simpa using hk1
              have y2 : decide (X.k = 1) = false := by simpa using hk1
              have hC1 : (0 : Int) = C := by have := HC.out; rwa [if_neg hk1] at this
              clear hk1
              subst hC1
              go_wp2_with (first
                | (go_at_call 48; refine (freshT_c X.k X.a X.g _ S8 HS8.out 0 (if_neg HK1.out)).mono ?_; rintro e w4 ⟨rfl, b4⟩; have sa8 := sa7.below b4; have N0 : Vt (w4.alloc (.cells #[.int .i64 X.k, .int .i64 X.a, .int .i64 X.g, .int .i64 0, .int .i64 0, .slice none 0 0, .slice none 0 0, .int .u32 0, .slice none 0 0, .int .u32 (S8 : Int)] 56)) w4.heap.size (⟨X.k, X.a, X.g, 0, 0, none, 0, 0, none, 0, 0, 0, none, 0, 0, S8⟩ : Tc) 56 := Vt.new w4 (⟨X.k, X.a, X.g, 0, 0, none, 0, 0, none, 0, 0, 0, none, 0, 0, S8⟩ : Tc) 56; have sa9 := sa8.below (bel_self w4 (.cells #[.int .i64 X.k, .int .i64 X.a, .int .i64 X.g, .int .i64 0, .int .i64 0, .slice none 0 0, .slice none 0 0, .int .u32 0, .slice none 0 0, .int .u32 (S8 : Int)] 56)); clear d0 d1 d2 d3 d4 d5 d6 d7 d8 d9; obtain ⟨d0, d1, d2, d3, d4, d5, d6, d7, d8, d9⟩ := sa9.x.at; obtain ⟨n0, n1, n2, n3, n4, n5, n6, n7, n8, n9⟩ := N0.at)
                | (go_at_call 46; refine (seal_any (⟨X.k, X.a, X.g, (0 : Int), 0, none, 0, 0, none, 0, 0, 0, none, 0, 0, S8⟩ : Tc) _ _ (okF _) S9 HSF.out).mono ?_; rintro e w5 ⟨rfl, b5⟩; clear n0 n1 n2 n3 n4 n5 n6 n7 n8 n9 d0 d1 d2 d3 d4 d5 d6 d7 d8 d9; have N1 := (show Vt (w4.alloc (.cells #[.int .i64 X.k, .int .i64 X.a, .int .i64 X.g, .int .i64 (0 : Int), .int .i64 0, .slice none 0 0, .slice none 0 0, .int .u32 0, .slice none 0 0, .int .u32 (S8 : Int)] 56)) w4.heap.size (⟨X.k, X.a, X.g, (0 : Int), 0, none, 0, 0, none, 0, 0, 0, none, 0, 0, S8⟩ : Tc) 56 from Vt.new w4 (⟨X.k, X.a, X.g, (0 : Int), 0, none, 0, 0, none, 0, 0, 0, none, 0, 0, S8⟩ : Tc) 56).below b5; have b45 := bel_call (bel_self w4 (.cells #[.int .i64 X.k, .int .i64 X.a, .int .i64 X.g, .int .i64 (0 : Int), .int .i64 0, .slice none 0 0, .slice none 0 0, .int .u32 0, .slice none 0 0, .int .u32 (S8 : Int)] 56)) (Nat.le_refl _) b5; obtain ⟨n0, n1, n2, n3, n4, n5, n6, n7, n8, n9⟩ := N1.at; have z9 := N1.z 9; obtain ⟨c0, c1, c2⟩ := (sa8.below b45).v.at; have hwn : w.heap.size ≠ w4.heap.size := (by have h := sa8.v.lt; omega); have bWW : Below w4.heap.size w4 (w5.setCell ⟨w4.heap.size, 9, none⟩ (.int .u32 (S9 : Int))) := Below.setCell b45 (p := ⟨w4.heap.size, 9, none⟩) (Nat.le_refl _) (.int .u32 (S9 : Int)); have saW := sa8.below bWW)
                | (go_at_call 39; refine (with_own ⟨gp, gc, ip, ic, some ⟨b, o, none⟩, c⟩ ys _ (saW.t.rd saW.b) HYL.out n hlt (⟨X.k, X.a, X.g, (0 : Int), 0, none, 0, 0, none, 0, 0, 0, none, 0, 0, S9⟩ : Tc)).mono ?_; rintro e w6 ⟨p1, c1', rfl, o6, b6⟩; have sa6 := saW.below b6)
                | (refine wpList_stV (E := eTb) rfl 35 (.tmp 1) (.tmp 60) rfl size35 w.heap.size _ sa6.v rfl (⟨gp, gc, ip, ic, p1, c1'⟩ : Tw) rfl rfl ?_; intro w9 L9 k9))
              have b46 := bel_call b4 (Nat.le_refl _) (bel_call bWW (Nat.le_refl _) b6)
              have oa9 := own_type (own_below oa7 b46) sa6.v (by decide) k9
              have ob9 := (ob7.below b46).kp sa6.v (by decide) (by decide) k9
              have o9 := own_type o6 sa6.v (by decide) k9
              have r9 := Lv.kp sa6.r k9 (by omega)
              have B9 := bel_kp sa6.b k9 (Nat.le_refl _) sa6.b.size
              have l9 := k9.size
              have l6 := sa6.le
              go_roundw
              case rel => exact ⟨n + 1, l + 1, p7, c7, p9, c9, p1, c1', _, by omega, by go_num, rfl, rfl, by rw [HP.out.1, List.length_append, HL.out]; rfl, by rw [HP.out.1]; exact oa9, by rw [HP.out.2.1]; exact ob9, htsN, .inr ⟨_, o9⟩, L9, r9, B9, by omega⟩
              case measure => simp [intOf]; omega
    · have hn12 : n = 12 := by omega
      subst hn12
      have hlm : l = m := HL.out.symm.trans HMM.out
      subst hlm
      obtain ⟨c0, c1, c2⟩ := hV.at
      go_wp2_with (refine wpList_stV (E := eTb) rfl 35 (.tmp 2) (.tmp 61) rfl size35 (w.heap.size + 1) _ hR rfl (⟨gp, gc, ip, ic, p, c⟩ : Tw) rfl rfl ?_; intro w9 L9 k9)
      have e9 := load35 L9
      have B9 : Below w.heap.size w w9 := bel_kp hbw k9 (by omega) hbw.size
      have oa9 := own_type oa hR (by decide) k9
      have ob9 := ob.kp hR (by decide) (by decide) k9
      have r9 := (hrw.kp hR (by decide) k9).rd B9
      rw [audN_all HTL.out] at hty
      refine bodyPost_ret (v := .tuple #[.agg #[.slice gp 12 gc, .slice ip 12 ic, .slice p 12 c], .slice pa l ca, .slice pb l cb]) (by simp [results, Try.results20, asAddr, e9]) rfl ⟨⟨gp, gc, ip, ic, p, c⟩, pa, ca, pb, cb, rfl, ⟨ht.G.below B9, ht.I.below B9, ⟨ys, r9, hty.below B9⟩, ht.gl, ht.il, by simp [adR, ht.tl]⟩, own_rd oa9, ob9.lr, B9⟩
end Go.Proofs.Ytcncpefdjgnhdaa
