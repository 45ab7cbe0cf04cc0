/-
  The law CodeAll, walked.
-/
import Derived.Test.YthkkojoanbeegaaTurnedWalk
import Derived.Test.YthkkojoanbeegaaCodes
import Derived.Test.YthkkojoanbeegaaHand
import Derived.Laws.StructEq
namespace Go.Proofs.Ythkkojoanbeegaa
open Go.ChangeShapes Go.WideShapes Go.ChangeAt Go.RowKit
attribute [local go_sem ↓] Go.wp_at_zero Go.wp_at_succ

theorem Hid.intro {p : Prop} (h : p) : Hid p := h
/-- What the last line of the law is told. -/
structure AllSt (W : World) (x : In) (g : Nat) (pl : Option Addr) (cl nl : Nat) (ll : List In) (p3 : Option Addr) (c3 n3 : Nat) (l3 : List In) (p5 : Option Addr) (c5 n5 : Nat) (l5 : List In) (p6 : Option Addr) (c6 n6 : Nat) (p7 : Option Addr) (c7 : Nat) (L : List In) : Prop where
  box_ : At4 W g (.int .i64 x.1) (.int .i64 x.2.1) (.int .i64 x.2.2.1) (.int .i64 x.2.2.2)
  rl_ : Rd eIn W pl cl ll
  nl_ : ll.length = nl
  bl_ : nl ≤ 30
  r3_ : Rd eIn W p3 c3 l3
  n3_ : l3.length = n3
  b3_ : n3 ≤ 23
  r5_ : Rd eIn W p5 c5 l5
  n5_ : l5.length = n5
  b5_ : n5 ≤ 12
  r6_ : Rd eIn W p6 c6 L
  n6_ : L.length = n6
  b6_ : n6 ≤ 1000
  r7_ : Rd eIn W p7 c7 L

set_option maxHeartbeats 4000000 in
theorem all_walk (x : In) (pl : Option Addr) (cl nl : Nat) (ll : List In) (p : Option Addr) (c : Nat) (n : Nat) (zs : List Int) (q : Option Addr) (d : Nat) (m : Nat) (ys : List Int) (w : World) (hpl : Rd eIn w pl cl ll) (hnl : ll.length = nl) (hml : nl ≤ 9223372036854775807) (hp : Rd eBy w p c zs) (hn : zs.length = n) (hbz : ∀ x ∈ zs, 0 ≤ x ∧ x ≤ 255) (hm1 : n ≤ 9223372036854775807) (hq : Rd eBy w q d ys) (hm : ys.length = m) (hby : ∀ x ∈ ys, 0 ≤ x ∧ x ≤ 255) (hm2 : m ≤ 9223372036854775807) :
    Calls Try.prog 3 #[.agg #[.int .i64 x.1, .int .i64 x.2.1, .int .i64 x.2.2.1, .int .i64 x.2.2.2], .slice pl nl cl, .slice p n c, .slice q m d] w fun e w' => e = .returned (.bool true) ∧ Below w.heap.size w w' := by
  obtain ⟨xo, xa, xb, xn⟩ := x
  simp only
  have HN : Hid (zs.length = n) := hn
  have HM : Hid (ys.length = m) := hm
  have HL : Hid (ll.length = nl) := hnl
  clear hn hm hnl
  have hB0 : Below w.heap.size w (w.alloc (.cells #[.int .i64 xo, .int .i64 xa, .int .i64 xb, .int .i64 xn] 23)) := (Below.refl _ _).alloc (Nat.le_refl _) _
  by_cases c0 : 30 < nl
  · have d0 : decide ((30 : Int) < (nl : Int)) = true := by simp; omega
    go_enter Try.func3, Try.ntmps3
    go_wp2_with (go_at_call 8; refine (begun_any _).mono ?_; rintro e w1 ⟨rfl, hb1⟩)
    go_ret
    exact ⟨rfl, bel_call hB0 (Nat.le_refl _) hb1⟩
  have d0 : decide ((30 : Int) < (nl : Int)) = false := by simp; omega
  by_cases c1 : 80 < n
  · have d1 : decide ((80 : Int) < (n : Int)) = true := by simp; omega
    go_enter Try.func3, Try.ntmps3
    go_wp2_with (go_at_call 8; refine (begun_any _).mono ?_; rintro e w1 ⟨rfl, hb1⟩)
    go_ret
    exact ⟨rfl, bel_call hB0 (Nat.le_refl _) hb1⟩
  have d1 : decide ((80 : Int) < (n : Int)) = false := by simp; omega
  by_cases c2 : 100 < m
  · have d2 : decide ((100 : Int) < (m : Int)) = true := by simp; omega
    go_enter Try.func3, Try.ntmps3
    go_wp2_with (go_at_call 8; refine (begun_any _).mono ?_; rintro e w1 ⟨rfl, hb1⟩)
    go_ret
    exact ⟨rfl, bel_call hB0 (Nat.le_refl _) hb1⟩
  have d2 : decide ((100 : Int) < (m : Int)) = false := by simp; omega
  have h1000 : n ≤ 1000 := by omega
  have h1001 : m ≤ 1000 := by omega
  obtain ⟨kk, hkk⟩ : ∃ kk, okT ys = kk := ⟨_, rfl⟩
  obtain ⟨L, hL⟩ : ∃ L, takeL ys = L := ⟨_, rfl⟩
  obtain ⟨Z, hZ⟩ : ∃ Z, L.length = Z := ⟨_, rfl⟩
  have hZb : Z ≤ 1000 := by
    rw [← hZ, ← hL]
    exact takeL_le ys
  have q1 := fun w' (hr : Rd eBy w' q d ys) => take_c q d ys w' m L Z kk HM.out hL hZ hkk hr h1001 hby
  have q2 := fun w' (hr : Rd eBy w' q d ys) => takeCode_c q d ys w' m L Z kk HM.out hL hZ hkk hr h1001 hby
  have HZ : Hid (L.length = Z) := hZ
  clear hkk hL hZ
  obtain ⟨g, hg⟩ : ∃ g, w.heap.size = g := ⟨_, rfl⟩
  have hA0 : At4 (w.alloc (.cells #[.int .i64 xo, .int .i64 xa, .int .i64 xb, .int .i64 xn] 23)) g (.int .i64 xo) (.int .i64 xa) (.int .i64 xb) (.int .i64 xn) := At4.new hg
  have HG : Hid (w.heap.size = g) := hg
  clear hg
  go_enter Try.func3, Try.ntmps3
  go_wp2_with (first
    | (go_at_call 8; refine (begun_any _).mono ?_; rintro e w1 ⟨rfl, hb1⟩; have hB1 := bel_call hB0 (Nat.le_refl _) hb1; have hA1 := hA0.below hb1; have hp1 := hp.below hB1; have hq1 := hq.below hB1; have hl1 := hpl.below hB1; clear hb1)
    | (go_at_call 9; (with_reducible (refine (made_any p c zs _ n HN.out h1000 hp1 hbz).mono ?_)); rintro e w2 ⟨rfl, pk2, hb2, hs2⟩)
    | (go_at_call 10; (with_reducible (refine (code_any w1.heap.size _ pk2).mono ?_)); (rintro e w3 ⟨p3, n3, c3, l3, rfl, ⟨o3, a3, e3, pk3, kp3⟩, g3, g3'⟩); have hB3 : Below w1.heap.size w1 w3 := hb2.trans (kp3.below (Nat.le_refl _) (by omega)); have hp3 := hp1.below hB3; clear pk3 kp3 pk2 hb2 hs2)
    | (go_at_call 9; (with_reducible (refine (made_any p c zs _ n HN.out h1000 hp3 hbz).mono ?_)); rintro e w4 ⟨rfl, pk4, hb4, hs4⟩)
    | (go_at_call 11; (with_reducible (refine (wild_any w3.heap.size _ pk4).mono ?_)); (rintro e w5 ⟨p5, n5, c5, l5, rfl, ⟨o5, a5, e5, pk5, kp5⟩, g5, g5'⟩); have hB5 : Below w3.heap.size w3 w5 := hb4.trans (kp5.below (Nat.le_refl _) (by omega)); have hq5 := (hq1.below hB3).below hB5; clear pk5 kp5 pk4 hb4 hs4)
    | (go_at_call 12; (with_reducible (refine (q1 _ hq5).mono ?_)); (rintro e w6 ⟨p6, c6, rfl, o6, b6⟩); have hq6 := hq5.below b6)
    | (go_at_call 13; (with_reducible (refine (q2 _ hq6).mono ?_)); (rintro e w7 ⟨p7, c7, rfl, o7, b7⟩)))
  have HS : AllSt w7 (xo, xa, xb, xn) g pl cl nl ll p3 c3 n3 l3 p5 c5 n5 l5 p6 c6 Z p7 c7 L := by
    have E1 : Below w1.heap.size w1 w7 := bel_call (bel_call (bel_call hB3 (Nat.le_refl _) hB5) (Nat.le_refl _) b6) (Nat.le_refl _) b7
    have E3 : Below w3.heap.size w3 w7 := bel_call (bel_call hB5 (Nat.le_refl _) b6) (Nat.le_refl _) b7
    have E5 : Below w5.heap.size w5 w7 := bel_call b6 (Nat.le_refl _) b7
    exact ⟨hA1.below E1, hl1.below E1, HL.out, by omega, (own_rd o3).below E3, e3, by omega, (own_rd o5).below E5, e5, by omega, (own_rd o6).below b7, HZ.out, hZb, own_rd o7⟩
  have hB7 : Below w.heap.size w w7 := bel_call (bel_call (bel_call (bel_call hB1 (Nat.le_refl _) hB3) (Nat.le_refl _) hB5) (Nat.le_refl _) b6) (Nat.le_refl _) b7
  clear hB0 hB1 hB3 hB5 o3 o5 o6 o7 b6 b7 q1 q2 hp1 hq1 hl1 hp3 hq5 hq6 hA0 hA1 hpl hp hq a3 a5 e3 e5
  obtain ⟨⟨k0, k1, k2, k3, kf⟩, srl, snl, sbl, sr3, sn3, sb3, sr5, sn5, sb5, sr6, sn6, sb6, sr7⟩ := HS
  simp only at k0 k1 k2 k3
  obtain ⟨mb, hmb⟩ : ∃ b, mayB (xo, xa, xb, xn) = b := ⟨_, rfl⟩
  have A14 : ∀ w', Calls Try.prog 14 #[.agg #[.int .i64 xo, .int .i64 xa, .int .i64 xb, .int .i64 xn]] w' fun e w'' => e = .returned (.bool mb) ∧ Below w'.heap.size w' w'' := fun w' => may_c xo xa xb xn w' mb hmb
  have A15 : ∀ w', Calls Try.prog 15 #[.agg #[.int .i64 xo, .int .i64 xa, .int .i64 xb, .int .i64 xn]] w' fun e w'' => e = .returned (.bool mb) ∧ Below w'.heap.size w' w'' := fun w' => by
    have := mayInst_any (xo, xa, xb, xn) w'
    rw [hmb] at this
    exact this
  clear hmb
  obtain ⟨Pl, hPl⟩ : ∃ P, putL ll = P := ⟨_, rfl⟩
  obtain ⟨Ml, hMl⟩ : ∃ M, Pl.length = M := ⟨_, rfl⟩
  have A16l : ∀ w', Below w7.heap.size w7 w' → Calls Try.prog 16 #[.slice pl nl cl] w' fun e w'' => ∃ p' c', e = .returned (.slice p' Ml c') ∧ Own eBy w'' w'.heap.size 5 p' c' Pl ∧ Below w'.heap.size w' w'' := fun w' hb => put_c pl cl ll w' nl Pl Ml snl hPl hMl (srl.below hb) (by omega)
  have A17l : ∀ w', Below w7.heap.size w7 w' → Calls Try.prog 17 #[.slice pl nl cl] w' fun e w'' => ∃ p' c', e = .returned (.slice p' Ml c') ∧ Own eBy w'' w'.heap.size 5 p' c' Pl ∧ Below w'.heap.size w' w'' := fun w' hb => putCode_c pl cl ll w' nl Pl Ml snl hPl hMl (srl.below hb) (by omega)
  have HMl : Hid (Pl.length = Ml) := hMl
  clear hPl hMl
  obtain ⟨Pm, hPm⟩ : ∃ P, putL l3 = P := ⟨_, rfl⟩
  obtain ⟨Mm, hMm⟩ : ∃ M, Pm.length = M := ⟨_, rfl⟩
  have A16m : ∀ w', Below w7.heap.size w7 w' → Calls Try.prog 16 #[.slice p3 n3 c3] w' fun e w'' => ∃ p' c', e = .returned (.slice p' Mm c') ∧ Own eBy w'' w'.heap.size 5 p' c' Pm ∧ Below w'.heap.size w' w'' := fun w' hb => put_c p3 c3 l3 w' n3 Pm Mm sn3 hPm hMm (sr3.below hb) (by omega)
  have A17m : ∀ w', Below w7.heap.size w7 w' → Calls Try.prog 17 #[.slice p3 n3 c3] w' fun e w'' => ∃ p' c', e = .returned (.slice p' Mm c') ∧ Own eBy w'' w'.heap.size 5 p' c' Pm ∧ Below w'.heap.size w' w'' := fun w' hb => putCode_c p3 c3 l3 w' n3 Pm Mm sn3 hPm hMm (sr3.below hb) (by omega)
  have HMm : Hid (Pm.length = Mm) := hMm
  clear hPm hMm
  obtain ⟨Pw, hPw⟩ : ∃ P, putL l5 = P := ⟨_, rfl⟩
  obtain ⟨Mw, hMw⟩ : ∃ M, Pw.length = M := ⟨_, rfl⟩
  have A16w : ∀ w', Below w7.heap.size w7 w' → Calls Try.prog 16 #[.slice p5 n5 c5] w' fun e w'' => ∃ p' c', e = .returned (.slice p' Mw c') ∧ Own eBy w'' w'.heap.size 5 p' c' Pw ∧ Below w'.heap.size w' w'' := fun w' hb => put_c p5 c5 l5 w' n5 Pw Mw sn5 hPw hMw (sr5.below hb) (by omega)
  have A17w : ∀ w', Below w7.heap.size w7 w' → Calls Try.prog 17 #[.slice p5 n5 c5] w' fun e w'' => ∃ p' c', e = .returned (.slice p' Mw c') ∧ Own eBy w'' w'.heap.size 5 p' c' Pw ∧ Below w'.heap.size w' w'' := fun w' hb => putCode_c p5 c5 l5 w' n5 Pw Mw sn5 hPw hMw (sr5.below hb) (by omega)
  have HMw : Hid (Pw.length = Mw) := hMw
  clear hPw hMw
  have A18 : ∀ w', Below w7.heap.size w7 w' → Calls Try.prog 18 #[.slice p6 Z c6, .slice p7 Z c7] w' fun e w'' => e = .returned (.bool true) ∧ Below w'.heap.size w' w'' := fun w' hb => by
    have := same_any p6 c6 L p7 c7 L w' (sr6.below hb) (sr7.below hb) Z Z sn6 sn6 sb6 sb6
    rw [show sameB L L = true from decide_eq_true rfl] at this
    exact this
  have hgg := HG.out
  clear HG
  subst hgg
  have hgW : w.heap.size < w7.heap.size := lt_of_cell k0
  clear srl snl sbl sr3 sn3 sb3 sr5 sn5 sb5 sr6 sn6 sb6 sr7 HZ HL HN HM
  have hmm : (mb == mb) = true := by simp
  have hkk : (kk == kk) = true := by simp
  have H14 := Hid.intro A14
  have H15 := Hid.intro A15
  have H16l := Hid.intro A16l
  have H17l := Hid.intro A17l
  have H16m := Hid.intro A16m
  have H17m := Hid.intro A17m
  have H16w := Hid.intro A16w
  have H17w := Hid.intro A17w
  have H18 := Hid.intro A18
  have H0 := Hid.intro k0
  have H1 := Hid.intro k1
  have H2 := Hid.intro k2
  have H3 := Hid.intro k3
  have HgW := Hid.intro hgW
  have HB7 := Hid.intro hB7
  clear A14 A15 A16l A17l A16m A17m A16w A17w A18 hB7 k0 k1 k2 k3 kf hgW hZb h1000 h1001 c0 c1 c2 d0 d1 d2 hby hbz hml hm1 hm2
  refine wp_region_held_drew (S := fun w' => Below w7.heap.size w7 w') (by kernel_rfl) (Below.refl _ _).drew (fun hHeld => ?_)
  refine wpAnyH_take (i := 0) (oi := _) (v := ?_) rfl (by kernel_rfl) (by kernel_rfl) (by kernel_rfl) (fun _ _ _ h => h) (Or.inl ⟨by rfl, ?_⟩) hHeld ?_
  rotate_left
  · intro w' hSw
    have e0 := (hSw.cell (p := ⟨w.heap.size, 0, none⟩) HgW.out).trans H0.out
    have e1 := (hSw.cell (p := ⟨w.heap.size, 1, none⟩) HgW.out).trans H1.out
    have e2 := (hSw.cell (p := ⟨w.heap.size, 2, none⟩) HgW.out).trans H2.out
    have e3 := (hSw.cell (p := ⟨w.heap.size, 3, none⟩) HgW.out).trans H3.out
    (go_simp <;> with_reducible rfl)
  try simp only [Act.put, List.getElem_toArray, List.getElem_cons_zero, List.setIfInBounds_toArray, List.set_cons_zero, List.set_cons_succ]
  refine wpAnyH_take (i := 2) (oi := _) (v := ?_) rfl (by kernel_rfl) (by kernel_rfl) (by kernel_rfl) (fun _ _ _ h => h) (Or.inl ⟨by rfl, ?_⟩) hHeld ?_
  rotate_left
  · intro w' hSw
    have e0 := (hSw.cell (p := ⟨w.heap.size, 0, none⟩) HgW.out).trans H0.out
    have e1 := (hSw.cell (p := ⟨w.heap.size, 1, none⟩) HgW.out).trans H1.out
    have e2 := (hSw.cell (p := ⟨w.heap.size, 2, none⟩) HgW.out).trans H2.out
    have e3 := (hSw.cell (p := ⟨w.heap.size, 3, none⟩) HgW.out).trans H3.out
    (go_simp <;> with_reducible rfl)
  try simp only [Act.put, List.getElem_toArray, List.getElem_cons_succ, List.getElem_cons_zero, List.setIfInBounds_toArray, List.set_cons_zero, List.set_cons_succ]
  refine wpAnyH_ready (rs := [1]) (by kernel_rfl) (by simp) ?_
  refine AllReadyH.cons (o := _) rfl (fun K hK => ?_) AllReadyH.nil
  go_simp
  go_at_call 14
  (with_reducible (refine (H14.out _).mono ?_))
  rintro e w10 ⟨rfl, b10⟩
  have B10 : Below w7.heap.size w7 w10 := (Below.refl _ _).drew.trans b10
  refine hK.out _ _ B10 (fun _ => ?_)
  refine wpAnyH_weaken (S' := fun w' => Below w10.heap.size w10 w') (fun w' h => bel_call B10 (Nat.le_refl _) h) _ _ _ _ ?_
  clear hHeld hK K
  have hHeld : Below w10.heap.size w10 w10 := Below.refl _ _
  try simp only [Act.put, List.getElem_toArray, List.getElem_cons_succ, List.getElem_cons_zero, List.setIfInBounds_toArray, List.set_cons_zero, List.set_cons_succ]
  refine wpAnyH_ready (rs := [3]) (by kernel_rfl) (by simp) ?_
  refine AllReadyH.cons (o := _) rfl (fun K hK => ?_) AllReadyH.nil
  go_simp
  go_at_call 15
  (with_reducible (refine (H15.out _).mono ?_))
  rintro e w11 ⟨rfl, b11⟩
  have B11 := bel_call B10 (Nat.le_refl _) b11
  refine hK.out _ _ b11 (fun _ => ?_)
  refine wpAnyH_weaken (S' := fun w' => Below w11.heap.size w11 w') (fun w' h => bel_call b11 (Nat.le_refl _) h) _ _ _ _ ?_
  clear hHeld hK K
  have hHeld : Below w11.heap.size w11 w11 := Below.refl _ _
  try simp only [Act.put, List.getElem_toArray, List.getElem_cons_succ, List.getElem_cons_zero, List.setIfInBounds_toArray, List.set_cons_zero, List.set_cons_succ]
  refine wpAnyH_take (i := 4) (oi := _) (v := ?_) rfl (by kernel_rfl) (by kernel_rfl) (by kernel_rfl) (fun _ _ _ h => h) (Or.inl ⟨by rfl, ?_⟩) hHeld ?_
  rotate_left
  · intro w' hSw
    (go_simp <;> with_reducible rfl)
  try simp only [Act.put, List.getElem_toArray, List.getElem_cons_succ, List.getElem_cons_zero, List.setIfInBounds_toArray, List.set_cons_zero, List.set_cons_succ]
  refine wpAnyH_take (i := 5) (oi := _) (v := ?_) rfl (by kernel_rfl) (by kernel_rfl) (by kernel_rfl) (fun _ _ _ h => h) (Or.inl ⟨by rfl, ?_⟩) hHeld ?_
  rotate_left
  · intro w' hSw
    (go_simp <;> with_reducible rfl)
  try simp only [Act.put, List.getElem_toArray, List.getElem_cons_succ, List.getElem_cons_zero, List.setIfInBounds_toArray, List.set_cons_zero, List.set_cons_succ]
  refine wpAnyH_take (i := 6) (oi := _) (v := ?_) rfl (by kernel_rfl) (by kernel_rfl) (by kernel_rfl) (fun _ _ _ h => h) (Or.inl ⟨by rfl, ?_⟩) hHeld ?_
  rotate_left
  · intro w' hSw
    (go_simp <;> with_reducible rfl)
  try simp only [Act.put, List.getElem_toArray, List.getElem_cons_succ, List.getElem_cons_zero, List.setIfInBounds_toArray, List.set_cons_zero, List.set_cons_succ]
  refine wpAnyH_take (i := 9) (oi := _) (v := ?_) rfl (by kernel_rfl) (by kernel_rfl) (by kernel_rfl) (fun _ _ _ h => h) (Or.inl ⟨by rfl, ?_⟩) hHeld ?_
  rotate_left
  · intro w' hSw
    (go_simp <;> with_reducible rfl)
  try simp only [Act.put, List.getElem_toArray, List.getElem_cons_succ, List.getElem_cons_zero, List.setIfInBounds_toArray, List.set_cons_zero, List.set_cons_succ]
  refine wpAnyH_ready (rs := [7]) (by kernel_rfl) (by simp) ?_
  refine AllReadyH.cons (o := _) rfl (fun K hK => ?_) AllReadyH.nil
  go_simp
  go_at_call 16
  (with_reducible (refine (H16l.out _ B11).mono ?_))
  rintro e w12 ⟨p12, c12, rfl, o12, b12⟩
  have B12 := bel_call B11 (Nat.le_refl _) b12
  refine hK.out _ _ b12 (fun _ => ?_)
  refine wpAnyH_weaken (S' := fun w' => Below w12.heap.size w12 w') (fun w' h => bel_call b12 (Nat.le_refl _) h) _ _ _ _ ?_
  clear hHeld hK K
  have hHeld : Below w12.heap.size w12 w12 := Below.refl _ _
  try simp only [Act.put, List.getElem_toArray, List.getElem_cons_succ, List.getElem_cons_zero, List.setIfInBounds_toArray, List.set_cons_zero, List.set_cons_succ]
  refine wpAnyH_take (i := 8) (oi := _) (v := ?_) rfl (by kernel_rfl) (by kernel_rfl) (by kernel_rfl) (fun _ _ _ h => h) (Or.inl ⟨by rfl, ?_⟩) hHeld ?_
  rotate_left
  · intro w' hSw
    have e := str_run (own_rd (own_below o12 hSw)) Ml HMl.out
    (go_simp <;> with_reducible rfl)
  try simp only [Act.put, List.getElem_toArray, List.getElem_cons_succ, List.getElem_cons_zero, List.setIfInBounds_toArray, List.set_cons_zero, List.set_cons_succ]
  refine wpAnyH_ready (rs := [10]) (by kernel_rfl) (by simp) ?_
  refine AllReadyH.cons (o := _) rfl (fun K hK => ?_) AllReadyH.nil
  go_simp
  go_at_call 17
  (with_reducible (refine (H17l.out _ B12).mono ?_))
  rintro e w13 ⟨p13, c13, rfl, o13, b13⟩
  have B13 := bel_call B12 (Nat.le_refl _) b13
  refine hK.out _ _ b13 (fun _ => ?_)
  refine wpAnyH_weaken (S' := fun w' => Below w13.heap.size w13 w') (fun w' h => bel_call b13 (Nat.le_refl _) h) _ _ _ _ ?_
  clear hHeld hK K
  have hHeld : Below w13.heap.size w13 w13 := Below.refl _ _
  try simp only [Act.put, List.getElem_toArray, List.getElem_cons_succ, List.getElem_cons_zero, List.setIfInBounds_toArray, List.set_cons_zero, List.set_cons_succ]
  refine wpAnyH_take (i := 11) (oi := _) (v := ?_) rfl (by kernel_rfl) (by kernel_rfl) (by kernel_rfl) (fun _ _ _ h => h) (Or.inl ⟨by rfl, ?_⟩) hHeld ?_
  rotate_left
  · intro w' hSw
    have e := str_run (own_rd (own_below o13 hSw)) Ml HMl.out
    (go_simp <;> with_reducible rfl)
  try simp only [Act.put, List.getElem_toArray, List.getElem_cons_succ, List.getElem_cons_zero, List.setIfInBounds_toArray, List.set_cons_zero, List.set_cons_succ]
  refine wpAnyH_take (i := 12) (oi := _) (v := ?_) rfl (by kernel_rfl) (by kernel_rfl) (by kernel_rfl) (fun _ _ _ h => h) (Or.inl ⟨by rfl, ?_⟩) hHeld ?_
  rotate_left
  · intro w' hSw
    (go_simp <;> with_reducible rfl)
  try simp only [Act.put, List.getElem_toArray, List.getElem_cons_succ, List.getElem_cons_zero, List.setIfInBounds_toArray, List.set_cons_zero, List.set_cons_succ]
  refine wpAnyH_take (i := 13) (oi := _) (v := ?_) rfl (by kernel_rfl) (by kernel_rfl) (by kernel_rfl) (fun _ _ _ h => h) (Or.inl ⟨by rfl, ?_⟩) hHeld ?_
  rotate_left
  · intro w' hSw
    (go_simp <;> with_reducible rfl)
  try simp only [Act.put, List.getElem_toArray, List.getElem_cons_succ, List.getElem_cons_zero, List.setIfInBounds_toArray, List.set_cons_zero, List.set_cons_succ]
  refine wpAnyH_take (i := 14) (oi := _) (v := ?_) rfl (by kernel_rfl) (by kernel_rfl) (by kernel_rfl) (fun _ _ _ h => h) (Or.inl ⟨by rfl, ?_⟩) hHeld ?_
  rotate_left
  · intro w' hSw
    (go_simp <;> with_reducible rfl)
  try simp only [Act.put, List.getElem_toArray, List.getElem_cons_succ, List.getElem_cons_zero, List.setIfInBounds_toArray, List.set_cons_zero, List.set_cons_succ]
  refine wpAnyH_take (i := 15) (oi := _) (v := ?_) rfl (by kernel_rfl) (by kernel_rfl) (by kernel_rfl) (fun _ _ _ h => h) (Or.inl ⟨by rfl, ?_⟩) hHeld ?_
  rotate_left
  · intro w' hSw
    (go_simp <;> with_reducible rfl)
  try simp only [Act.put, List.getElem_toArray, List.getElem_cons_succ, List.getElem_cons_zero, List.setIfInBounds_toArray, List.set_cons_zero, List.set_cons_succ]
  refine wpAnyH_take (i := 18) (oi := _) (v := ?_) rfl (by kernel_rfl) (by kernel_rfl) (by kernel_rfl) (fun _ _ _ h => h) (Or.inl ⟨by rfl, ?_⟩) hHeld ?_
  rotate_left
  · intro w' hSw
    (go_simp <;> with_reducible rfl)
  try simp only [Act.put, List.getElem_toArray, List.getElem_cons_succ, List.getElem_cons_zero, List.setIfInBounds_toArray, List.set_cons_zero, List.set_cons_succ]
  refine wpAnyH_ready (rs := [16]) (by kernel_rfl) (by simp) ?_
  refine AllReadyH.cons (o := _) rfl (fun K hK => ?_) AllReadyH.nil
  go_simp
  go_at_call 16
  (with_reducible (refine (H16m.out _ B13).mono ?_))
  rintro e w14 ⟨p14, c14, rfl, o14, b14⟩
  have B14 := bel_call B13 (Nat.le_refl _) b14
  refine hK.out _ _ b14 (fun _ => ?_)
  refine wpAnyH_weaken (S' := fun w' => Below w14.heap.size w14 w') (fun w' h => bel_call b14 (Nat.le_refl _) h) _ _ _ _ ?_
  clear hHeld hK K
  have hHeld : Below w14.heap.size w14 w14 := Below.refl _ _
  try simp only [Act.put, List.getElem_toArray, List.getElem_cons_succ, List.getElem_cons_zero, List.setIfInBounds_toArray, List.set_cons_zero, List.set_cons_succ]
  refine wpAnyH_take (i := 17) (oi := _) (v := ?_) rfl (by kernel_rfl) (by kernel_rfl) (by kernel_rfl) (fun _ _ _ h => h) (Or.inl ⟨by rfl, ?_⟩) hHeld ?_
  rotate_left
  · intro w' hSw
    have e := str_run (own_rd (own_below o14 hSw)) Mm HMm.out
    (go_simp <;> with_reducible rfl)
  try simp only [Act.put, List.getElem_toArray, List.getElem_cons_succ, List.getElem_cons_zero, List.setIfInBounds_toArray, List.set_cons_zero, List.set_cons_succ]
  refine wpAnyH_ready (rs := [19]) (by kernel_rfl) (by simp) ?_
  refine AllReadyH.cons (o := _) rfl (fun K hK => ?_) AllReadyH.nil
  go_simp
  go_at_call 17
  (with_reducible (refine (H17m.out _ B14).mono ?_))
  rintro e w15 ⟨p15, c15, rfl, o15, b15⟩
  have B15 := bel_call B14 (Nat.le_refl _) b15
  refine hK.out _ _ b15 (fun _ => ?_)
  refine wpAnyH_weaken (S' := fun w' => Below w15.heap.size w15 w') (fun w' h => bel_call b15 (Nat.le_refl _) h) _ _ _ _ ?_
  clear hHeld hK K
  have hHeld : Below w15.heap.size w15 w15 := Below.refl _ _
  try simp only [Act.put, List.getElem_toArray, List.getElem_cons_succ, List.getElem_cons_zero, List.setIfInBounds_toArray, List.set_cons_zero, List.set_cons_succ]
  refine wpAnyH_take (i := 20) (oi := _) (v := ?_) rfl (by kernel_rfl) (by kernel_rfl) (by kernel_rfl) (fun _ _ _ h => h) (Or.inl ⟨by rfl, ?_⟩) hHeld ?_
  rotate_left
  · intro w' hSw
    have e := str_run (own_rd (own_below o15 hSw)) Mm HMm.out
    (go_simp <;> with_reducible rfl)
  try simp only [Act.put, List.getElem_toArray, List.getElem_cons_succ, List.getElem_cons_zero, List.setIfInBounds_toArray, List.set_cons_zero, List.set_cons_succ]
  refine wpAnyH_take (i := 21) (oi := _) (v := ?_) rfl (by kernel_rfl) (by kernel_rfl) (by kernel_rfl) (fun _ _ _ h => h) (Or.inl ⟨by rfl, ?_⟩) hHeld ?_
  rotate_left
  · intro w' hSw
    (go_simp <;> with_reducible rfl)
  try simp only [Act.put, List.getElem_toArray, List.getElem_cons_succ, List.getElem_cons_zero, List.setIfInBounds_toArray, List.set_cons_zero, List.set_cons_succ]
  refine wpAnyH_take (i := 22) (oi := _) (v := ?_) rfl (by kernel_rfl) (by kernel_rfl) (by kernel_rfl) (fun _ _ _ h => h) (Or.inl ⟨by rfl, ?_⟩) hHeld ?_
  rotate_left
  · intro w' hSw
    (go_simp <;> with_reducible rfl)
  try simp only [Act.put, List.getElem_toArray, List.getElem_cons_succ, List.getElem_cons_zero, List.setIfInBounds_toArray, List.set_cons_zero, List.set_cons_succ]
  refine wpAnyH_take (i := 23) (oi := _) (v := ?_) rfl (by kernel_rfl) (by kernel_rfl) (by kernel_rfl) (fun _ _ _ h => h) (Or.inl ⟨by rfl, ?_⟩) hHeld ?_
  rotate_left
  · intro w' hSw
    (go_simp <;> with_reducible rfl)
  try simp only [Act.put, List.getElem_toArray, List.getElem_cons_succ, List.getElem_cons_zero, List.setIfInBounds_toArray, List.set_cons_zero, List.set_cons_succ]
  refine wpAnyH_take (i := 24) (oi := _) (v := ?_) rfl (by kernel_rfl) (by kernel_rfl) (by kernel_rfl) (fun _ _ _ h => h) (Or.inl ⟨by rfl, ?_⟩) hHeld ?_
  rotate_left
  · intro w' hSw
    (go_simp <;> with_reducible rfl)
  try simp only [Act.put, List.getElem_toArray, List.getElem_cons_succ, List.getElem_cons_zero, List.setIfInBounds_toArray, List.set_cons_zero, List.set_cons_succ]
  refine wpAnyH_take (i := 27) (oi := _) (v := ?_) rfl (by kernel_rfl) (by kernel_rfl) (by kernel_rfl) (fun _ _ _ h => h) (Or.inl ⟨by rfl, ?_⟩) hHeld ?_
  rotate_left
  · intro w' hSw
    (go_simp <;> with_reducible rfl)
  try simp only [Act.put, List.getElem_toArray, List.getElem_cons_succ, List.getElem_cons_zero, List.setIfInBounds_toArray, List.set_cons_zero, List.set_cons_succ]
  refine wpAnyH_ready (rs := [25]) (by kernel_rfl) (by simp) ?_
  refine AllReadyH.cons (o := _) rfl (fun K hK => ?_) AllReadyH.nil
  go_simp
  go_at_call 16
  (with_reducible (refine (H16w.out _ B15).mono ?_))
  rintro e w16 ⟨p16, c16, rfl, o16, b16⟩
  have B16 := bel_call B15 (Nat.le_refl _) b16
  refine hK.out _ _ b16 (fun _ => ?_)
  refine wpAnyH_weaken (S' := fun w' => Below w16.heap.size w16 w') (fun w' h => bel_call b16 (Nat.le_refl _) h) _ _ _ _ ?_
  clear hHeld hK K
  have hHeld : Below w16.heap.size w16 w16 := Below.refl _ _
  try simp only [Act.put, List.getElem_toArray, List.getElem_cons_succ, List.getElem_cons_zero, List.setIfInBounds_toArray, List.set_cons_zero, List.set_cons_succ]
  refine wpAnyH_take (i := 26) (oi := _) (v := ?_) rfl (by kernel_rfl) (by kernel_rfl) (by kernel_rfl) (fun _ _ _ h => h) (Or.inl ⟨by rfl, ?_⟩) hHeld ?_
  rotate_left
  · intro w' hSw
    have e := str_run (own_rd (own_below o16 hSw)) Mw HMw.out
    (go_simp <;> with_reducible rfl)
  try simp only [Act.put, List.getElem_toArray, List.getElem_cons_succ, List.getElem_cons_zero, List.setIfInBounds_toArray, List.set_cons_zero, List.set_cons_succ]
  refine wpAnyH_ready (rs := [28]) (by kernel_rfl) (by simp) ?_
  refine AllReadyH.cons (o := _) rfl (fun K hK => ?_) AllReadyH.nil
  go_simp
  go_at_call 17
  (with_reducible (refine (H17w.out _ B16).mono ?_))
  rintro e w17 ⟨p17, c17, rfl, o17, b17⟩
  have B17 := bel_call B16 (Nat.le_refl _) b17
  refine hK.out _ _ b17 (fun _ => ?_)
  refine wpAnyH_weaken (S' := fun w' => Below w17.heap.size w17 w') (fun w' h => bel_call b17 (Nat.le_refl _) h) _ _ _ _ ?_
  clear hHeld hK K
  have hHeld : Below w17.heap.size w17 w17 := Below.refl _ _
  try simp only [Act.put, List.getElem_toArray, List.getElem_cons_succ, List.getElem_cons_zero, List.setIfInBounds_toArray, List.set_cons_zero, List.set_cons_succ]
  refine wpAnyH_take (i := 29) (oi := _) (v := ?_) rfl (by kernel_rfl) (by kernel_rfl) (by kernel_rfl) (fun _ _ _ h => h) (Or.inl ⟨by rfl, ?_⟩) hHeld ?_
  rotate_left
  · intro w' hSw
    have e := str_run (own_rd (own_below o17 hSw)) Mw HMw.out
    (go_simp <;> with_reducible rfl)
  try simp only [Act.put, List.getElem_toArray, List.getElem_cons_succ, List.getElem_cons_zero, List.setIfInBounds_toArray, List.set_cons_zero, List.set_cons_succ]
  refine wpAnyH_take (i := 30) (oi := _) (v := ?_) rfl (by kernel_rfl) (by kernel_rfl) (by kernel_rfl) (fun _ _ _ h => h) (Or.inl ⟨by rfl, ?_⟩) hHeld ?_
  rotate_left
  · intro w' hSw
    (go_simp <;> with_reducible rfl)
  try simp only [Act.put, List.getElem_toArray, List.getElem_cons_succ, List.getElem_cons_zero, List.setIfInBounds_toArray, List.set_cons_zero, List.set_cons_succ]
  refine wpAnyH_take (i := 31) (oi := _) (v := ?_) rfl (by kernel_rfl) (by kernel_rfl) (by kernel_rfl) (fun _ _ _ h => h) (Or.inl ⟨by rfl, ?_⟩) hHeld ?_
  rotate_left
  · intro w' hSw
    (go_simp <;> with_reducible rfl)
  try simp only [Act.put, List.getElem_toArray, List.getElem_cons_succ, List.getElem_cons_zero, List.setIfInBounds_toArray, List.set_cons_zero, List.set_cons_succ]
  refine wpAnyH_take (i := 32) (oi := _) (v := ?_) rfl (by kernel_rfl) (by kernel_rfl) (by kernel_rfl) (fun _ _ _ h => h) (Or.inl ⟨by rfl, ?_⟩) hHeld ?_
  rotate_left
  · intro w' hSw
    (go_simp <;> with_reducible rfl)
  try simp only [Act.put, List.getElem_toArray, List.getElem_cons_succ, List.getElem_cons_zero, List.setIfInBounds_toArray, List.set_cons_zero, List.set_cons_succ]
  refine wpAnyH_take (i := 33) (oi := _) (v := ?_) rfl (by kernel_rfl) (by kernel_rfl) (by kernel_rfl) (fun _ _ _ h => h) (Or.inl ⟨by rfl, ?_⟩) hHeld ?_
  rotate_left
  · intro w' hSw
    (go_simp <;> with_reducible rfl)
  try simp only [Act.put, List.getElem_toArray, List.getElem_cons_succ, List.getElem_cons_zero, List.setIfInBounds_toArray, List.set_cons_zero, List.set_cons_succ]
  refine wpAnyH_take (i := 34) (oi := _) (v := ?_) rfl (by kernel_rfl) (by kernel_rfl) (by kernel_rfl) (fun _ _ _ h => h) (Or.inl ⟨by rfl, ?_⟩) hHeld ?_
  rotate_left
  · intro w' hSw
    (go_simp <;> with_reducible rfl)
  try simp only [Act.put, List.getElem_toArray, List.getElem_cons_succ, List.getElem_cons_zero, List.setIfInBounds_toArray, List.set_cons_zero, List.set_cons_succ]
  refine wpAnyH_take (i := 35) (oi := _) (v := ?_) rfl (by kernel_rfl) (by kernel_rfl) (by kernel_rfl) (fun _ _ _ h => h) (Or.inl ⟨by rfl, ?_⟩) hHeld ?_
  rotate_left
  · intro w' hSw
    (go_simp <;> with_reducible rfl)
  try simp only [Act.put, List.getElem_toArray, List.getElem_cons_succ, List.getElem_cons_zero, List.setIfInBounds_toArray, List.set_cons_zero, List.set_cons_succ]
  refine wpAnyH_take (i := 36) (oi := _) (v := ?_) rfl (by kernel_rfl) (by kernel_rfl) (by kernel_rfl) (fun _ _ _ h => h) (Or.inl ⟨by rfl, ?_⟩) hHeld ?_
  rotate_left
  · intro w' hSw
    (go_simp <;> with_reducible rfl)
  try simp only [Act.put, List.getElem_toArray, List.getElem_cons_succ, List.getElem_cons_zero, List.setIfInBounds_toArray, List.set_cons_zero, List.set_cons_succ]
  refine wpAnyH_take (i := 37) (oi := _) (v := ?_) rfl (by kernel_rfl) (by kernel_rfl) (by kernel_rfl) (fun _ _ _ h => h) (Or.inl ⟨by rfl, ?_⟩) hHeld ?_
  rotate_left
  · intro w' hSw
    (go_simp <;> with_reducible rfl)
  try simp only [Act.put, List.getElem_toArray, List.getElem_cons_succ, List.getElem_cons_zero, List.setIfInBounds_toArray, List.set_cons_zero, List.set_cons_succ]
  refine wpAnyH_take (i := 38) (oi := _) (v := ?_) rfl (by kernel_rfl) (by kernel_rfl) (by kernel_rfl) (fun _ _ _ h => h) (Or.inl ⟨by rfl, ?_⟩) hHeld ?_
  rotate_left
  · intro w' hSw
    (go_simp <;> with_reducible rfl)
  try simp only [Act.put, List.getElem_toArray, List.getElem_cons_succ, List.getElem_cons_zero, List.setIfInBounds_toArray, List.set_cons_zero, List.set_cons_succ]
  refine wpAnyH_take (i := 39) (oi := _) (v := ?_) rfl (by kernel_rfl) (by kernel_rfl) (by kernel_rfl) (fun _ _ _ h => h) (Or.inl ⟨by rfl, ?_⟩) hHeld ?_
  rotate_left
  · intro w' hSw
    (go_simp <;> with_reducible rfl)
  try simp only [Act.put, List.getElem_toArray, List.getElem_cons_succ, List.getElem_cons_zero, List.setIfInBounds_toArray, List.set_cons_zero, List.set_cons_succ]
  refine wpAnyH_ready (rs := [40]) (by kernel_rfl) (by simp) ?_
  refine AllReadyH.cons (o := _) rfl (fun K hK => ?_) AllReadyH.nil
  go_simp
  go_at_call 18
  (with_reducible (refine (H18.out _ B17).mono ?_))
  rintro e w18 ⟨rfl, b18⟩
  have B18 := bel_call B17 (Nat.le_refl _) b18
  refine hK.out _ _ b18 (fun _ => ?_)
  refine wpAnyH_weaken (S' := fun w' => Below w18.heap.size w18 w') (fun w' h => bel_call b18 (Nat.le_refl _) h) _ _ _ _ ?_
  clear hHeld hK K
  have hHeld : Below w18.heap.size w18 w18 := Below.refl _ _
  try simp only [Act.put, List.getElem_toArray, List.getElem_cons_succ, List.getElem_cons_zero, List.setIfInBounds_toArray, List.set_cons_zero, List.set_cons_succ]
  refine wpAnyH_take (i := 41) (oi := _) (v := ?_) rfl (by kernel_rfl) (by kernel_rfl) (by kernel_rfl) (fun _ _ _ h => h) (Or.inl ⟨by rfl, ?_⟩) hHeld ?_
  rotate_left
  · intro w' hSw
    (go_simp <;> with_reducible rfl)
  try simp only [Act.put, List.getElem_toArray, List.getElem_cons_succ, List.getElem_cons_zero, List.setIfInBounds_toArray, List.set_cons_zero, List.set_cons_succ]
  refine wpAnyH_take (i := 42) (oi := _) (v := ?_) rfl (by kernel_rfl) (by kernel_rfl) (by kernel_rfl) (fun _ _ _ h => h) (Or.inl ⟨by rfl, ?_⟩) hHeld ?_
  rotate_left
  · intro w' hSw
    (go_simp <;> with_reducible rfl)
  try simp only [Act.put, List.getElem_toArray, List.getElem_cons_succ, List.getElem_cons_zero, List.setIfInBounds_toArray, List.set_cons_zero, List.set_cons_succ]
  refine wpAnyH_done (by kernel_rfl) ?_ _
  go_wp2
  go_ret
  exact ⟨rfl, HB7.out.trans (B18.mono HB7.out.size)⟩
end Go.Proofs.Ythkkojoanbeegaa
