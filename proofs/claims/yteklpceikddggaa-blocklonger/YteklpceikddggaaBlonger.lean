/-
  The law BlockLonger, walked.
-/
import Derived.Test.YteklpceikddggaaBall
import Derived.Test.YteklpceikddggaaBahead
import Derived.Deep.CutBlock
import Derived.Deep.CutRange
namespace Go.Proofs.Yteklpceikddggaa
open Go.ChangeShapes Go.WideShapes Go.ChangeAt Go.RowKit
attribute [local go_sem ↓] Go.wp_at_zero Go.wp_at_succ

theorem rx_no3 {w wr : World} {g : Nat} {p : Option Addr} {m c : Nat} {P : List Tv} {SP : List Sn} (h : Rx w g wr p m c P SP) (j : Nat) : isS (SP.getD j []) 3 = false := by
  by_cases hj : j < SP.length
  · obtain ⟨M, W, O, _, _, e, l3, _⟩ := h.tk j (by rw [h.len, ← h.sl]; exact hj) hj
    rw [List.getD_eq_getElem?_getD, List.getElem?_eq_getElem hj]
    show isS SP[j] 3 = false
    rw [← e]; exact lk3_no l3.1 l3.2
  · rw [List.getD_eq_getElem?_getD, List.getElem?_eq_none (by omega)]; rfl
theorem own_ptr {α : Type} {E : Elt α} {w : World} {base : Nat} {e : TypeId} {p : Option Addr} {c : Nat} {l : List α} (h : Own E w base e p c l) (hl : 0 < l.length) : ∃ g, p = some ⟨g, 0, none⟩ ∧ base ≤ g ∧ g < w.heap.size := by
  rcases h.2 with ⟨h1, h2⟩ | ⟨g, cap, cur, h1, h2, h3, _⟩
  · simp only [Value.slice.injEq] at h1
    omega
  · simp only [Value.slice.injEq, true_and] at h1
    exact ⟨g, h1.1, h2, (Array.getElem?_eq_some_iff.1 h3).1⟩
/-- a task with another Main -/
def wM (x : Tv) (mp : Option Addr) (mn mc : Nat) : Tv := { x with mp := mp, mn := mn, mc := mc }
theorem fl_set3 (mp : Option Addr) (mn mc : Nat) : ∀ (P : List Tv) (k : Nat) (hk : k < P.length), fl eTk (P.set k (wM P[k] mp mn mc)) = (fl eTk P).set (k * 6 + 3) (.slice mp mn mc)
  | x :: r, 0, _ => rfl
  | x :: r, k + 1, hk => by
    have ih := fl_set3 mp mn mc r k (by simpa using hk)
    have e1 : fl eTk (x :: r) = eTk.enc x ++ fl eTk r := rfl
    have e2 : fl eTk ((x :: r).set (k + 1) (wM (x :: r)[k + 1] mp mn mc)) = eTk.enc x ++ fl eTk (r.set k (wM (r[k]'(by simpa using hk)) mp mn mc)) := rfl
    have e3 : (eTk.enc x).length = 6 := rfl
    rw [e2, ih, e1, List.set_append, if_neg (by rw [e3]; omega), e3]
    congr 2
    omega
theorem own_main {w : World} {base g : Nat} {c : Nat} {P : List Tv} (h : Own eTk w base 33 (some ⟨g, 0, none⟩) c P) (k : Nat) (hk : k < P.length) (mp : Option Addr) (mn mc : Nat) :
    Own eTk (w.setCell ⟨g, k * 6 + 3, none⟩ (.slice mp mn mc)) base 33 (some ⟨g, 0, none⟩) c (P.set k (wM P[k] mp mn mc)) := by
  rcases h.2 with ⟨h1, h2⟩ | ⟨g', cap, cur, h1, h2, h3, h4, h5, h6, h7⟩
  · simp only [Value.slice.injEq] at h1
    omega
  · simp only [Value.slice.injEq, Option.some.injEq, true_and] at h1
    obtain ⟨h1, rfl⟩ := h1
    cases h1
    refine ⟨fl_length eTk _, .inr ⟨g, c, cur.setIfInBounds (k * 6 + 3) (.slice mp mn mc), by simp, h2, ?_, by simpa using h4, h5, by simpa using h6, ?_⟩⟩
    · rw [setCell_eq_setRow w g (k * 6 + 3) _ _ _ _ h3]
      exact setRow_heap w g _ _ _ _ h3
    · rw [fl_set3, ← h7, Array.toList_setIfInBounds, List.length_set, List.take_set]
theorem own_cell {w : World} {base g : Nat} {c : Nat} {P : List Tv} (h : Own eTk w base 33 (some ⟨g, 0, none⟩) c P) (k : Nat) (hk : k < P.length) :
    w.frozen? ⟨g, k * 6 + 3, none⟩ = false ∧ w.cell? ⟨g, k * 6 + 3, none⟩ = some (.slice P[k].mp P[k].mn P[k].mc) := by
  obtain ⟨b, o, e, hb, hcel⟩ := hcel_of (own_rd h) k hk rfl
  simp only [Option.some.injEq, Addr.mk.injEq, and_true] at e
  obtain ⟨rfl, rfl⟩ := e
  have hc := (hcel w (Below.refl _ _)).2.2.2.1
  rw [Nat.zero_add] at hc
  refine ⟨?_, hc⟩
  rcases h.2 with ⟨h1, h2⟩ | ⟨g', cap, cur, h1, h2, h3, h4, h5, h6, h7⟩
  · simp only [Value.slice.injEq] at h1
    omega
  · simp only [Value.slice.injEq, Option.some.injEq, true_and] at h1
    obtain ⟨h1, rfl⟩ := h1
    cases h1
    simp [World.frozen?, h3]
set_option maxRecDepth 20000 in
set_option maxHeartbeats 4000000 in
theorem blonger_walk (q : Option Addr) (c n : Nat) (zs : List Int) (w : World) (hq : Rd eBy w q c zs) (hN : zs.length = n) (hb : ∀ x ∈ zs, 0 ≤ x ∧ x ≤ 255) (a : Int) (ha0 : 0 ≤ a) (ha1 : a ≤ 255) :
    Calls Try.prog 7 #[.slice q n c, .int .u8 a] w fun e w' => e = .returned (.bool true) ∧ Below w.heap.size w w' := by
  have HN : Hid (zs.length = n) := hN
  clear hN
  by_cases c1 : 250 < n
  · have d1 : decide ((250 : Int) < (n : Int)) = true := by simp; omega
    go_enter Try.func7, Try.ntmps7
    go_wp2_with (go_at_call 8; refine (begun_any _).mono ?_; rintro e w1 ⟨rfl, hb1⟩)
    go_ret
    exact ⟨rfl, hb1⟩
  · have d1 : decide ((250 : Int) < (n : Int)) = false := by simp; omega
    have h1000 : n ≤ 1000 := by omega
    clear c1
    go_enter Try.func7, Try.ntmps7
    go_upto_region 6 with (first
      | (go_at_call 9; (with_reducible (refine (row_any q c n zs _ hq1 HN.out h1000 hb 5 (by omega) (by omega)).mono ?_)); rintro e w2 ⟨p, m, c', rfl, hm5, P, SP, hR⟩)
      | (go_at_call 8; refine (begun_any _).mono ?_; rintro e w1 ⟨rfl, hb1⟩; have hq1 := hq.below hb1))
    have RE := hR.e
    have hB2 := bel_call hb1 (Nat.le_refl _) hR.bel
    have hm : m ≤ 100 := by omega
    have h3no := fun j => rx_no3 hR j
    clear hR hq hq1 hb hb1
    by_cases m0 : m = 0
    · have dm : ((m : Int) == 0) = true := by simp; omega
      clear RE h3no
      go_wp2
      go_ret
      exact ⟨rfl, hB2⟩
    · have dm : ((m : Int) == 0) = false := by simp; omega
      have hmI : (0 : Int) < (m : Int) := by omega
      have hr0 := Int.emod_nonneg a (show (m : Int) ≠ 0 by omega)
      have hr1 := Int.emod_lt_of_pos a hmI
      obtain ⟨k, hk⟩ : ∃ k : Nat, a % (m : Int) = (k : Int) := ⟨(a % (m : Int)).toNat, by omega⟩
      have hkm : k < m := by omega
      have z1 : a.tmod (m : Int) = (k : Int) := by rw [Int.tmod_eq_emod_of_nonneg ha0]; exact hk
      have z2 : IntKind.i64.wrap a = a := by rw [IntKind.wrap_i64]; omega
      have z3 : IntKind.i64.wrap (k : Int) = (k : Int) := by rw [IntKind.wrap_i64]; omega
      have z4 : ¬ ((m : Int) = 0) := by omega
      clear hk hr0 hr1
      go_upto_region 9 with fail
      clear z1 z2 z3 z4 ha0 ha1
      have hkP : k < P.length := by rw [RE.len]; exact hkm
      have hkS : k < SP.length := by rw [RE.sl]; exact hkm
      obtain ⟨X, hX⟩ : ∃ X, P[k] = X := ⟨_, rfl⟩
      obtain ⟨bb, bo, be, hbb, hcel⟩ := hcel_of RE.rd k hkP hX
      obtain ⟨M1, Y1, O1, hG, hE, hSk⟩ := RE.tk k hkP hkS
      rw [hX] at hG hE
      have HX : Hid (P[k] = X) := hX
      have HP : Hid (P.length = m) := RE.len
      have HSl : Hid (SP.length = m) := RE.sl
      obtain ⟨r1, p1, e1, mp1, mn1, mc1, wp1, wn1, wc1, op1, on1, oc1⟩ := X
      have hGk := hG.k
      dsimp only at hcel hGk hE
      subst be
      have HM1 : Hid (M1.length = mn1) := hGk.m
      have sA := bel_self w2 (.cells #[] 33)
      have lA : Own eTk (w2.alloc (.cells #[] 33)) w2.heap.size 33 (some ⟨w2.heap.size, 0, none⟩) 0 [] := ⟨by simp [fl], .inr ⟨w2.heap.size, 0, #[], rfl, Nat.le_refl _, Lv.new _ _ _, Nat.le_refl _, Nat.zero_le _, by simp, by simp [fl]⟩⟩
      have rdA := RE.rd.below sA
      have hkI : (k : Int) < (m : Int) := by omega
      have dk : decide ((k : Int) < (m : Int)) = true := decide_eq_true hkI
      clear hX
      go_upto_region 10 with (at_builtin; refine wpList_app tTk _ rfl _ _ rfl w2.heap.size (some ⟨w2.heap.size, 0, none⟩) 0 [] 0 rfl rfl lA _ c' P m HP.out rfl rdA (by omega) (by simp) m (Nat.zero_add _) ?_; intro p4 c4 w4 o4 b4 g4)
      rw [List.nil_append] at o4
      have B24 : Below w2.heap.size w2 w4 := sA.trans b4
      clear sA lA rdA b4 g4
      obtain ⟨g, rfl, hg2, hg4⟩ := own_ptr o4 (by rw [HP.out]; omega)
      have sB := bel_self w4 (.cells #[] 30)
      have lB : Own eIn (w4.alloc (.cells #[] 30)) w4.heap.size 30 (some ⟨w4.heap.size, 0, none⟩) 0 [] := ⟨by simp [fl], .inr ⟨w4.heap.size, 0, #[], rfl, Nat.le_refl _, Lv.new _ _ _, Nat.le_refl _, Nat.zero_le _, by simp, by simp [fl]⟩⟩
      have bB := bel_call B24 (Nat.le_refl _) sB
      have rdB := hGk.rM.below bB
      have y3 := (hcel _ bB).2.2.2.1
      have hm9 := hGk.m9
      clear hcel
      go_upto_region 11 with (at_builtin; refine wpList_app tIn _ rfl _ _ rfl w4.heap.size (some ⟨w4.heap.size, 0, none⟩) 0 [] 0 rfl rfl lB _ _ M1 mn1 HM1.out rfl rdB (by omega) (by simp) mn1 (Nat.zero_add _) ?_; intro p5 c5 w5 o5 b5 g5)
      rw [List.nil_append] at o5
      have B45 : Below w4.heap.size w4 w5 := sB.trans b5
      have B25 := bel_call B24 (Nat.le_refl _) B45
      clear sB lB bB rdB y3 b5 g5 hm9
      by_cases c20 : 20 < mn1
      · have d20 : decide ((20 : Int) < (mn1 : Int)) = true := by simp; omega
        clear RE o4 o5 hG hGk hE h3no B24 B45
        go_wp2
        go_ret
        exact ⟨rfl, bel_call hB2 (Nat.le_refl _) B25⟩
      · have d20 : decide ((20 : Int) < (mn1 : Int)) = false := by simp; omega
        have h20 : mn1 ≤ 20 := by omega
        clear c20
        have sC := bel_self w5 (.cells #[.int .i64 9, .int .i64 3, .int .i64 0, .int .i64 0, .int .i64 1, .int .i64 5, .int .i64 0, .int .i64 0, .int .i64 10, .int .i64 3, .int .i64 0, .int .i64 0] 30)
        have lC : Own eIn (w5.alloc (.cells #[.int .i64 9, .int .i64 3, .int .i64 0, .int .i64 0, .int .i64 1, .int .i64 5, .int .i64 0, .int .i64 0, .int .i64 10, .int .i64 3, .int .i64 0, .int .i64 0] 30)) w5.heap.size 30 (some ⟨w5.heap.size, 0, none⟩) 3 pre3 := own_block (Nat.le_refl _) rfl 3 rfl (by decide)
        have rdC := (own_rd o5).below sC
        obtain ⟨R3, hR3⟩ : ∃ R3, 3 + mn1 = R3 := ⟨_, rfl⟩
        have o45 := own_below o4 B45
        go_upto_region 14 with (at_builtin; refine wpList_app tIn _ rfl _ _ rfl w5.heap.size (some ⟨w5.heap.size, 0, none⟩) 3 pre3 3 rfl rfl lC _ _ M1 mn1 HM1.out rfl rdC (by omega) (by simp) R3 hR3 ?_; intro p6 c6 w6 o6 b6 g6; have B56 := sC.trans b6; have o46 := own_below o45 B56; obtain ⟨fz, cz⟩ := own_cell o46 k hkP)
        have HR3 : Hid (3 + mn1 = R3) := hR3
        clear sC lC rdC b6 g6 fz cz o4 o45 hR3
        have hs45 := B45.size
        have hs56 := B56.size
        have o8 := own_main o46 k hkP p6 R3 c6
        have K8 : Kp g w6 (w6.setCell ⟨g, k * 6 + 3, none⟩ (.slice p6 R3 c6)) := Kp.set rfl _
        have i6 := own_in o6
        have rd8 := rd_kp (own_rd o6) K8 (fun b o e _ => by have := i6 b o e; omega)
        have B26 := bel_call B25 (Nat.le_refl _) B56
        have B28 := B26.trans (K8.below (B := w2.heap.size) hg2 B26.size)
        obtain ⟨W8, hW8⟩ : ∃ W8, w6.setCell ⟨g, k * 6 + 3, none⟩ (.slice p6 R3 c6) = W8 := ⟨_, rfl⟩
        rw [hW8] at o8 K8 rd8 B28 ⊢
        have HL3 : (pre3 ++ M1).length = R3 := by rw [p_len, HM1.out, ← HR3.out]; omega
        have hR3k : R3 ≤ 1000 := by have := HR3.out; omega
        have hG2 : Gt W8 (wM P[k] p6 R3 c6) (pre3 ++ M1) Y1 O1 := by
          rw [HX.out]
          exact ⟨⟨rd8, hGk.rW.below B28, hGk.rO.below B28, HL3, hGk.n, hGk.o, hR3k, hGk.n9, hGk.o9⟩, hG.r, hG.p, hG.e⟩
        obtain ⟨E2, hE2⟩ : ∃ E2, erT r1 p1 e1 (pre3 ++ M1) Y1 O1 = E2 := ⟨_, rfl⟩
        have RE8 := RE.below B28
        have RM : Rowd W8 (some ⟨g, 0, none⟩) c4 m (P.set k (wM P[k] p6 R3 c6)) (SP.set k (spaT E2 (pre3 ++ M1) Y1)) := by
          refine ⟨own_rd o8, by rw [List.length_set]; exact HP.out, by rw [List.length_set]; exact HSl.out, fun j h1 h2 => ?_⟩
          rw [List.length_set] at h1 h2
          by_cases ej : k = j
          · subst ej
            rw [List.getElem_set_self, List.getElem_set_self]
            exact ⟨_, _, _, E2, hG2, by rw [HX.out]; exact hE2, rfl⟩
          · rw [List.getElem_set_ne ej, List.getElem_set_ne ej]
            exact RE8.d.tk j h1 h2
        have HBv : Hid (E2 = 0 → ∀ i : Nat, i < m → byv (SP.set k (spaT E2 (pre3 ++ M1) Y1)) m i = if k < i then max (byv SP m i) 2 else byv SP m i) := by
          intro h0 i hi
          subst h0
          have e1 := spa_ahead hE hE2 (by rw [HM1.out]; exact h20)
          have e2 : spaT 0 M1 Y1 = SP.getD k [] := by rw [hSk, List.getD_eq_getElem?_getD, List.getElem?_eq_getElem hkS]; rfl
          rw [e1, e2]
          exact by_longer HSl.out hkm h3no hi
        have hkP2 : k < (P.set k (wM P[k] p6 R3 c6)).length := by rw [List.length_set]; exact hkP
        have hX2 : (P.set k (wM P[k] p6 R3 c6))[k] = (⟨r1, p1, e1, p6, R3, c6, wp1, wn1, wc1, op1, on1, oc1⟩ : Tv) := by rw [List.getElem_set_self, HX.out]; rfl
        obtain ⟨b2, o2, be2, _, hcel⟩ := hcel_of RM.rd k hkP2 hX2
        simp only [Option.some.injEq, Addr.mk.injEq, and_true] at be2
        obtain ⟨rfl, rfl⟩ := be2
        simp only [Nat.zero_add] at hcel
        have hB8 := bel_call hB2 (Nat.le_refl _) B28
        have hG3 : Tk3 W8 p6 R3 c6 wp1 wn1 wc1 op1 on1 oc1 (pre3 ++ M1) Y1 O1 := ⟨rd8, hGk.rW.below B28, hGk.rO.below B28, HL3, hGk.n, hGk.o, hR3k, hGk.n9, hGk.o9⟩
        generalize P.set k (wM P[k] p6 R3 c6) = P2 at *
        generalize SP.set k (spaT E2 (pre3 ++ M1) Y1) = SP2 at *
        have HE2 : Hid (erT r1 p1 e1 (pre3 ++ M1) Y1 O1 = E2) := hE2
        clear o46 o5 o6 o8 K8 i6 rd8 B26 B28 hW8 hG hGk hG2 hE hE2 hSk RE B24 B45 B25 B56 hB2 hs45 hs56 hX2 hkP2 HL3 h3no hkS hg2 hg4 HM1 HR3 HX
        go_wp2
        go_loopw [9] (fun i wr => ∃ i0 : Nat, i0 ≤ m ∧ i = .int .i64 i0 ∧ Below W8.heap.size W8 wr) (fun i _ => m - (intOf i).toNat)
        case atStart => exact ⟨0, Nat.zero_le _, rfl, Below.refl _ _⟩
        case round =>
          obtain ⟨i, hi, rfl, hbw⟩ := hrel
          obtain ⟨W1, hW1⟩ : ∃ W1 : World, W1 = wr := ⟨_, rfl⟩
          subst hW1
          by_cases hlt : i < m
          · have hiI : (i : Int) < (m : Int) := by omega
            have di : decide ((i : Int) < (m : Int)) = true := decide_eq_true hiI
            obtain ⟨A, hA⟩ : ∃ A, byv SP m (i : Int) = A := ⟨_, rfl⟩
            obtain ⟨B, hB⟩ : ∃ B, byv SP2 m (i : Int) = B := ⟨_, rfl⟩
            have HV : Hid (E2 = 0 → B = if k < i then max A 2 else A) := fun h => by rw [← hB, ← hA]; exact HBv.out h i hlt
            have KL := by_any _ c' m P SP W1 (RE8.below hbw).d (by omega) (i : Int) A hA
            have KM := fun w' (hb' : Below W1.heap.size W1 w') => by_any _ c4 m P2 SP2 w' ((RM.below hbw).below hb') (by omega) (i : Int) B hB
            have KY := fun w' (hb' : Below W1.heap.size W1 w') => rmay_any r1 p1 e1 p6 R3 c6 wp1 wn1 wc1 op1 on1 oc1 _ _ _ w' ((hG3.below hbw).below hb') E2 HE2.out
            have hcl := fun w' (hb' : Below W1.heap.size W1 w') => hcel w' (bel_call hbw (Nat.le_refl _) hb')
            clear hA hB
            by_cases h0 : E2 = 0
            · subst h0
              have HV2 := HV.out rfl
              rcases Nat.lt_trichotomy i k with hik | hik | hik
              · obtain rfl : B = A := by rw [HV2, if_neg (by omega)]
                have x1 : ((i : Int) == (k : Int)) = false := by simp; omega
                have x2 : ((i : Int) != (k : Int)) = true := by simp; omega
                have x3 : (B != B) = false := by simp
                clear HV HV2 hik
                go_wp2_with (first
                  | (go_at_call 15; (with_reducible (refine (KY _ b4).mono ?_)); rintro e w5 ⟨rfl, b5⟩; have b5 := bel_call b4 (Nat.le_refl _) b5)
                  | (go_at_call 10; (with_reducible (refine (KM _ b3).mono ?_)); rintro e w4 ⟨rfl, b4⟩; have b4 := bel_call b3 (Nat.le_refl _) b4; obtain ⟨y0, y1, y2, y3, y4, y5⟩ := hcl _ b4)
                  | (go_at_call 10; (with_reducible (refine KL.mono ?_)); rintro e w3 ⟨rfl, b3⟩))
                go_roundw
                case rel => exact ⟨i + 1, by omega, by go_num, bel_call hbw (Nat.le_refl _) b5⟩
                case measure => simp [intOf]; omega
              · subst hik
                obtain rfl : B = A := by rw [HV2, if_neg (by omega)]
                have x1 : ((i : Int) == (i : Int)) = true := by simp
                have x2 : ((i : Int) != (i : Int)) = false := by simp
                have x3 : (B != B) = false := by simp
                clear HV HV2
                go_wp2_with (first
                  | (go_at_call 15; (with_reducible (refine (KY _ b4).mono ?_)); rintro e w5 ⟨rfl, b5⟩; have b5 := bel_call b4 (Nat.le_refl _) b5)
                  | (go_at_call 10; (with_reducible (refine (KM _ b3).mono ?_)); rintro e w4 ⟨rfl, b4⟩; have b4 := bel_call b3 (Nat.le_refl _) b4; obtain ⟨y0, y1, y2, y3, y4, y5⟩ := hcl _ b4)
                  | (go_at_call 10; (with_reducible (refine KL.mono ?_)); rintro e w3 ⟨rfl, b3⟩))
                go_roundw
                case rel => exact ⟨i + 1, by omega, by go_num, bel_call hbw (Nat.le_refl _) b5⟩
                case measure => simp [intOf]; omega
              · rw [if_pos hik] at HV2
                have x1 : ((i : Int) == (k : Int)) = false := by simp; omega
                have x2 : ((i : Int) != (k : Int)) = true := by simp; omega
                have x4 : ¬ i < k := by omega
                have x7 : decide (i < k) = false := decide_eq_false x4
                by_cases hA2 : A < 2
                · obtain rfl : B = 2 := by omega
                  have x3 : ((2 : Int) != A) = true := by simp; omega
                  have x5 : (if A < 2 then (2 : Int) else A) = 2 := if_pos hA2
                  have x6 : max A 2 = 2 := by omega
                  clear HV HV2 hik
                  go_wp2_with (first
                    | (go_at_call 15; (with_reducible (refine (KY _ b4).mono ?_)); rintro e w5 ⟨rfl, b5⟩; have b5 := bel_call b4 (Nat.le_refl _) b5)
                    | (go_at_call 10; (with_reducible (refine (KM _ b3).mono ?_)); rintro e w4 ⟨rfl, b4⟩; have b4 := bel_call b3 (Nat.le_refl _) b4; obtain ⟨y0, y1, y2, y3, y4, y5⟩ := hcl _ b4)
                    | (go_at_call 10; (with_reducible (refine KL.mono ?_)); rintro e w3 ⟨rfl, b3⟩))
                  go_roundw
                  case rel => exact ⟨i + 1, by omega, by go_num, bel_call hbw (Nat.le_refl _) b5⟩
                  case measure => simp [intOf]; omega
                · obtain rfl : B = A := by omega
                  have x3 : (B != B) = false := by simp
                  clear HV HV2 hik
                  go_wp2_with (first
                    | (go_at_call 15; (with_reducible (refine (KY _ b4).mono ?_)); rintro e w5 ⟨rfl, b5⟩; have b5 := bel_call b4 (Nat.le_refl _) b5)
                    | (go_at_call 10; (with_reducible (refine (KM _ b3).mono ?_)); rintro e w4 ⟨rfl, b4⟩; have b4 := bel_call b3 (Nat.le_refl _) b4; obtain ⟨y0, y1, y2, y3, y4, y5⟩ := hcl _ b4)
                    | (go_at_call 10; (with_reducible (refine KL.mono ?_)); rintro e w3 ⟨rfl, b3⟩))
                  go_roundw
                  case rel => exact ⟨i + 1, by omega, by go_num, bel_call hbw (Nat.le_refl _) b5⟩
                  case measure => simp [intOf]; omega
            · have x0 : (E2 != 0) = true := by simpa using h0
              clear HV h0
              go_wp2_with (first
                | (go_at_call 15; (with_reducible (refine (KY _ b4).mono ?_)); rintro e w5 ⟨rfl, b5⟩; have b5 := bel_call b4 (Nat.le_refl _) b5)
                | (go_at_call 10; (with_reducible (refine (KM _ b3).mono ?_)); rintro e w4 ⟨rfl, b4⟩; have b4 := bel_call b3 (Nat.le_refl _) b4; obtain ⟨y0, y1, y2, y3, y4, y5⟩ := hcl _ b4)
                | (go_at_call 10; (with_reducible (refine KL.mono ?_)); rintro e w3 ⟨rfl, b3⟩))
              go_ret
              exact ⟨rfl, bel_call hB8 (Nat.le_refl _) (bel_call hbw (Nat.le_refl _) b5)⟩
          · obtain rfl : i = m := by omega
            have di : decide ((i : Int) < (i : Int)) = false := by simp
            have hB9 := bel_call hB8 (Nat.le_refl _) hbw
            clear RE8 RM hcel hG3
            go_wp2
            go_ret
            exact ⟨rfl, hB9⟩
end Go.Proofs.Yteklpceikddggaa
