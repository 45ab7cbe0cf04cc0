/-
  The walk of ObjHandles.
-/
import Derived.Test.YtcncpefdjgnhdaaHandst
import Derived.Test.YtcncpefdjgnhdaaBegun
import Derived.Test.YtcncpefdjgnhdaaKepts
import Derived.Test.YtcncpefdjgnhdaaArgs
import Derived.Test.YtcncpefdjgnhdaaHand
import Derived.Deep.Cut
import Derived.Deep.CutRange
import Derived.Deep.CutBlock
namespace Go.Proofs.Ytcncpefdjgnhdaa
open Go.ChangeShapes Go.WideShapes Go.ChangeAt Go.RowKit
attribute [local go_sem ↓] Go.wp_at_zero Go.wp_at_succ

set_option maxRecDepth 20000 in
set_option maxHeartbeats 2000000 in
theorem handles_walk (lp : Option Addr) (lc : Nat) (Z : List (Int × Int)) (w : World) (hr : Rd e2 w lp lc Z) (ln : Nat) (hl : Z.length = ln) (hz : ∀ y ∈ Z, Byte2 y) :
    Calls Try.prog 6 #[.slice lp ln lc] w fun e w' => e = .returned (.bool true) ∧ Below w.heap.size w w' := by
  have HLN : Hid (Z.length = ln) := hl
  have HZ : Hid (∀ y ∈ Z, Byte2 y) := hz
  clear hl hz
  by_cases h60 : ln ≤ 60
  · have d60 : decide ((ln : Int) > 60) = false := by simp; omega
    go_enter Try.func6, Try.ntmps6
    go_wp2_with (first
      | (go_at_call 8; refine (begun_any _).mono ?_; rintro e w1 ⟨rfl, b1⟩)
      | (go_at_call 9; refine (new_any _).mono ?_; rintro e w2 ⟨y0, rfl, t0, b2⟩))
    obtain ⟨A, hA⟩ : ∃ A : Obj, A = .cells #[.slice y0.gp 12 y0.gc, .slice y0.ip 12 y0.ic, .slice y0.tp 12 y0.tc] 30 := ⟨_, rfl⟩
    have s2 := bel_self w2 A
    have hV0 : Vw (w2.alloc A) w2.heap.size y0 30 := by subst hA; exact Vw.new w2 y0 30
    have b0 := bel_call (bel_call b1 (Nat.le_refl _) b2) (Nat.le_refl _) s2
    have hK0 : Kept 0 w2 (w2.alloc A) := (Kept.refl 0 w2).below s2
    obtain ⟨g, hg⟩ : ∃ g, g = w2.heap.size := ⟨_, rfl⟩
    have hgw : w.heap.size ≤ g := by have h1 := b1.size; have h2 := b2.size; omega
    have hgl : g < (w2.alloc A).heap.size := by subst hg; exact hV0.lt
    have hgg : w2.heap.size ≤ g := Nat.le_of_eq hg.symm
    rw [← hg] at hV0
    try rw [← hA]
    simp only [← hg]
    generalize w2.alloc A = W0 at *
    obtain ⟨H0, hH0⟩ : ∃ H0, H0 = W0.heap.size := ⟨_, rfl⟩
    have hSt : Hs w W0 g H0 y0 newT none none none 0 0 0 [] [] [] := ⟨hV0, ⟨0, w2, t0.tk, hK0, Or.inr hgg, Ou.none _ _, Ou.none _ _, Ou.none _ _⟩, own_nil _ _ _, own_nil _ _ _, own_nil _ _ _, b0, Nat.le_of_eq hH0⟩
    have hgH : g < H0 := by omega
    have hwH : w.heap.size ≤ H0 := by omega
    clear hA hg hgg hgl hH0 b1 b2 s2 t0 hV0 hK0 b0
    go_loopw [4, 5, 6, 7] (fun a1 a2 a3 i wr => ∃ n : Nat, n ≤ ln ∧ i = .int .i64 n ∧ ∃ (m : Nat) (p : Option Addr) (c : Nat) (q : Option Addr) (d : Nat) (r : Option Addr) (e : Nat) (y : Tw) (T : Tb) (hs : List (Int × Int)) (bs : List Bool) (ks : List Int), a1 = .slice p m c ∧ a2 = .slice q m d ∧ a3 = .slice r m e ∧ hs.length = m ∧ m ≤ n ∧ Hi n T hs bs ks ∧ Hs w wr g H0 y T p q r c d e hs bs ks) (fun _ _ _ i _ => ln - (intOf i).toNat)
    case atStart => exact ⟨0, Nat.zero_le _, rfl, 0, none, 0, none, 0, none, 0, y0, newT, [], [], [], rfl, rfl, rfl, rfl, Nat.le_refl _, Hi.nil, hSt⟩
    case round =>
      obtain ⟨n, hn, rfl, m, p, c, q, d, r, e, y, T, hs, bs, ks, rfl, rfl, rfl, hm, hmn, hI, hS⟩ := hrel
      obtain ⟨wo, hwo⟩ : ∃ wo : World, wo = wr := ⟨_, rfl⟩
      subst hwo
      have HM : Hid (hs.length = m) := hm
      clear hm hSt
      by_cases hlt : n < ln
      · have hnI : (n : Int) < (ln : Int) := by omega
        have hnZ : (0 : Int) ≤ (n : Int) := by omega
        have dn : decide ((n : Int) < (ln : Int)) = true := by simp; omega
        have hnz : n < Z.length := by rw [HLN.out]; exact hlt
        obtain ⟨lb, lo, el, hlb, f0, f1⟩ := (hr.below hS.b).two n hnz
        subst el
        have hby := HZ.out Z[n] (List.getElem_mem _)
        obtain ⟨u, hu⟩ := Int.eq_ofNat_of_zero_le hby.1.1
        obtain ⟨v, hv⟩ := Int.eq_ofNat_of_zero_le hby.2.1
        have hu9 : u ≤ 255 := by have := hby.1.2; omega
        have hv9 : v ≤ 255 := by have := hby.2.2; omega
        rw [hu] at f0
        rw [hv] at f1
        clear hby hu hv
        go_upto_block 1 with fail
        refine wp_block ?_
        refine wp_seq_k ?_
        intro K2 hK2
        go_cut [4, 5, 6] from 26 to 112 (fun a1 a2 a3 wx => ∃ (m : Nat) (p : Option Addr) (c : Nat) (q : Option Addr) (d : Nat) (r : Option Addr) (e : Nat) (y : Tw) (T : Tb) (hs : List (Int × Int)) (bs : List Bool) (ks : List Int), a1 = .slice p m c ∧ a2 = .slice q m d ∧ a3 = .slice r m e ∧ hs.length = m ∧ m ≤ (n + 1) ∧ Hi (n + 1) T hs bs ks ∧ Hs w wx g H0 y T p q r c d e hs bs ks)
        case first =>
          by_cases hA : u % 2 = 0
          · have x1 : ((u : Int) % 2 == 0) = true := by simp; omega
            clear hA
            obtain ⟨kk, hkk⟩ : ∃ kk, 2 + (v : Int) % 2 = kk := ⟨_, rfl⟩
            have hk2 : kk = 2 ∨ kk = 3 := by omega
            have HK2 : Hid (kk = 2 ∨ kk = 3) := hk2
            clear hk2
            obtain ⟨ha, hha⟩ : ∃ ha, mkA T kk = ha := ⟨_, rfl⟩
            obtain ⟨hgn, hhg⟩ : ∃ hgn, mkG T kk = hgn := ⟨_, rfl⟩
            have HAG : Hid (mkA T kk = ha ∧ mkG T kk = hgn) := ⟨hha, hhg⟩
            obtain ⟨e0, e1, e2⟩ := hS.v.at
            have trS := hS.tr
            cases hB : mkOk T kk with
            | true =>
              have HB : Hid (mkOk T kk = true) := hB
              have HN : Hid (∀ i, i < m → hh hs i ≠ (ha, hgn)) := fun i hi => by have h := hI.new hB (i := i) (by rw [HM.out]; exact hi); rwa [hha, hhg] at h
              have HI2 : Hid (Hi (n + 1) (mkR T kk) (hs ++ [(ha, hgn)]) (bs ++ [true]) (ks ++ [kk])) := by have h := hI.make HK2.out hB; rw [hha, hhg] at h; exact h
              clear hB hha hhg
              go_wp2_with (go_at_call 22; refine (make_n y T n _ trS hI.wf (by omega) kk true HB.out ha hgn HAG.out.1 HAG.out.2).mono ?_; rintro e9 w3 ⟨z, rfl, ⟨g1, xs, ow⟩, b3⟩)
              have s3 : Below w3.heap.size w3 ((w3.alloc (.cells #[.slice z.gp 12 z.gc, .slice z.ip 12 z.ic, .slice z.tp 12 z.tc] 30)).alloc (.cells #[.int .i64 ha, .int .i64 hgn] 38)) := (bel_self _ _).alloc (by simp) _
              have b31 := bel_call b3 (Nat.le_refl _) s3
              have hX1 : Vw ((w3.alloc (.cells #[.slice z.gp 12 z.gc, .slice z.ip 12 z.ic, .slice z.tp 12 z.tc] 30)).alloc (.cells #[.int .i64 ha, .int .i64 hgn] 38)) w3.heap.size z 30 := (Vw.new w3 z 30).below (bel_self _ _)
              have hH1 : Lv ((w3.alloc (.cells #[.slice z.gp 12 z.gc, .slice z.ip 12 z.ic, .slice z.tp 12 z.tc] 30)).alloc (.cells #[.int .i64 ha, .int .i64 hgn] 38)) (w3.heap.size + 1) #[.int .i64 ha, .int .i64 hgn] 38 := heap_at (by simp)
              have hS1 := hS.below b31
              have hN1 := hS.nx hX1 ((Kept.refl wo.heap.size w3).below s3) (Nat.le_refl _)
              have hgo : g < wo.heap.size := hS.v.lt
              obtain ⟨W1, hW1⟩ : ∃ W1, W1 = ((w3.alloc (.cells #[.slice z.gp 12 z.gc, .slice z.ip 12 z.ic, .slice z.tp 12 z.tc] 30)).alloc (.cells #[.int .i64 ha, .int .i64 hgn] 38)) := ⟨_, rfl⟩
              rw [← hW1] at hX1 hH1 hS1 hN1 ⊢
              clear hW1 s3 b31 b3 e0 e1 e2 trS f0 f1 hX1
              go_loopw [12] (fun i wx => ∃ j : Nat, j ≤ m ∧ i = .int .i64 j ∧ Below W1.heap.size W1 wx) (fun i _ => m - (intOf i).toNat)
              case atStart => exact ⟨0, Nat.zero_le _, rfl, Below.refl _ _⟩
              case round =>
                obtain ⟨j, hj, rfl, hbx⟩ := hrel
                have hSx := hS1.below hbx
                have hHx := hH1.below hbx
                have hNx := hN1.below hbx
                have h0 := hHx.c 0 rfl
                have h1 := hHx.c 1 rfl
                by_cases hjm : j < m
                · have hjI : (j : Int) < (m : Int) := by omega
                  have hjZ : (0 : Int) ≤ (j : Int) := by omega
                  have dj : decide ((j : Int) < (m : Int)) = true := by simp; omega
                  obtain ⟨pb, po, hpe, hpb, c0, c1⟩ := hSx.m0 (i := j) (by rw [HM.out]; exact hjm)
                  have hne := HN.out j hjm
                  obtain ⟨ja, hja⟩ : ∃ ja, (hh hs j).1 = ja := ⟨_, rfl⟩
                  obtain ⟨jg, hjg⟩ : ∃ jg, (hh hs j).2 = jg := ⟨_, rfl⟩
                  have hne2 : ¬ (ja = ha ∧ jg = hgn) := fun h => hne (Prod.ext (hja.trans h.1) (hjg.trans h.2))
                  rw [hja] at c0
                  rw [hjg] at c1
                  clear hne hja hjg
                  subst hpe
                  by_cases ha1 : ja = ha
                  · have y1 : (ja == ha) = true := by simpa using ha1
                    have y2 : decide (ja = ha) = true := by simpa using ha1
                    have hg1 : ¬ jg = hgn := fun h => hne2 ⟨ha1, h⟩
                    have y3 : (jg == hgn) = false := by simpa using hg1
                    have y4 : decide (jg = hgn) = false := by simpa using hg1
                    clear hne2 ha1 hg1
                    go_wp2_with (go_quiet (fail))
                    have bd := below_drewN (n := nq) hbx
                    go_roundw
                    case rel => exact ⟨j + 1, by omega, by go_num, bd⟩
                    case measure => simp [intOf]; omega
                  · have y1 : (ja == ha) = false := by simpa using ha1
                    have y2 : decide (ja = ha) = false := by simpa using ha1
                    clear hne2 ha1
                    go_wp2_with (go_quiet (fail))
                    have bd := below_drewN (n := nq) hbx
                    go_roundw
                    case rel => exact ⟨j + 1, by omega, by go_num, bd⟩
                    case measure => simp [intOf]; omega
                · have dj : decide ((j : Int) < (m : Int)) = false := by simp; omega
                  have hm60 : m ≤ 60 := by omega
                  go_wp2_with (first
                    | (at_builtin; refine wpList_app tI _ rfl _ _ rfl H0 r e ks m (hI.lk.trans HM.out) rfl (own_below hS6.ok (bel_self _ _)) _ _ [kk] 1 rfl rfl (rd_block (heap_alloc_new _ _) 1 rfl rfl) (by omega) (Nat.le_trans hS6.le (bel_self _ _).size) (m + 1) rfl ?_; intro p7 c7 w7 o7 b7 g7; have hS7 := (hS6.below (bel_self w6 (.cells #[.int .i64 kk] 3))).kind o7 g7 b7 hwH; have hN7 := (hN6.below (bel_self w6 (.cells #[.int .i64 kk] 3))).kind (hS6.below (bel_self w6 (.cells #[.int .i64 kk] 3))) g7 b7; obtain ⟨e0, e1, e2⟩ := hN7.x.at)
                    | (at_builtin; refine wpList_app tB _ rfl _ _ rfl H0 q d bs m (hI.lb.trans HM.out) rfl (own_below hS5.ob (bel_self _ _)) _ _ [true] 1 rfl rfl (rd_block (heap_alloc_new _ _) 1 rfl rfl) (by omega) (Nat.le_trans hS5.le (bel_self _ _).size) (m + 1) rfl ?_; intro p6 c6 w6 o6 b6 g6; have hS6 := (hS5.below (bel_self w5 (.cells #[.bool true] 4))).had o6 g6 b6 hwH; have hN6 := (hN5.below (bel_self w5 (.cells #[.bool true] 4))).had (hS5.below (bel_self w5 (.cells #[.bool true] 4))) g6 b6)
                    | (at_builtin; refine wpList_app tH _ rfl _ _ rfl H0 p c hs m HM.out rfl (own_below hSx.oh (bel_self _ _)) _ _ [(ha, hgn)] 1 rfl rfl (rd_block (heap_alloc_new _ _) 1 rfl rfl) (by omega) (Nat.le_trans hSx.le (bel_self _ _).size) (m + 1) rfl ?_; intro p5 c5 w5 o5 b5 g5; have hS5 := (hSx.below (bel_self wr (.cells #[.int .i64 ha, .int .i64 hgn] 38))).hand o5 g5 b5 hwH; have hN5 := (hNx.below (bel_self wr (.cells #[.int .i64 ha, .int .i64 hgn] 38))).hand (hSx.below (bel_self wr (.cells #[.int .i64 ha, .int .i64 hgn] 38))) g5 b5)
                    | (refine wpList_stV (E := eTb) rfl 30 (.tmp 3) (.tmp 83) rfl size30 g _ hS7.v rfl z rfl rfl ?_; intro w9 L9 k9))
                  have hS9 := hS7.set hN7 hgo ow k9 L9 hgw hgH
                  go_meet
                  case rel => exact ⟨m + 1, p5, c5, p6, c6, p7, c7, z, mkR T kk, hs ++ [(ha, hgn)], bs ++ [true], ks ++ [kk], rfl, rfl, rfl, by rw [List.length_append, HM.out]; rfl, by omega, HI2.out, hS9⟩
            | false =>
              have HB : Hid (mkOk T kk = false) := hB
              have HI2 : Hid (Hi (n + 1) (mkR T kk) hs bs ks) := hI.no hB
              clear hB hha hhg
              go_wp2_with (first
                | (go_at_call 22; refine (make_n y T n _ trS hI.wf (by omega) kk false HB.out ha hgn HAG.out.1 HAG.out.2).mono ?_; rintro e9 w3 ⟨z, rfl, ⟨g1, xs, ow⟩, b3⟩; have s3 : Below w3.heap.size w3 ((w3.alloc (.cells #[.slice z.gp 12 z.gc, .slice z.ip 12 z.ic, .slice z.tp 12 z.tc] 30)).alloc (.cells #[.int .i64 ha, .int .i64 hgn] 38)) := (bel_self _ _).alloc (by simp) _; have b31 := bel_call b3 (Nat.le_refl _) s3; have hX1 : Vw ((w3.alloc (.cells #[.slice z.gp 12 z.gc, .slice z.ip 12 z.ic, .slice z.tp 12 z.tc] 30)).alloc (.cells #[.int .i64 ha, .int .i64 hgn] 38)) w3.heap.size z 30 := (Vw.new w3 z 30).below (bel_self _ _); have hS1 := hS.below b31; have hN1 := hS.nx hX1 ((Kept.refl wo.heap.size w3).below s3) (Nat.le_refl _); clear e0 e1 e2; obtain ⟨e0, e1, e2⟩ := hX1.at)
                | (refine wpList_stV (E := eTb) rfl 30 (.tmp 3) (.tmp 83) rfl size30 g _ hS1.v rfl z rfl rfl ?_; intro w9 L9 k9))
              have hS9 := hS1.set hN1 hS.v.lt ow k9 L9 hgw hgH
              go_meet
              case rel => exact ⟨m, p, c, q, d, r, e, z, mkR T kk, hs, bs, ks, rfl, rfl, rfl, HM.out, by omega, HI2.out, hS9⟩
          · have x1 : ((u : Int) % 2 == 0) = false := by simp; omega
            clear hA
            by_cases hm0 : m = 0
            · have x2 : ((m : Int) == 0) = true := by simp; omega
              clear hm0
              obtain ⟨kk, hkk⟩ : ∃ kk, 2 + (v : Int) % 2 = kk := ⟨_, rfl⟩
              have hk2 : kk = 2 ∨ kk = 3 := by omega
              have HK2 : Hid (kk = 2 ∨ kk = 3) := hk2
              clear hk2
              obtain ⟨ha, hha⟩ : ∃ ha, mkA T kk = ha := ⟨_, rfl⟩
              obtain ⟨hgn, hhg⟩ : ∃ hgn, mkG T kk = hgn := ⟨_, rfl⟩
              have HAG : Hid (mkA T kk = ha ∧ mkG T kk = hgn) := ⟨hha, hhg⟩
              obtain ⟨e0, e1, e2⟩ := hS.v.at
              have trS := hS.tr
              cases hB : mkOk T kk with
              | true =>
                have HB : Hid (mkOk T kk = true) := hB
                have HN : Hid (∀ i, i < m → hh hs i ≠ (ha, hgn)) := fun i hi => by have h := hI.new hB (i := i) (by rw [HM.out]; exact hi); rwa [hha, hhg] at h
                have HI2 : Hid (Hi (n + 1) (mkR T kk) (hs ++ [(ha, hgn)]) (bs ++ [true]) (ks ++ [kk])) := by have h := hI.make HK2.out hB; rw [hha, hhg] at h; exact h
                clear hB hha hhg
                go_wp2_with (go_at_call 22; refine (make_n y T n _ trS hI.wf (by omega) kk true HB.out ha hgn HAG.out.1 HAG.out.2).mono ?_; rintro e9 w3 ⟨z, rfl, ⟨g1, xs, ow⟩, b3⟩)
                have s3 : Below w3.heap.size w3 ((w3.alloc (.cells #[.slice z.gp 12 z.gc, .slice z.ip 12 z.ic, .slice z.tp 12 z.tc] 30)).alloc (.cells #[.int .i64 ha, .int .i64 hgn] 38)) := (bel_self _ _).alloc (by simp) _
                have b31 := bel_call b3 (Nat.le_refl _) s3
                have hX1 : Vw ((w3.alloc (.cells #[.slice z.gp 12 z.gc, .slice z.ip 12 z.ic, .slice z.tp 12 z.tc] 30)).alloc (.cells #[.int .i64 ha, .int .i64 hgn] 38)) w3.heap.size z 30 := (Vw.new w3 z 30).below (bel_self _ _)
                have hH1 : Lv ((w3.alloc (.cells #[.slice z.gp 12 z.gc, .slice z.ip 12 z.ic, .slice z.tp 12 z.tc] 30)).alloc (.cells #[.int .i64 ha, .int .i64 hgn] 38)) (w3.heap.size + 1) #[.int .i64 ha, .int .i64 hgn] 38 := heap_at (by simp)
                have hS1 := hS.below b31
                have hN1 := hS.nx hX1 ((Kept.refl wo.heap.size w3).below s3) (Nat.le_refl _)
                have hgo : g < wo.heap.size := hS.v.lt
                obtain ⟨W1, hW1⟩ : ∃ W1, W1 = ((w3.alloc (.cells #[.slice z.gp 12 z.gc, .slice z.ip 12 z.ic, .slice z.tp 12 z.tc] 30)).alloc (.cells #[.int .i64 ha, .int .i64 hgn] 38)) := ⟨_, rfl⟩
                rw [← hW1] at hX1 hH1 hS1 hN1 ⊢
                clear hW1 s3 b31 b3 e0 e1 e2 trS f0 f1 hX1
                go_loopw [12] (fun i wx => ∃ j : Nat, j ≤ m ∧ i = .int .i64 j ∧ Below W1.heap.size W1 wx) (fun i _ => m - (intOf i).toNat)
                case atStart => exact ⟨0, Nat.zero_le _, rfl, Below.refl _ _⟩
                case round =>
                  obtain ⟨j, hj, rfl, hbx⟩ := hrel
                  have hSx := hS1.below hbx
                  have hHx := hH1.below hbx
                  have hNx := hN1.below hbx
                  have h0 := hHx.c 0 rfl
                  have h1 := hHx.c 1 rfl
                  by_cases hjm : j < m
                  · have hjI : (j : Int) < (m : Int) := by omega
                    have hjZ : (0 : Int) ≤ (j : Int) := by omega
                    have dj : decide ((j : Int) < (m : Int)) = true := by simp; omega
                    obtain ⟨pb, po, hpe, hpb, c0, c1⟩ := hSx.m0 (i := j) (by rw [HM.out]; exact hjm)
                    have hne := HN.out j hjm
                    obtain ⟨ja, hja⟩ : ∃ ja, (hh hs j).1 = ja := ⟨_, rfl⟩
                    obtain ⟨jg, hjg⟩ : ∃ jg, (hh hs j).2 = jg := ⟨_, rfl⟩
                    have hne2 : ¬ (ja = ha ∧ jg = hgn) := fun h => hne (Prod.ext (hja.trans h.1) (hjg.trans h.2))
                    rw [hja] at c0
                    rw [hjg] at c1
                    clear hne hja hjg
                    subst hpe
                    by_cases ha1 : ja = ha
                    · have y1 : (ja == ha) = true := by simpa using ha1
                      have y2 : decide (ja = ha) = true := by simpa using ha1
                      have hg1 : ¬ jg = hgn := fun h => hne2 ⟨ha1, h⟩
                      have y3 : (jg == hgn) = false := by simpa using hg1
                      have y4 : decide (jg = hgn) = false := by simpa using hg1
                      clear hne2 ha1 hg1
                      go_wp2_with (go_quiet (fail))
                      have bd := below_drewN (n := nq) hbx
                      go_roundw
                      case rel => exact ⟨j + 1, by omega, by go_num, bd⟩
                      case measure => simp [intOf]; omega
                    · have y1 : (ja == ha) = false := by simpa using ha1
                      have y2 : decide (ja = ha) = false := by simpa using ha1
                      clear hne2 ha1
                      go_wp2_with (go_quiet (fail))
                      have bd := below_drewN (n := nq) hbx
                      go_roundw
                      case rel => exact ⟨j + 1, by omega, by go_num, bd⟩
                      case measure => simp [intOf]; omega
                  · have dj : decide ((j : Int) < (m : Int)) = false := by simp; omega
                    have hm60 : m ≤ 60 := by omega
                    go_wp2_with (first
                      | (at_builtin; refine wpList_app tI _ rfl _ _ rfl H0 r e ks m (hI.lk.trans HM.out) rfl (own_below hS6.ok (bel_self _ _)) _ _ [kk] 1 rfl rfl (rd_block (heap_alloc_new _ _) 1 rfl rfl) (by omega) (Nat.le_trans hS6.le (bel_self _ _).size) (m + 1) rfl ?_; intro p7 c7 w7 o7 b7 g7; have hS7 := (hS6.below (bel_self w6 (.cells #[.int .i64 kk] 3))).kind o7 g7 b7 hwH; have hN7 := (hN6.below (bel_self w6 (.cells #[.int .i64 kk] 3))).kind (hS6.below (bel_self w6 (.cells #[.int .i64 kk] 3))) g7 b7; obtain ⟨e0, e1, e2⟩ := hN7.x.at)
                      | (at_builtin; refine wpList_app tB _ rfl _ _ rfl H0 q d bs m (hI.lb.trans HM.out) rfl (own_below hS5.ob (bel_self _ _)) _ _ [true] 1 rfl rfl (rd_block (heap_alloc_new _ _) 1 rfl rfl) (by omega) (Nat.le_trans hS5.le (bel_self _ _).size) (m + 1) rfl ?_; intro p6 c6 w6 o6 b6 g6; have hS6 := (hS5.below (bel_self w5 (.cells #[.bool true] 4))).had o6 g6 b6 hwH; have hN6 := (hN5.below (bel_self w5 (.cells #[.bool true] 4))).had (hS5.below (bel_self w5 (.cells #[.bool true] 4))) g6 b6)
                      | (at_builtin; refine wpList_app tH _ rfl _ _ rfl H0 p c hs m HM.out rfl (own_below hSx.oh (bel_self _ _)) _ _ [(ha, hgn)] 1 rfl rfl (rd_block (heap_alloc_new _ _) 1 rfl rfl) (by omega) (Nat.le_trans hSx.le (bel_self _ _).size) (m + 1) rfl ?_; intro p5 c5 w5 o5 b5 g5; have hS5 := (hSx.below (bel_self wr (.cells #[.int .i64 ha, .int .i64 hgn] 38))).hand o5 g5 b5 hwH; have hN5 := (hNx.below (bel_self wr (.cells #[.int .i64 ha, .int .i64 hgn] 38))).hand (hSx.below (bel_self wr (.cells #[.int .i64 ha, .int .i64 hgn] 38))) g5 b5)
                      | (refine wpList_stV (E := eTb) rfl 30 (.tmp 3) (.tmp 83) rfl size30 g _ hS7.v rfl z rfl rfl ?_; intro w9 L9 k9))
                    have hS9 := hS7.set hN7 hgo ow k9 L9 hgw hgH
                    go_meet
                    case rel => exact ⟨m + 1, p5, c5, p6, c6, p7, c7, z, mkR T kk, hs ++ [(ha, hgn)], bs ++ [true], ks ++ [kk], rfl, rfl, rfl, by rw [List.length_append, HM.out]; rfl, by omega, HI2.out, hS9⟩
              | false =>
                have HB : Hid (mkOk T kk = false) := hB
                have HI2 : Hid (Hi (n + 1) (mkR T kk) hs bs ks) := hI.no hB
                clear hB hha hhg
                go_wp2_with (first
                  | (go_at_call 22; refine (make_n y T n _ trS hI.wf (by omega) kk false HB.out ha hgn HAG.out.1 HAG.out.2).mono ?_; rintro e9 w3 ⟨z, rfl, ⟨g1, xs, ow⟩, b3⟩; have s3 : Below w3.heap.size w3 ((w3.alloc (.cells #[.slice z.gp 12 z.gc, .slice z.ip 12 z.ic, .slice z.tp 12 z.tc] 30)).alloc (.cells #[.int .i64 ha, .int .i64 hgn] 38)) := (bel_self _ _).alloc (by simp) _; have b31 := bel_call b3 (Nat.le_refl _) s3; have hX1 : Vw ((w3.alloc (.cells #[.slice z.gp 12 z.gc, .slice z.ip 12 z.ic, .slice z.tp 12 z.tc] 30)).alloc (.cells #[.int .i64 ha, .int .i64 hgn] 38)) w3.heap.size z 30 := (Vw.new w3 z 30).below (bel_self _ _); have hS1 := hS.below b31; have hN1 := hS.nx hX1 ((Kept.refl wo.heap.size w3).below s3) (Nat.le_refl _); clear e0 e1 e2; obtain ⟨e0, e1, e2⟩ := hX1.at)
                  | (refine wpList_stV (E := eTb) rfl 30 (.tmp 3) (.tmp 83) rfl size30 g _ hS1.v rfl z rfl rfl ?_; intro w9 L9 k9))
                have hS9 := hS1.set hN1 hS.v.lt ow k9 L9 hgw hgH
                go_meet
                case rel => exact ⟨m, p, c, q, d, r, e, z, mkR T kk, hs, bs, ks, rfl, rfl, rfl, HM.out, by omega, HI2.out, hS9⟩
            · have x2 : ((m : Int) == 0) = false := by simp; omega
              have hmp : 0 < m := by omega
              have hmI : (0 : Int) < (m : Int) := by omega
              have hmz : ¬ (m : Int) = 0 := by omega
              clear hm0
              obtain ⟨κ, hκ⟩ : ∃ κ : Nat, (v : Int) % (m : Int) = κ := ⟨((v : Int) % (m : Int)).toNat, by have := Int.emod_nonneg (v : Int) hmz; omega⟩
              have hκm : κ < m := by have := Int.emod_lt_of_pos (v : Int) hmI; omega
              have hκt : (v : Int).tmod (m : Int) = κ := by rw [Int.tmod_eq_emod_of_nonneg (by omega)]; exact hκ
              have hκI : (κ : Int) < (m : Int) := by omega
              have hκZ : (0 : Int) ≤ (κ : Int) := by omega
              have hκh : κ < hs.length := by rw [HM.out]; exact hκm
              have hκb : κ < bs.length := by rw [hI.lb]; exact hκh
              obtain ⟨pb, po, hpe, hpb, c0, c1⟩ := hS.m0 (i := κ) hκh
              obtain ⟨qb, hqe, hqb, c2⟩ := hS.m1 (i := κ) hκb
              have hok := hI.dropOk hκh
              have hdr := hI.drop hκh
              have hwf := hI.wf64 (by omega) hκh
              obtain ⟨ka, hka⟩ : ∃ ka, (hh hs κ).1 = ka := ⟨_, rfl⟩
              obtain ⟨kg, hkg⟩ : ∃ kg, (hh hs κ).2 = kg := ⟨_, rfl⟩
              obtain ⟨bb, hbb⟩ : ∃ bb, bs.getD κ false = bb := ⟨_, rfl⟩
              rw [hka, hkg] at hdr hok hwf
              rw [hbb] at hok
              rw [hka] at c0
              rw [hkg] at c1
              rw [hbb] at c2
              obtain ⟨nW, hnW⟩ : ∃ nW, (drW T ka kg).length = nW := ⟨_, rfl⟩
              have HNW : Hid ((drW T ka kg).length = nW) := hnW
              have HDK : Hid (drOk T ka kg = bb) := hok
              have HDR : Hid (Hi (n + 1) (drR T ka kg) hs (bs.set κ false) ks) := hdr
              have HWF : Hid ((Lit.int .i64 ka).wf = true ∧ (Lit.int .i64 kg).wf = true) := hwf
              have z1 : (bb != bb) = false := by cases bb <;> rfl
              have z2 : (bb == bb) = true := by cases bb <;> rfl
              clear hok hdr hwf hka hkg hbb hnW hκh
              subst hpe hqe
              go_upto_region 24 with fail
              clear f0 f1 hκ hκt x1 x2
              go_cut [14, 15, 16] from 93 to 102 (fun a1 a2 a3 wx => ∃ (gx : Nat) (z : Tw) (w3 : World) (g1 : Nat) (xs : List Tc) (pw : Option Addr) (cw nW B0 : Nat), a1 = .pointer (some ⟨gx, 0, none⟩) ∧ a2 = .slice pw nW cw ∧ a3 = .bool bb ∧ Ow w3 B0 g1 z xs (drR T ka kg) ∧ wo.heap.size ≤ B0 ∧ Kept B0 w3 wx ∧ Lv wx gx (eTb.enc z).toArray 30 ∧ Below wo.heap.size wo wx ∧ wo.heap.size ≤ gx)
              case first =>
                obtain ⟨W1, hW1⟩ : ∃ W1, W1 = wo := ⟨_, rfl⟩
                subst hW1
                refine wp_region_held_drew (S := fun w' => Below W1.heap.size W1 w') (by kernel_rfl) (Below.refl _ _).drew (fun hHeld => ?_)
                have bel : Below W1.heap.size W1 W1.drew := (Below.refl _ _).drew
                generalize W1.drew = wd at *
                refine wpAnyH_take (i := 0) (oi := _) (v := ?_) rfl (by kernel_rfl) (by kernel_rfl) (by kernel_rfl) (fun _ _ _ h => h) (Or.inl ⟨by rfl, ?_⟩) hHeld ?_
                rotate_left
                · intro w' hSw
                  obtain ⟨e0, e1, e2⟩ := (hS.v.below hSw).at
                  (go_simp <;> with_reducible rfl)
                try simp only [Act.put, List.getElem_toArray, List.getElem_cons_zero, List.setIfInBounds_toArray, List.set_cons_zero, List.set_cons_succ]
                refine wpAnyH_take (i := 1) (oi := _) (v := ?_) rfl (by kernel_rfl) (by kernel_rfl) (by kernel_rfl) (fun _ _ _ h => h) (Or.inl ⟨by rfl, ?_⟩) hHeld ?_
                rotate_left
                · intro w' hSw
                  (go_simp <;> with_reducible rfl)
                try simp only [Act.put, List.getElem_toArray, List.getElem_cons_succ, List.getElem_cons_zero, List.setIfInBounds_toArray, List.set_cons_zero, List.set_cons_succ]
                refine wpAnyH_take (i := 2) (oi := _) (v := ?_) rfl (by kernel_rfl) (by kernel_rfl) (by kernel_rfl) (fun _ _ _ h => h) (Or.inl ⟨by rfl, ?_⟩) hHeld ?_
                rotate_left
                · intro w' hSw
                  (go_simp <;> with_reducible rfl)
                try simp only [Act.put, List.getElem_toArray, List.getElem_cons_succ, List.getElem_cons_zero, List.setIfInBounds_toArray, List.set_cons_zero, List.set_cons_succ]
                refine wpAnyH_take (i := 3) (oi := _) (v := ?_) rfl (by kernel_rfl) (by kernel_rfl) (by kernel_rfl) (fun _ _ _ h => h) (Or.inl ⟨by rfl, ?_⟩) hHeld ?_
                rotate_left
                · intro w' hSw
                  (go_simp <;> with_reducible rfl)
                try simp only [Act.put, List.getElem_toArray, List.getElem_cons_succ, List.getElem_cons_zero, List.setIfInBounds_toArray, List.set_cons_zero, List.set_cons_succ]
                refine wpAnyH_take (i := 4) (oi := _) (v := ?_) rfl (by kernel_rfl) (by kernel_rfl) (by kernel_rfl) (fun _ _ _ h => h) (Or.inl ⟨by rfl, ?_⟩) hHeld ?_
                rotate_left
                · intro w' hSw
                  have c0 : w'.cell? ⟨pb, po + κ * 2, none⟩ = some (.int .i64 ka) := (hSw.cell (p := ⟨pb, po + κ * 2, none⟩) hpb).trans c0
                  have c1 : w'.cell? ⟨pb, po + κ * 2 + 1, none⟩ = some (.int .i64 kg) := (hSw.cell (p := ⟨pb, po + κ * 2 + 1, none⟩) hpb).trans c1
                  (go_simp <;> with_reducible rfl)
                try simp only [Act.put, List.getElem_toArray, List.getElem_cons_succ, List.getElem_cons_zero, List.setIfInBounds_toArray, List.set_cons_zero, List.set_cons_succ]
                refine wpAnyH_ready (rs := [5, 10]) (by kernel_rfl) (by simp) ?_
                refine AllReadyH.cons (o := _) rfl (fun K hK => ?_) (AllReadyH.cons (o := _) rfl (fun K hK => ?_) (AllReadyH.nil))
                · go_simp
                  have hB0 : W1.heap.size ≤ wd.heap.size := bel.size
                  go_at_call 11; refine (drop_n y T n _ (hS.tr.below bel) hI.wf (by omega) ka kg HWF.out.1 HWF.out.2 bb HDK.out nW HNW.out).mono ?_
                  rintro e9 w3 ⟨z, pw, cw, rfl, ⟨gl, xs, ow⟩, _, b3⟩
                  have bel := bel_call bel (Nat.le_refl _) b3
                  have M : Kept wd.heap.size w3 w3 := Kept.refl _ _
                  refine hK.out _ _ bel (fun hHeld => ?_)
                  clear hK K
                  try simp only [Act.put, List.getElem_toArray, List.getElem_cons_succ, List.getElem_cons_zero, List.setIfInBounds_toArray, List.set_cons_zero, List.set_cons_succ]
                  refine wpAnyH_take (i := 6) (oi := _) (v := ?_) rfl (by kernel_rfl) (by kernel_rfl) (by kernel_rfl) (fun _ _ _ h => h) (Or.inl ⟨by rfl, ?_⟩) hHeld ?_
                  rotate_left
                  · intro w' hSw
                    (go_simp <;> with_reducible rfl)
                  try simp only [Act.put, List.getElem_toArray, List.getElem_cons_succ, List.getElem_cons_zero, List.setIfInBounds_toArray, List.set_cons_zero, List.set_cons_succ]
                  refine wpAnyH_take (i := 7) (oi := _) (v := ?_) rfl (by kernel_rfl) (by kernel_rfl) (by kernel_rfl) (fun _ _ _ h => h) (Or.inl ⟨by rfl, ?_⟩) hHeld ?_
                  rotate_left
                  · intro w' hSw
                    (go_simp <;> with_reducible rfl)
                  try simp only [Act.put, List.getElem_toArray, List.getElem_cons_succ, List.getElem_cons_zero, List.setIfInBounds_toArray, List.set_cons_zero, List.set_cons_succ]
                  refine wpAnyH_take (i := 8) (oi := _) (v := ?_) rfl (by kernel_rfl) (by kernel_rfl) (by kernel_rfl) (fun _ _ _ h => h) (Or.inl ⟨by rfl, ?_⟩) hHeld ?_
                  rotate_left
                  · intro w' hSw
                    (go_simp <;> with_reducible rfl)
                  try simp only [Act.put, List.getElem_toArray, List.getElem_cons_succ, List.getElem_cons_zero, List.setIfInBounds_toArray, List.set_cons_zero, List.set_cons_succ]
                  refine wpAnyH_take (i := 9) (oi := _) (v := ?_) rfl (by kernel_rfl) (by kernel_rfl) (by kernel_rfl) (fun _ _ _ h => h) (Or.inl ⟨by rfl, ?_⟩) hHeld ?_
                  rotate_left
                  · intro w' hSw
                    (go_simp <;> with_reducible rfl)
                  try simp only [Act.put, List.getElem_toArray, List.getElem_cons_succ, List.getElem_cons_zero, List.setIfInBounds_toArray, List.set_cons_zero, List.set_cons_succ]
                  refine wpAnyH_ready (rs := [10]) (by kernel_rfl) (by simp) ?_
                  refine AllReadyH.cons (o := _) rfl (fun K hK => ?_) (AllReadyH.nil)
                  go_simp
                  have ba := bel_self w3 (.cells #[.slice none 0 0, .slice none 0 0, .slice none 0 0] 30)
                  have LX : Lv (w3.alloc (.cells #[.slice none 0 0, .slice none 0 0, .slice none 0 0] 30)) w3.heap.size #[.slice none 0 0, .slice none 0 0, .slice none 0 0] 30 := Lv.new _ _ _
                  have hms := M.size
                  have M := M.below ba
                  have hX0 : W1.heap.size ≤ w3.heap.size := bel.size
                  have bel := bel_call bel (Nat.le_refl _) ba
                  refine hK.out _ _ bel (fun hHeld => ?_)
                  clear hK K
                  obtain ⟨gx, hg⟩ : ∃ g, g = w3.heap.size := ⟨_, rfl⟩
                  have hXc : gx < wd.heap.size ∨ w3.heap.size ≤ gx := Or.inr (by rw [hg]; exact hms)
                  clear hms
                  rw [← hg] at LX hX0
                  try simp only [← hg]
                  clear hg ba
                  generalize w3.alloc (.cells #[.slice none 0 0, .slice none 0 0, .slice none 0 0] 30) = waX at *
                  try simp only [Act.put, List.getElem_toArray, List.getElem_cons_succ, List.getElem_cons_zero, List.setIfInBounds_toArray, List.set_cons_zero, List.set_cons_succ]
                  refine wpAnyH_ready (rs := [11]) (by kernel_rfl) (by simp) ?_
                  refine AllReadyH.cons (o := _) rfl (fun K hK => ?_) (AllReadyH.nil)
                  refine step_stV (E := eTb) rfl 30 _ _ rfl size30 gx _ LX rfl z rfl rfl ?_
                  intro wsX LX2 k9
                  have LX := LX2
                  clear LX2
                  have M := M.kp k9 hXc
                  have bel := bel_kp bel k9 hX0 bel.size
                  refine hK.out _ _ bel (fun hHeld => ?_)
                  clear hK K
                  clear k9
                  try simp only [Act.put, List.getElem_toArray, List.getElem_cons_succ, List.getElem_cons_zero]
                  refine wpAnyH_take (i := 12) (oi := _) (v := ?_) rfl (by kernel_rfl) (by kernel_rfl) (by kernel_rfl) (fun _ _ _ h => h) (Or.inl ⟨by rfl, ?_⟩) hHeld ?_
                  rotate_left
                  · intro w' hSw
                    (go_simp <;> with_reducible rfl)
                  try simp only [Act.put, List.getElem_toArray, List.getElem_cons_succ, List.getElem_cons_zero, List.setIfInBounds_toArray, List.set_cons_zero, List.set_cons_succ]
                  refine wpAnyH_take (i := 13) (oi := _) (v := ?_) rfl (by kernel_rfl) (by kernel_rfl) (by kernel_rfl) (fun _ _ _ h => h) (Or.inl ⟨by rfl, ?_⟩) hHeld ?_
                  rotate_left
                  · intro w' hSw
                    (go_simp <;> with_reducible rfl)
                  try simp only [Act.put, List.getElem_toArray, List.getElem_cons_succ, List.getElem_cons_zero, List.setIfInBounds_toArray, List.set_cons_zero, List.set_cons_succ]
                  refine wpAnyH_done (by kernel_rfl) ?_ _
                  go_wp2_with fail
                  go_meet
                  case rel => exact ⟨gx, z, w3, gl, xs, pw, cw, nW, _, rfl, rfl, rfl, ow, hB0, M, LX, bel, hX0⟩
                · go_simp
                  have ba := bel_self wd (.cells #[.slice none 0 0, .slice none 0 0, .slice none 0 0] 30)
                  have LX : Lv (wd.alloc (.cells #[.slice none 0 0, .slice none 0 0, .slice none 0 0] 30)) wd.heap.size #[.slice none 0 0, .slice none 0 0, .slice none 0 0] 30 := Lv.new _ _ _
                  have hX0 : W1.heap.size ≤ wd.heap.size := bel.size
                  have bel := bel_call bel (Nat.le_refl _) ba
                  refine hK.out _ _ bel (fun hHeld => ?_)
                  clear hK K
                  obtain ⟨gx, hg⟩ : ∃ g, g = wd.heap.size := ⟨_, rfl⟩
                  rw [← hg] at LX hX0
                  try simp only [← hg]
                  clear hg ba
                  generalize wd.alloc (.cells #[.slice none 0 0, .slice none 0 0, .slice none 0 0] 30) = waX at *
                  try simp only [Act.put, List.getElem_toArray, List.getElem_cons_succ, List.getElem_cons_zero, List.setIfInBounds_toArray, List.set_cons_zero, List.set_cons_succ]
                  refine wpAnyH_ready (rs := [5]) (by kernel_rfl) (by simp) ?_
                  refine AllReadyH.cons (o := _) rfl (fun K hK => ?_) (AllReadyH.nil)
                  go_simp
                  have hB0 : W1.heap.size ≤ waX.heap.size := bel.size
                  go_at_call 11; refine (drop_n y T n _ (hS.tr.below bel) hI.wf (by omega) ka kg HWF.out.1 HWF.out.2 bb HDK.out nW HNW.out).mono ?_
                  rintro e9 w3 ⟨z, pw, cw, rfl, ⟨gl, xs, ow⟩, _, b3⟩
                  have hXc : gx < waX.heap.size ∨ w3.heap.size ≤ gx := Or.inl LX.lt
                  have LX := LX.below b3
                  have bel := bel_call bel (Nat.le_refl _) b3
                  have M : Kept waX.heap.size w3 w3 := Kept.refl _ _
                  refine hK.out _ _ bel (fun hHeld => ?_)
                  clear hK K
                  try simp only [Act.put, List.getElem_toArray, List.getElem_cons_succ, List.getElem_cons_zero, List.setIfInBounds_toArray, List.set_cons_zero, List.set_cons_succ]
                  refine wpAnyH_take (i := 6) (oi := _) (v := ?_) rfl (by kernel_rfl) (by kernel_rfl) (by kernel_rfl) (fun _ _ _ h => h) (Or.inl ⟨by rfl, ?_⟩) hHeld ?_
                  rotate_left
                  · intro w' hSw
                    (go_simp <;> with_reducible rfl)
                  try simp only [Act.put, List.getElem_toArray, List.getElem_cons_succ, List.getElem_cons_zero, List.setIfInBounds_toArray, List.set_cons_zero, List.set_cons_succ]
                  refine wpAnyH_take (i := 7) (oi := _) (v := ?_) rfl (by kernel_rfl) (by kernel_rfl) (by kernel_rfl) (fun _ _ _ h => h) (Or.inl ⟨by rfl, ?_⟩) hHeld ?_
                  rotate_left
                  · intro w' hSw
                    (go_simp <;> with_reducible rfl)
                  try simp only [Act.put, List.getElem_toArray, List.getElem_cons_succ, List.getElem_cons_zero, List.setIfInBounds_toArray, List.set_cons_zero, List.set_cons_succ]
                  refine wpAnyH_take (i := 8) (oi := _) (v := ?_) rfl (by kernel_rfl) (by kernel_rfl) (by kernel_rfl) (fun _ _ _ h => h) (Or.inl ⟨by rfl, ?_⟩) hHeld ?_
                  rotate_left
                  · intro w' hSw
                    (go_simp <;> with_reducible rfl)
                  try simp only [Act.put, List.getElem_toArray, List.getElem_cons_succ, List.getElem_cons_zero, List.setIfInBounds_toArray, List.set_cons_zero, List.set_cons_succ]
                  refine wpAnyH_take (i := 9) (oi := _) (v := ?_) rfl (by kernel_rfl) (by kernel_rfl) (by kernel_rfl) (fun _ _ _ h => h) (Or.inl ⟨by rfl, ?_⟩) hHeld ?_
                  rotate_left
                  · intro w' hSw
                    (go_simp <;> with_reducible rfl)
                  try simp only [Act.put, List.getElem_toArray, List.getElem_cons_succ, List.getElem_cons_zero, List.setIfInBounds_toArray, List.set_cons_zero, List.set_cons_succ]
                  refine wpAnyH_ready (rs := [11]) (by kernel_rfl) (by simp) ?_
                  refine AllReadyH.cons (o := _) rfl (fun K hK => ?_) (AllReadyH.nil)
                  refine step_stV (E := eTb) rfl 30 _ _ rfl size30 gx _ LX rfl z rfl rfl ?_
                  intro wsX LX2 k9
                  have LX := LX2
                  clear LX2
                  have M := M.kp k9 hXc
                  have bel := bel_kp bel k9 hX0 bel.size
                  refine hK.out _ _ bel (fun hHeld => ?_)
                  clear hK K
                  clear k9
                  try simp only [Act.put, List.getElem_toArray, List.getElem_cons_succ, List.getElem_cons_zero]
                  refine wpAnyH_take (i := 12) (oi := _) (v := ?_) rfl (by kernel_rfl) (by kernel_rfl) (by kernel_rfl) (fun _ _ _ h => h) (Or.inl ⟨by rfl, ?_⟩) hHeld ?_
                  rotate_left
                  · intro w' hSw
                    (go_simp <;> with_reducible rfl)
                  try simp only [Act.put, List.getElem_toArray, List.getElem_cons_succ, List.getElem_cons_zero, List.setIfInBounds_toArray, List.set_cons_zero, List.set_cons_succ]
                  refine wpAnyH_take (i := 13) (oi := _) (v := ?_) rfl (by kernel_rfl) (by kernel_rfl) (by kernel_rfl) (fun _ _ _ h => h) (Or.inl ⟨by rfl, ?_⟩) hHeld ?_
                  rotate_left
                  · intro w' hSw
                    (go_simp <;> with_reducible rfl)
                  try simp only [Act.put, List.getElem_toArray, List.getElem_cons_succ, List.getElem_cons_zero, List.setIfInBounds_toArray, List.set_cons_zero, List.set_cons_succ]
                  refine wpAnyH_done (by kernel_rfl) ?_ _
                  go_wp2_with fail
                  go_meet
                  case rel => exact ⟨gx, z, w3, gl, xs, pw, cw, nW, _, rfl, rfl, rfl, ow, hB0, M, LX, bel, hX0⟩
              case rest =>
                obtain ⟨gx, z, w3, g1, xs, pw, cw, nW2, B0, rfl, rfl, rfl, ow, hB0, hk3, LX, bz, hX0⟩ := hcut
                have hS1 := hS.below bz
                have hN1 := hS.nx (show Vw wc gx z 30 from LX) hk3 hB0
                have hgB : g < B0 := Nat.lt_of_lt_of_le hS.v.lt hB0
                have c2 := (bz.cell (p := ⟨qb, κ, none⟩) hqb).trans c2
                obtain ⟨e0, e1, e2⟩ := Vw.at (show Vw wc gx z 30 from LX)
                clear c0 c1 bz hk3
                go_wp2_with (refine wpList_stV (E := eTb) rfl 30 (.tmp 3) (.tmp 111) rfl size30 g _ hS1.v rfl z rfl rfl ?_; intro w9 L9 k9; have hS9 := hS1.set hN1 hgB ow k9 L9 hgw hgH; obtain ⟨hfz, hSo⟩ := hS9.off κ hwH; obtain ⟨qb2, hq2, _, c9⟩ := hS9.m1 (i := κ) hκb; cases hq2)
                go_meet
                case rel => exact ⟨m, some ⟨pb, po, none⟩, c, some ⟨qb, 0, none⟩, d, r, e, z, drR T ka kg, hs, bs.set κ false, ks, rfl, rfl, rfl, HM.out, by omega, HDR.out, hSo⟩
        case rest =>
          clear hI hS HM f0 f1 dn hmn
          obtain ⟨m, p, c, q, d, r, e, y, T, hs, bs, ks, rfl, rfl, rfl, hm, hmn, hI, hS⟩ := hcut
          have HM : Hid (hs.length = m) := hm
          clear hm
          refine hK2 _ _ ?_
          go_wp2
          go_loopw [17] (fun i wx => ∃ j : Nat, j ≤ m ∧ i = .int .i64 j ∧ Below wc.heap.size wc wx) (fun i _ => m - (intOf i).toNat)
          case atStart => exact ⟨0, Nat.zero_le _, rfl, Below.refl _ _⟩
          case round =>
            obtain ⟨j, hj, rfl, hbx⟩ := hrel
            have hSx := hS.below hbx
            by_cases hjm : j < m
            · have hjI : (j : Int) < (m : Int) := by omega
              have hjZ : (0 : Int) ≤ (j : Int) := by omega
              have dj : decide ((j : Int) < (m : Int)) = true := by simp; omega
              have hjh : j < hs.length := by rw [HM.out]; exact hjm
              have hjb : j < bs.length := by rw [hI.lb]; exact hjh
              have hjk : j < ks.length := by rw [hI.lk]; exact hjh
              obtain ⟨pb, po, hpe, hpb, c0, c1⟩ := hSx.m0 (i := j) hjh
              obtain ⟨qb, hqe, hqb, c2⟩ := hSx.m1 (i := j) hjb
              obtain ⟨rb, ro, hre, hrb, c3⟩ := hSx.m2 (i := j) hjk
              obtain ⟨ka, hk12, hka, _, _⟩ := hI.hd j hjh
              have hwf := hI.wf64 (by omega) hjh
              have hhs := hI.has j hjh
              have hfd := fun h => hI.find hjh h
              have hkd := fun h => hI.kd j hjh h
              obtain ⟨kg, hkg⟩ : ∃ kg, (hh hs j).2 = kg := ⟨_, rfl⟩
              obtain ⟨bb, hbb⟩ : ∃ bb, bs.getD j false = bb := ⟨_, rfl⟩
              obtain ⟨kk, hkk⟩ : ∃ kk, ks.getD j 0 = kk := ⟨_, rfl⟩
              rw [hka, hkg] at hfd hwf hhs
              rw [hka] at hkd c0
              rw [hkg] at c1
              rw [hbb] at c2 hhs hfd hkd
              rw [hkk] at c3 hkd
              obtain ⟨pf, hpf⟩ : ∃ pf, fnA T (ka : Int) kg = pf := ⟨_, rfl⟩
              rw [hpf] at hfd
              rw [Int.toNat_natCast] at hkd
              have HPF : Hid (fnA T (ka : Int) kg = pf) := hpf
              have HBB : Hid (Slo.hasM T.G T.I (ka : Int) kg = bb) := hhs.symm
              have HWF : Hid ((Lit.int .i64 (ka : Int)).wf = true ∧ (Lit.int .i64 kg).wf = true) := hwf
              obtain ⟨tb, tob, X, e3, htb, hX, hXo⟩ := hSx.tr.thing ka hk12
              obtain ⟨ygp, ygc, yip, yic, ytp, ytc⟩ := y
              dsimp only at e3
              subst e3 hpe hqe hre
              have hXk : bb = true → X.k = kk := fun h => by rw [hXo.k]; exact hkd h
              clear hkd hXo hhs hwf hpf hka hkg hbb hkk
              go_upto_region 31 with fail
              obtain ⟨W1, hW1⟩ : ∃ W1, W1 = wr := ⟨_, rfl⟩
              subst hW1
              refine wp_region_held_drew (S := fun w' => Below W1.heap.size W1 w') (by kernel_rfl) (Below.refl _ _).drew (fun hHeld => ?_)
              refine wpAnyH_take (i := 0) (oi := _) (v := ?_) rfl (by kernel_rfl) (by kernel_rfl) (by kernel_rfl) (fun _ _ _ h => h) (Or.inl ⟨by rfl, ?_⟩) hHeld ?_
              rotate_left
              · intro w' hSw
                obtain ⟨e0, e1, e2⟩ := (hSx.v.below hSw).at
                (go_simp <;> with_reducible rfl)
              try simp only [Act.put, List.getElem_toArray, List.getElem_cons_zero, List.setIfInBounds_toArray, List.set_cons_zero, List.set_cons_succ]
              refine wpAnyH_take (i := 1) (oi := _) (v := ?_) rfl (by kernel_rfl) (by kernel_rfl) (by kernel_rfl) (fun _ _ _ h => h) (Or.inl ⟨by rfl, ?_⟩) hHeld ?_
              rotate_left
              · intro w' hSw
                (go_simp <;> with_reducible rfl)
              try simp only [Act.put, List.getElem_toArray, List.getElem_cons_succ, List.getElem_cons_zero, List.setIfInBounds_toArray, List.set_cons_zero, List.set_cons_succ]
              refine wpAnyH_take (i := 2) (oi := _) (v := ?_) rfl (by kernel_rfl) (by kernel_rfl) (by kernel_rfl) (fun _ _ _ h => h) (Or.inl ⟨by rfl, ?_⟩) hHeld ?_
              rotate_left
              · intro w' hSw
                (go_simp <;> with_reducible rfl)
              try simp only [Act.put, List.getElem_toArray, List.getElem_cons_succ, List.getElem_cons_zero, List.setIfInBounds_toArray, List.set_cons_zero, List.set_cons_succ]
              refine wpAnyH_take (i := 3) (oi := _) (v := ?_) rfl (by kernel_rfl) (by kernel_rfl) (by kernel_rfl) (fun _ _ _ h => h) (Or.inl ⟨by rfl, ?_⟩) hHeld ?_
              rotate_left
              · intro w' hSw
                (go_simp <;> with_reducible rfl)
              try simp only [Act.put, List.getElem_toArray, List.getElem_cons_succ, List.getElem_cons_zero, List.setIfInBounds_toArray, List.set_cons_zero, List.set_cons_succ]
              refine wpAnyH_take (i := 4) (oi := _) (v := ?_) rfl (by kernel_rfl) (by kernel_rfl) (by kernel_rfl) (fun _ _ _ h => h) (Or.inl ⟨by rfl, ?_⟩) hHeld ?_
              rotate_left
              · intro w' hSw
                have c0 : w'.cell? ⟨pb, po + j * 2, none⟩ = some (.int .i64 (ka : Int)) := (hSw.cell (p := ⟨pb, po + j * 2, none⟩) hpb).trans c0
                have c1 : w'.cell? ⟨pb, po + j * 2 + 1, none⟩ = some (.int .i64 kg) := (hSw.cell (p := ⟨pb, po + j * 2 + 1, none⟩) hpb).trans c1
                (go_simp <;> with_reducible rfl)
              try simp only [Act.put, List.getElem_toArray, List.getElem_cons_succ, List.getElem_cons_zero, List.setIfInBounds_toArray, List.set_cons_zero, List.set_cons_succ]
              refine wpAnyH_ready (rs := [5]) (by kernel_rfl) (by simp) ?_
              refine AllReadyH.cons (o := _) rfl (fun K hK => ?_) AllReadyH.nil
              go_simp
              go_at_call 24; refine (find_any ⟨ygp, ygc, yip, yic, some ⟨tb, tob, none⟩, ytc⟩ T (n + 1) _ (hSx.tr.below hHeld) hI.wf (by omega) (ka : Int) kg HWF.out.1 HWF.out.2 pf HPF.out bb HBB.out).mono ?_
              rintro e9 w3 ⟨rfl, b3⟩
              have b3 := bel_call hHeld (Nat.le_refl _) b3
              refine hK.out _ _ b3 (fun _ => ?_)
              refine wpAnyH_weaken (S' := fun w' => Below w3.heap.size w3 w') (fun w' h => bel_call b3 (Nat.le_refl _) h) _ _ _ _ ?_
              clear hHeld hK K
              have hHeld : Below w3.heap.size w3 w3 := Below.refl _ _
              try simp only [Act.put, List.getElem_toArray, List.getElem_cons_succ, List.getElem_cons_zero, List.setIfInBounds_toArray, List.set_cons_zero, List.set_cons_succ]
              refine wpAnyH_take (i := 6) (oi := _) (v := ?_) rfl (by kernel_rfl) (by kernel_rfl) (by kernel_rfl) (fun _ _ _ h => h) (Or.inl ⟨by rfl, ?_⟩) hHeld ?_
              rotate_left
              · intro w' hSw
                (go_simp <;> with_reducible rfl)
              try simp only [Act.put, List.getElem_toArray, List.getElem_cons_succ, List.getElem_cons_zero, List.setIfInBounds_toArray, List.set_cons_zero, List.set_cons_succ]
              refine wpAnyH_take (i := 7) (oi := _) (v := ?_) rfl (by kernel_rfl) (by kernel_rfl) (by kernel_rfl) (fun _ _ _ h => h) (Or.inl ⟨by rfl, ?_⟩) hHeld ?_
              rotate_left
              · intro w' hSw
                (go_simp <;> with_reducible rfl)
              try simp only [Act.put, List.getElem_toArray, List.getElem_cons_succ, List.getElem_cons_zero, List.setIfInBounds_toArray, List.set_cons_zero, List.set_cons_succ]
              refine wpAnyH_take (i := 8) (oi := _) (v := ?_) rfl (by kernel_rfl) (by kernel_rfl) (by kernel_rfl) (fun _ _ _ h => h) (Or.inl ⟨by rfl, ?_⟩) hHeld ?_
              rotate_left
              · intro w' hSw
                (go_simp <;> with_reducible rfl)
              try simp only [Act.put, List.getElem_toArray, List.getElem_cons_succ, List.getElem_cons_zero, List.setIfInBounds_toArray, List.set_cons_zero, List.set_cons_succ]
              refine wpAnyH_take (i := 9) (oi := _) (v := ?_) rfl (by kernel_rfl) (by kernel_rfl) (by kernel_rfl) (fun _ _ _ h => h) (Or.inl ⟨by rfl, ?_⟩) hHeld ?_
              rotate_left
              · intro w' hSw
                (go_simp <;> with_reducible rfl)
              try simp only [Act.put, List.getElem_toArray, List.getElem_cons_succ, List.getElem_cons_zero, List.setIfInBounds_toArray, List.set_cons_zero, List.set_cons_succ]
              refine wpAnyH_take (i := 10) (oi := _) (v := ?_) rfl (by kernel_rfl) (by kernel_rfl) (by kernel_rfl) (fun _ _ _ h => h) (Or.inl ⟨by rfl, ?_⟩) hHeld ?_
              rotate_left
              · intro w' hSw
                (go_simp <;> with_reducible rfl)
              try simp only [Act.put, List.getElem_toArray, List.getElem_cons_succ, List.getElem_cons_zero, List.setIfInBounds_toArray, List.set_cons_zero, List.set_cons_succ]
              refine wpAnyH_done (by kernel_rfl) ?_ _
              have hSy := hSx.below b3
              have c0 := (b3.cell (p := ⟨pb, po + j * 2, none⟩) hpb).trans c0
              have c2 := (b3.cell (p := ⟨qb, j, none⟩) hqb).trans c2
              have c3 := (b3.cell (p := ⟨rb, ro + j, none⟩) hrb).trans c3
              obtain ⟨t0, t1, t2⟩ := hSy.v.at
              obtain ⟨f0, f1, f2, f3, f4, f5, f6, f7, f8, f9⟩ := hX.below b3 htb
              have bb3 := bel_call hbx (Nat.le_refl _) b3
              cases bb with
              | false =>
                clear hfd hXk
                go_wp2_with (go_quiet (fail))
                have bd := below_drewN (n := nq) bb3
                go_roundw
                case rel => exact ⟨j + 1, by omega, by go_num, bd⟩
                case measure => simp [intOf]; omega
              | true =>
                have hpk := hfd rfl
                subst hpk
                have hk1 := hXk rfl
                rw [hk1] at f0
                have y1 : ((ka : Int) == (ka : Int)) = true := beq_self_eq_true _
                have y3 : (kk == kk) = true := beq_self_eq_true _
                have y4 : decide ((ka : Int) < 0) = false := decide_eq_false (by omega)
                have y5 : decide ((ka : Int) ≥ 12) = false := decide_eq_false (by omega)
                have y6 : decide ((12 : Int) ≤ (ka : Int)) = false := decide_eq_false (by omega)
                have y7 : (ka : Int) < 12 := by omega
                have y8 : (0 : Int) ≤ (ka : Int) := by omega
                clear hfd hXk hk1 f1 f2 f3 f4 f5 f6 f7 f8 f9
                go_wp2_with (go_quiet (fail))
                have bd := below_drewN (n := nq) bb3
                go_roundw
                case rel => exact ⟨j + 1, by omega, by go_num, bd⟩
                case measure => simp [intOf]; omega
            · have dj : decide ((j : Int) < (m : Int)) = false := by simp; omega
              go_wp2
              go_roundw
              case rel => exact ⟨n + 1, by omega, by go_num, m, p, c, q, d, r, e, y, T, hs, bs, ks, rfl, rfl, rfl, HM.out, hmn, hI, hSx⟩
              case measure => simp [intOf]; omega
      · have hnn : n = ln := by omega
        subst hnn
        go_wp2
        go_ret
        exact ⟨rfl, hS.b⟩
  · have d60 : decide ((ln : Int) > 60) = true := by simp; omega
    go_enter Try.func6, Try.ntmps6
    go_wp2_with (go_at_call 8; refine (begun_any _).mono ?_; rintro e w1 ⟨rfl, b1⟩)
    go_ret
    exact ⟨rfl, b1⟩
end Go.Proofs.Ytcncpefdjgnhdaa
