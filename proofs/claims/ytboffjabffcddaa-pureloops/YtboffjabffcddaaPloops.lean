/-
  The law PureLoops, walked.
-/
import Derived.Test.YtboffjabffcddaaPrun
import Derived.Test.YtboffjabffcddaaMadez
import Derived.Test.YtboffjabffcddaaPmath
import Derived.WalkSpells
namespace Go.Proofs.Ytboffjabffcddaa
open Go.ChangeShapes Go.WideShapes Go.ChangeAt Go.RowKit
attribute [local go_sem ↓] Go.wp_at_zero Go.wp_at_succ

theorem ok_loop {b : List In} {n : Nat} {X : Int} (hb : Pn b) (hn : b.length = n) (h1 : 1 ≤ n) (h6 : n ≤ 6) (hX1 : 1 ≤ X) (hX3 : X ≤ 3) : okB ([(8, 0, (n : Int), X)] ++ b ++ [E0]) = true := by
  have hm : mayW (8, 0, (n : Int), X) = true := mw_of (by unfold mayP; simp; omega) (by intro _; exact hX3)
  exact gd_may (gd_head hb.gd0 hm (.inr rfl) (by show _ = b.length; rw [hn]; simp [rch, reachI])) (by simp; omega)
theorem ok_tm {b : List In} {n k : Nat} (hb : Pn b) (hn : b.length = n) (h6 : n ≤ 6) (hk : k ≤ 3) : okB (tm b k ++ [E0]) = true := by
  have hk6 : k * n ≤ 3 * 6 := Nat.mul_le_mul hk h6
  exact gd_may (gd_of0 (tm_pn hb k).gd0) (by rw [tm_len, hn]; omega)
theorem all_gtB {l : List In} (h : l.all mayW = true) {k : Nat} (hk : k < l.length) : mayB (gt l k) = true := by
  rw [gt_eq hk]
  exact mw_may (List.all_eq_true.1 h _ (List.getElem_mem hk))
set_option maxRecDepth 100000 in
set_option maxHeartbeats 8000000 in
theorem loops_walk (p : Option Addr) (c : Nat) (n : Nat) (zs : List Int) (w : World) (hp : Rd eBy w p c zs) (hn : zs.length = n) (hbz : ∀ x ∈ zs, 0 ≤ x ∧ x ≤ 255) (hm1 : n ≤ 9223372036854775807) (u : Int) (hu0 : 0 ≤ u) (x : Int) (hx0 : -9223372036854775808 ≤ x) (hx1 : x ≤ 9223372036854775807) :
    Calls Try.prog 7 #[.slice p n c, .int .u8 u, .int .i64 x] w fun e w' => e = .returned (.bool true) ∧ Below w.heap.size w w' := by
  have HN : Hid (zs.length = n) := hn
  clear hn
  by_cases c1 : 80 < n
  · have d1 : decide ((80 : Int) < (n : Int)) = true := by simp; omega
    go_enter Try.func7, Try.ntmps7
    go_wp2_with (go_at_call 9; refine (begun9 _).mono ?_; rintro e w1 ⟨rfl, hb1⟩)
    go_ret
    exact ⟨rfl, hb1⟩
  · have d1 : decide ((80 : Int) < (n : Int)) = false := by simp; omega
    have h1000 : n ≤ 1000 := by omega
    obtain ⟨X, hX⟩ : ∃ X : Int, u % 3 = X - 1 := ⟨u % 3 + 1, by omega⟩
    have hX1 : 1 ≤ X := by omega
    have hX2 : X ≤ 3 := by omega
    have eJ : u.tmod 3 = X - 1 := by rw [Int.tmod_eq_emod_of_nonneg hu0, hX]
    have e1 : 1 + (X - 1) = X := by omega
    clear hX
    obtain ⟨K, hK⟩ : ∃ K : Nat, (K : Int) = X := ⟨X.toNat, by omega⟩
    have hK1 : 1 ≤ K := by omega
    have hK3 : K ≤ 3 := by omega
    have HK : Hid ((K : Int) = X) := hK
    clear hK
    go_enter Try.func7, Try.ntmps7
    go_wp2_with (first
      | (go_at_call 9; refine (begun9 _).mono ?_; rintro e w1 ⟨rfl, hb1⟩; have hp1 := hp.below hb1)
      | (go_at_call 10; (with_reducible (refine (made_any p c zs _ n HN.out h1000 hp1 hbz).mono ?_)); rintro e w2 ⟨rfl, pk2, hb2, hs2⟩; have hB2 := bel_call hb1 (Nat.le_refl _) hb2)
      | (go_at_call 11; (with_reducible (refine (code_z w1.heap.size _ pk2).mono ?_)); (rintro e w3 ⟨p3, n3, c3, l3, rfl, ⟨o3, a3, e3, pk3, kp3⟩, g3, g3', k3⟩); have hB3 := hB2.trans (kp3.below (B := w.heap.size) (by have := hb1.size; omega) (by have := hB2.size; omega))
         have HE : Hid (l3.length = n3) := e3
         have HA : Hid (l3.all mayW = true) := a3
         have hr3 := own_rd o3
         clear e3 k3 a3))
    have hbs : w.heap.size ≤ w3.heap.size := hB3.size
    clear pk3 kp3 pk2 hb2 hs2 hB2 hp1 hb1 o3 eJ
    go_loopw [9, 10] (fun t i wr => ∃ (k : Nat) (p' : Option Addr) (n' c' : Nat) (b : List In), k ≤ n3 ∧ i = .int .i64 k ∧ t = .slice p' n' c' ∧ Own eIn wr w3.heap.size 34 p' c' b ∧ b.length = n' ∧ n' ≤ 6 ∧ Pn b ∧ Below w3.heap.size w3 wr) (fun _ i _ => n3 - (intOf i).toNat)
    case atStart => exact ⟨0, none, 0, 0, [], Nat.zero_le _, rfl, rfl, own_nil _ _ _, rfl, by omega, fun x hx => (by cases hx), Below.refl _ _⟩
    case round =>
      obtain ⟨k, p', n', c', b, hk, rfl, rfl, hO, hbl, hn6, hPn, hbw⟩ := hrel
      have HB : Hid (b.length = n') := hbl
      have HP : Hid (Pn b) := hPn
      have hz := hbw.size
      have hr3r := hr3.below hbw
      clear hbl hPn
      by_cases hgo : k < n3 ∧ n' < 6
      · obtain ⟨hlt, hn5⟩ := hgo
        have hkl : k < l3.length := by rw [HE.out]; exact hlt
        have dk : decide ((k : Int) < (n3 : Int)) = true := by simpa using hlt
        have dn : decide ((n' : Int) < 6) = true := decide_eq_true (by omega)
        obtain ⟨gb, go, rfl, hgb, f0, f1, f2, f3⟩ := hr3r.inst k hkl
        have hmy := all_gtB HA.out hkl
        rw [← gt_eq hkl] at f0 f1 f2 f3
        obtain ⟨⟨xo, xa, xb, xn⟩, hg⟩ : ∃ x, gt l3 k = x := ⟨_, rfl⟩
        rw [hg] at f0 f1 f2 f3 hmy
        simp only at f0 f1 f2 f3
        clear hg hr3 hr3r
        by_cases hop : 1 ≤ xo ∧ xo ≤ 6
        · have dx1 : decide ((1 : Int) ≤ xo) = true := decide_eq_true hop.1
          have dx2 : decide (xo ≤ (6 : Int)) = true := decide_eq_true hop.2
          have HX : Hid (plB (xo, xa, xb, xn) = true) := pl_of (may_iff.1 hmy) hop.1 hop.2
          clear hmy
          go_wp2_with (first
            | (at_builtin; (refine wpList_app tIn _ rfl _ _ rfl w3.heap.size p' c' b n' HB.out rfl (own_below hO ((Below.refl _ _).alloc (Nat.le_refl _) _)) _ _ [(xo, xa, xb, xn)] 1 rfl rfl (rd_one (heap_at (by first | rfl | simp))) (by omega) (by simp; omega) (n' + 1) rfl ?_); intro p6 c6 w6 ho6 hb6 hst6))
          go_roundw
          case rel => exact ⟨k + 1, p6, n' + 1, c6, _, by omega, by go_num, by go_num, ho6, by rw [List.length_append, HB.out]; rfl, by omega, HP.out.app (fun y hy => by obtain rfl := List.mem_singleton.1 hy; exact HX.out), (hbw.alloc hz _).trans hb6⟩
          case measure => simp [intOf]; omega
        · clear hmy
          by_cases h1 : 1 ≤ xo
          · have dx1 : decide ((1 : Int) ≤ xo) = true := decide_eq_true h1
            have dx2 : decide (xo ≤ (6 : Int)) = false := decide_eq_false (by omega)
            go_wp2
            go_roundw
            case rel => exact ⟨k + 1, p', n', c', b, by omega, by go_num, rfl, hO, HB.out, hn6, HP.out, hbw⟩
            case measure => simp [intOf]; omega
          · have dx1 : decide ((1 : Int) ≤ xo) = false := decide_eq_false h1
            go_wp2
            go_roundw
            case rel => exact ⟨k + 1, p', n', c', b, by omega, by go_num, rfl, hO, HB.out, hn6, HP.out, hbw⟩
            case measure => simp [intOf]; omega
      · have hBw : Below w.heap.size w wr := hB3.trans (hbw.mono hbs)
        have hzr : w.heap.size ≤ wr.heap.size := hBw.size
        clear hr3 hr3r hB3 HA HE
        have hdd : (decide ((k : Int) < (n3 : Int)) = false ∧ decide (k < n3) = false) ∨ (decide ((k : Int) < (n3 : Int)) = true ∧ decide (k < n3) = true ∧ decide ((n' : Int) < 6) = false ∧ decide (n' < 6) = false) := by
          by_cases hlt : k < n3
          · exact .inr ⟨by simpa using hlt, by simpa using hlt, decide_eq_false (by omega), decide_eq_false (by omega)⟩
          · exact .inl ⟨by simpa using hlt, by simpa using hlt⟩
        clear hgo
        by_cases hn0 : n' = 0
        · have d0 : ((n' : Int) == 0) = true := by simp; omega
          have dn' : decide ((n' : Int) < 6) = true := decide_eq_true (by omega)
          have dn2' : decide (n' < 6) = true := decide_eq_true (by omega)
          clear hn0
          rcases hdd with ⟨dk, dn⟩ | ⟨dk, dk2, dn, dn2⟩
          · go_wp2
            go_ret
            exact ⟨rfl, hBw⟩
          · rw [dn'] at dn
            cases dn
        · have d0 : ((n' : Int) == 0) = false := by simp; omega
          have hPb := own_rd hO
          have HOL : Hid (okB ([(8, 0, (n' : Int), X)] ++ b ++ [E0]) = true) := ok_loop HP.out HB.out (by omega) hn6 hX1 hX2
          have HOT : Hid (okB (tm b K ++ [E0]) = true) := ok_tm HP.out HB.out hn6 hK3
          obtain ⟨v, hv⟩ : ∃ v, v = (memF (tm b K) [x, 0, 0, 0, 0, 0, 0, 0]).getD 0 0 := ⟨_, rfl⟩
          have HEL : Hid (EndsAt ([(8, 0, (n' : Int), X)] ++ b ++ [E0]) x (K * n' + 2) v) := by
            have h := ends_loop HP.out hK1 hK3 (by rw [HB.out]; omega) (by rw [HB.out]; exact hn6) x
            rw [HB.out, HK.out, ← hv] at h
            exact h
          have HET : Hid (EndsAt (tm b K ++ [E0]) x (K * n' + 1) v) := by
            have h := ends_straight (tm_pn HP.out K) x
            rw [tm_len, HB.out, ← hv] at h
            exact h
          have hKn : K * n' ≤ 18 := by have : K * n' ≤ 3 * 6 := Nat.mul_le_mul hK3 hn6
                                       omega
          obtain ⟨M, hM⟩ : ∃ M, K * n' + 1 = M := ⟨_, rfl⟩
          have HEU : Hid (EndsAt ([(8, 0, (n' : Int), X)] ++ b ++ [E0]) x (M + 1) v) := by rw [← hM]; exact HEL
          have HEV : Hid (EndsAt (tm b K ++ [E0]) x M v) := by rw [← hM]; exact HET
          have hM19 : M ≤ 19 := by omega
          clear hv hPb hM hKn HEL HET
          rcases hdd with ⟨dk, dn⟩ | ⟨dk, dk2, dn, dn2⟩
          all_goals
            go_wp2_with (first
              | (at_builtin; (refine wpList_app tIn _ rfl _ _ rfl wr.heap.size (some ⟨wr.heap.size, 0, none⟩) 1 [(8, 0, (n' : Int), X)] 1 rfl rfl own_one p' c' b n' HB.out rfl (own_rd (own_below hO ((Below.refl _ _).alloc (Nat.le_refl _) _))) (by omega) (by simp) (1 + n') rfl ?_); intro p5 c5 w5 ho5 hb5 hst5
                 have hB5 : Below wr.heap.size wr w5 := ((Below.refl _ _).alloc (Nat.le_refl _) _).trans hb5
                 have hz5 := hB5.size)
              | (at_builtin; (refine wpList_app tIn _ rfl _ _ rfl wr.heap.size p5 c5 _ (1 + n') (by rw [List.length_append, HB.out]; rfl) rfl (own_below ho5 ((Below.refl _ _).alloc (Nat.le_refl _) _)) _ _ [(0, 0, 0, 0)] 1 rfl rfl (rd_one (heap_at (by first | rfl | simp))) (by omega) (by simp; omega) (1 + n' + 1) rfl ?_); intro p6 c6 w6 ho6 hb6 hst6
                 have hB6 : Below wr.heap.size wr w6 := (hB5.alloc hz5 _).trans hb6
                 have hz6 := hB6.size))
            have hO6 := own_below hO hB6
            clear ho5 hb5 hst5 hB5 hz5 hb6 hst6 hO
            go_loopw [12, 13] (fun t i wx => ∃ (j : Nat) (pj : Option Addr) (nj cj : Nat), j ≤ K ∧ i = .int .i64 j ∧ t = .slice pj nj cj ∧ Own eIn wx w6.heap.size 34 pj cj (tm b j) ∧ nj = j * n' ∧ Below w6.heap.size w6 wx) (fun _ i _ => K - (intOf i).toNat)
            case atStart => exact ⟨0, none, 0, 0, Nat.zero_le _, rfl, rfl, own_nil _ _ _, by omega, Below.refl _ _⟩
            case round =>
              obtain ⟨j, pj, nj, cj, hj, rfl, rfl, hOj, hnj, hbj⟩ := hrel
              have hlj : (tm b j).length = nj := by rw [tm_len, HB.out, hnj]
              have HJ : Hid ((tm b j).length = nj) := hlj
              have HNJ : Hid (nj = j * n') := hnj
              have hn18 : nj ≤ 18 := by
                have h1 : j * n' ≤ 3 * 6 := Nat.mul_le_mul (by omega) hn6
                omega
              have hzj := hbj.size
              clear hlj hnj
              by_cases hjk : j < K
              · have dj : decide ((j : Int) < X) = true := decide_eq_true (by rw [← HK.out]; omega)
                go_wp2_with (first
                  | (at_builtin; (refine wpList_app tIn _ rfl _ _ rfl w6.heap.size pj cj _ nj HJ.out rfl hOj p' c' b n' HB.out rfl (own_rd (own_below hO6 hbj)) (by omega) (by omega) (nj + n') rfl ?_); intro p7 c7 w7 ho7 hb7 hst7))
                go_roundw
                case rel => exact ⟨j + 1, p7, nj + n', c7, by omega, by go_num, by go_num, ho7, by rw [HNJ.out, Nat.add_mul]; omega, hbj.trans hb7⟩
                case measure => simp [intOf]; omega
              · obtain rfl : j = K := by omega
                have dj : decide ((j : Int) < X) = false := decide_eq_false (by rw [← HK.out]; omega)
                have hr6 := (own_rd ho6).below hbj
                go_wp2_with (first
                  | (at_builtin; (refine wpList_app tIn _ rfl _ _ rfl w6.heap.size pj cj _ nj HJ.out rfl (own_below hOj ((Below.refl _ _).alloc (Nat.le_refl _) _)) _ _ [(0, 0, 0, 0)] 1 rfl rfl (rd_one (heap_at (by first | rfl | simp))) (by omega) (by simp; omega) (nj + 1) rfl ?_); intro p8 c8 w8 ho8 hb8 hst8
                     have hB8 : Below w6.heap.size w6 w8 := (hbj.alloc hzj _).trans hb8
                     have hr8 : Rd eIn w8 p8 c8 (tm b j ++ [E0]) := own_rd ho8
                     have hr68 : Rd eIn w8 p6 c6 ([(8, 0, (n' : Int), X)] ++ b ++ [E0]) := (own_rd ho6).below hB8
                     have HL1 : Hid (([(8, 0, (n' : Int), X)] ++ b ++ [E0]).length = 1 + n' + 1) := by show _ = _; rw [List.length_append, List.length_append, HB.out]; rfl
                     have HL2 : Hid ((tm b j ++ [E0]).length = nj + 1) := by show _ = _; rw [List.length_append, HJ.out]; rfl)
                  | (go_at_call 13; (with_reducible (refine (prun_yes p6 c6 _ _ hr68 (1 + n' + 1) HL1.out (by omega) HOL.out x hx0 hx1 (M + 1) v HEU.out).mono ?_)); rintro e w9 ⟨rfl, b9⟩)
                  | (go_at_call 13; (with_reducible (refine (prun_yes p8 c8 _ _ (hr8.below b9) (nj + 1) HL2.out (by omega) HOT.out x hx0 hx1 M v HEV.out).mono ?_)); rintro e w10 ⟨rfl, b10⟩; have B10 := b9.trans (b10.mono b9.size)))
                go_ret
                have q1 := hB8.size
                have q2 := B10.size
                exact ⟨rfl, (hBw.trans (hB6.mono hzr)).trans ((hB8.mono (by omega)).trans (B10.mono (by omega)))⟩
end Go.Proofs.Ytboffjabffcddaa
