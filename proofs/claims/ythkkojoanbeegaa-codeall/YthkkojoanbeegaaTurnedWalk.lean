/-
  The law CodeTurned, walked.
-/
import Derived.Test.YthkkojoanbeegaaUse
import Derived.Test.YthkkojoanbeegaaWild
import Derived.Deep.RegionWith
namespace Go.Proofs.Ythkkojoanbeegaa
open Go.ChangeShapes Go.WideShapes Go.ChangeAt Go.RowKit
attribute [local go_sem ↓] Go.wp_at_zero Go.wp_at_succ

theorem own_set {w : World} {base : Nat} {p : Option Addr} {c : Nat} {l : List Int} (h : Own eBy w base 5 p c l) (k : Nat) (hk : k < l.length) :
    ∃ b, p = some ⟨b, 0, none⟩ ∧ base ≤ b ∧ b < w.heap.size ∧ w.frozen? ⟨b, k, none⟩ = false ∧ (∃ u, w.cell? ⟨b, k, none⟩ = some u) ∧ ∀ v, Own eBy (w.setCell ⟨b, k, none⟩ (.int .u8 v)) base 5 p c (l.set k v) := by
  have hc := (own_rd h).byte k hk
  rcases h.2 with ⟨h1, h2⟩ | ⟨g, cap, cur, h1, h2, h3, h4, h5, h6, h7⟩
  · simp only [Value.slice.injEq] at h1
    omega
  · simp only [Value.slice.injEq, true_and] at h1
    obtain ⟨rfl, rfl⟩ := h1
    obtain ⟨b', o', e', _, hcell⟩ := hc
    cases e'
    refine ⟨g, rfl, h2, (Array.getElem?_eq_some_iff.1 h3).1, by simp [World.frozen?, h3], ⟨_, by rw [Nat.zero_add] at hcell; exact hcell⟩, fun v => ?_⟩
    refine ⟨fl_length eBy _, .inr ⟨g, c, cur.setIfInBounds k (.int .u8 v), by simp, h2, ?_, by simpa using h4, h5, by simpa using h6, ?_⟩⟩
    · rw [setCell_eq_setRow w g k _ _ _ _ h3]
      exact setRow_heap w g _ _ _ _ h3
    · have e1 : (fl eBy (l.set k v)) = (fl eBy l).set k (.int .u8 v) := by rw [flBy, flBy, List.map_set]
      rw [e1, ← h7, Array.toList_setIfInBounds, List.length_set, List.take_set]
theorem set_bd {l : List Int} (h : ∀ x ∈ l, 0 ≤ x ∧ x ≤ 255) (k : Nat) {y : Int} (h0 : 0 ≤ y) (h1 : y ≤ 255) : ∀ x ∈ l.set k y, 0 ≤ x ∧ x ≤ 255 := fun x hx => by
  rcases List.mem_or_eq_of_mem_set hx with h' | h'
  · exact h x h'
  · subst h'; exact ⟨h0, h1⟩

theorem takeL_le (b : List Int) : (takeL b).length ≤ 1000 := by
  unfold takeL
  split
  · rename_i h
    unfold okT at h
    simp only [Bool.and_eq_true] at h
    unfold allI
    rw [decL_len]
    have h1 := h.1
    unfold lenOk at h1
    simp only [Bool.and_eq_true, decide_eq_true_eq] at h1
    omega
  · simp
/-- What the law asks of the bytes X, whatever they are. -/
structure TurnedSt (B : Nat) (W wr : World) (p : Option Addr) (c M : Nat) (X : List Int) : Prop where
  own : Own eBy wr B 5 p c X
  len : X.length = M
  bd : ∀ x ∈ X, 0 ≤ x ∧ x ≤ 255
  bel : Below B W wr

set_option maxHeartbeats 1000000 in
theorem turned_walk (p : Option Addr) (c : Nat) (n : Nat) (zs : List Int) (s0 s1 s2 t0 t1 t2 : Int) (w : World) (hp : Rd eBy w p c zs) (hn : zs.length = n) (hbz : ∀ x ∈ zs, 0 ≤ x ∧ x ≤ 255) (hm1 : n ≤ 9223372036854775807)
    (hs0 : 0 ≤ s0 ∧ s0 ≤ 255) (hs1 : 0 ≤ s1 ∧ s1 ≤ 255) (hs2 : 0 ≤ s2 ∧ s2 ≤ 255) (ht0 : 0 ≤ t0 ∧ t0 ≤ 255) (ht1 : 0 ≤ t1 ∧ t1 ≤ 255) (ht2 : 0 ≤ t2 ∧ t2 ≤ 255) :
    Calls Try.prog 5 #[.slice p n c, .agg #[.int .u8 s0, .int .u8 s1, .int .u8 s2], .agg #[.int .u8 t0, .int .u8 t1, .int .u8 t2]] w fun e w' => e = .returned (.bool true) ∧ Below w.heap.size w w' := by
  have HN : Hid (zs.length = n) := hn
  clear hn
  by_cases c1 : 80 < n
  · have d1 : decide ((80 : Int) < (n : Int)) = true := by simp; omega
    go_enter Try.func5, Try.ntmps5
    go_wp2_with (go_at_call 8; refine (begun_any _).mono ?_; rintro e w1 ⟨rfl, hb1⟩)
    go_ret
    exact ⟨rfl, bel_call (((Below.refl _ _).alloc (Nat.le_refl _) _).alloc (by simp) _) (Nat.le_refl _) hb1⟩
  · have d1 : decide ((80 : Int) < (n : Int)) = false := by simp; omega
    have h1000 : n ≤ 1000 := by omega
    go_enter Try.func5, Try.ntmps5
    go_wp2_with (first
      | (go_at_call 8; refine (begun_any _).mono ?_; rintro e w1 ⟨rfl, hb1⟩
         have hB1 := bel_call (((Below.refl _ _).alloc (Nat.le_refl _) _).alloc (by simp) _) (Nat.le_refl _) hb1
         have hp1 := hp.below hB1
         have hz1 : w.heap.size + 2 ≤ w1.heap.size := by have := hb1.size; simp at this; omega
         obtain ⟨bc1, bf1⟩ := bcell hb1
         have u0 : w1.cell? ⟨w.heap.size, 0, none⟩ = some (.int .u8 s0) := by rw [bc1 _ _ (by simp; omega)]; simp [go_sem]
         have u1 : w1.cell? ⟨w.heap.size, 1, none⟩ = some (.int .u8 s1) := by rw [bc1 _ _ (by simp; omega)]; simp [go_sem]
         have u2 : w1.cell? ⟨w.heap.size, 2, none⟩ = some (.int .u8 s2) := by rw [bc1 _ _ (by simp; omega)]; simp [go_sem]
         have v0 : w1.cell? ⟨w.heap.size + 1, 0, none⟩ = some (.int .u8 t0) := by rw [bc1 _ _ (by simp)]; simp [go_sem]
         have v1 : w1.cell? ⟨w.heap.size + 1, 1, none⟩ = some (.int .u8 t1) := by rw [bc1 _ _ (by simp)]; simp [go_sem]
         have v2 : w1.cell? ⟨w.heap.size + 1, 2, none⟩ = some (.int .u8 t2) := by rw [bc1 _ _ (by simp)]; simp [go_sem]
         clear bc1 bf1 hb1)
      | (go_at_call 9; (with_reducible (refine (made_any p c zs _ n HN.out h1000 hp1 hbz).mono ?_)); rintro e w2 ⟨rfl, pk2, hb2, hs2'⟩)
      | (go_at_call 11; (with_reducible (refine (wild_any w1.heap.size _ pk2).mono ?_)); (rintro e w3 ⟨p3, n3, c3, l3, rfl, ⟨o3, a3, e3, pk3, kp3⟩, g3, g3'⟩); have hB3 : Below w1.heap.size w1 w3 := hb2.trans (kp3.below (Nat.le_refl _) (by omega)))
      | (go_at_call 17
         obtain ⟨M, hM⟩ : ∃ M, 1 + 7 * n3 = M := ⟨_, rfl⟩
         have hlen : (putL l3).length = M := by rw [← hM, ← e3]; exact putL_len (by omega) a3
         (with_reducible (refine (putCode_c p3 c3 l3 _ n3 (putL l3) M e3 rfl hlen (own_rd o3) (by omega)).mono ?_)); (rintro e w4 ⟨p4, c4, rfl, o4, b4⟩)
         have hB4 := bel_call hB3 (Nat.le_refl _) b4
         obtain ⟨bc4, bf4⟩ := bcell hB4
         have f0 : w4.cell? ⟨w.heap.size, 0, none⟩ = some (.int .u8 s0) := (bc4 _ _ (by omega)).trans u0
         have f1 : w4.cell? ⟨w.heap.size, 1, none⟩ = some (.int .u8 s1) := (bc4 _ _ (by omega)).trans u1
         have f2 : w4.cell? ⟨w.heap.size, 2, none⟩ = some (.int .u8 s2) := (bc4 _ _ (by omega)).trans u2
         have g0 : w4.cell? ⟨w.heap.size + 1, 0, none⟩ = some (.int .u8 t0) := (bc4 _ _ (by omega)).trans v0
         have g1 : w4.cell? ⟨w.heap.size + 1, 1, none⟩ = some (.int .u8 t1) := (bc4 _ _ (by omega)).trans v1
         have g2 : w4.cell? ⟨w.heap.size + 1, 2, none⟩ = some (.int .u8 t2) := (bc4 _ _ (by omega)).trans v2
         have hBB : Below w.heap.size w w4 := bel_call hB1 (Nat.le_refl _) hB4
         have hz3 : w1.heap.size ≤ w3.heap.size := hB3.size
         have hz4 : w3.heap.size ≤ w4.heap.size := b4.size
         have hMb : 1 ≤ M ∧ M ≤ 85 := by omega
         obtain ⟨hMa, hMb⟩ := hMb
         have hbd := putL_bd l3
         clear o3 kp3 pk3 pk2 hb2 hs2' hp hp1 hB1 bc4 bf4 hB3 hB4 b4 a3 e3 hM u0 u1 u2 v0 v1 v2))
    go_loopw [8] (fun i wr => ∃ (k : Int) (X : List Int), (k = 0 ∨ k = 1 ∨ k = 2 ∨ k = 3) ∧ i = .int .i64 k ∧ TurnedSt w3.heap.size w4 wr p4 c4 M X) (fun i _ => (3 - intOf i).toNat)
    case atStart => exact ⟨0, _, .inl rfl, rfl, o4, hlen, hbd, Below.refl _ _⟩
    case round =>
      obtain ⟨k, X, hk, rfl, hT⟩ := hrel
      clear o4 hlen hbd
      have hsz := hT.bel.size
      have FF : ∀ b o v, b < w1.heap.size → w4.cell? ⟨b, o, none⟩ = some v → wr.cell? ⟨b, o, none⟩ = some v := fun b o v hb h => (hT.bel.cell (p := ⟨b, o, none⟩) (show b < w3.heap.size by omega)).trans h
      rcases hk with rfl | rfl | rfl | rfl
      · have f := FF _ _ _ (by omega) f0
        have g := FF _ _ _ (by omega) g0
        clear FF f0 f1 f2 g0 g1 g2
        obtain ⟨sa, sb⟩ := hs0
        obtain ⟨ta, tb⟩ := ht0
        obtain ⟨j, hj⟩ : ∃ j : Nat, s0 % (M : Int) = j := ⟨(s0 % (M : Int)).toNat, by have := Int.emod_nonneg s0 (show (M : Int) ≠ 0 by omega); omega⟩
        have hjM : j < M := by have := Int.emod_lt_of_pos s0 (show 0 < (M : Int) by omega); omega
        have HL : Hid (X.length = M) := hT.len
        obtain ⟨b, rfl, hb1, hb2, hfz, ⟨u, hu⟩, hown⟩ := own_set hT.own j (by rw [hT.len]; exact hjM)
        have hown := hown t0
        have hbdX := set_bd hT.bd j ta tb
        have hlenX : (X.set j t0).length = M := by rw [List.length_set]; exact hT.len
        have hbel := hT.bel
        clear hT
        generalize X.set j t0 = Y at *
        go_wp2
        go_region_with (fail)
        all_goals
          have hD : Own eBy (wr.setCell ⟨b, j, none⟩ (.int .u8 t0)).drew w3.heap.size 5 (some ⟨b, 0, none⟩) c4 Y := own_below hown (Below.refl _ _).drew
          have hBD : Below w3.heap.size w4 (wr.setCell ⟨b, j, none⟩ (.int .u8 t0)).drew := (hbel.setCell hb1 _).drew
          generalize (wr.setCell ⟨b, j, none⟩ (.int .u8 t0)).drew = W5 at *
          clear hown hbel f g hu hfz hsz hb2 HL hj
          obtain ⟨kk, hkk⟩ : ∃ kk, okT Y = kk := ⟨_, rfl⟩
          obtain ⟨L, hL⟩ : ∃ L, takeL Y = L := ⟨_, rfl⟩
          obtain ⟨Z, hZ⟩ : ∃ Z, L.length = Z := ⟨_, rfl⟩
          have hZb : Z ≤ 1000 := by
            rw [← hZ, ← hL]
            exact takeL_le Y
          have q1 := take_c (some ⟨b, 0, none⟩) c4 Y W5 M L Z kk hlenX hL hZ hkk (own_rd hD) (by omega) hbdX
          have q2 := fun w' (hb : Below W5.heap.size W5 w') => takeCode_c (some ⟨b, 0, none⟩) c4 Y w' M L Z kk hlenX hL hZ hkk (own_rd (own_below hD hb)) (by omega) hbdX
          have HZ : Hid (L.length = Z) := hZ
          have HX : Hid (Y.length = M) := hlenX
          clear hlenX hL hZ hkk
          cases kk
          all_goals
            go_wp2_with (first
              | (go_at_call 12; (with_reducible (refine q1.mono ?_)); (rintro e w6 ⟨p6, c6, rfl, o6, b6⟩))
              | (go_at_call 13; (with_reducible (refine (q2 _ b6).mono ?_)); (rintro e w7 ⟨p7, c7, rfl, o7, b7⟩); have o67 := own_below o6 b7; have B7 := bel_call b6 (Nat.le_refl _) b7)
              | (go_at_call 18; (refine (same_any p6 c6 L p7 c7 L _ (own_rd o67) (own_rd o7) Z Z HZ.out HZ.out hZb hZb).mono ?_); (rintro e w8 ⟨rfl, b8⟩); have hsame : sameB L L = true := decide_eq_true rfl; have B8 := bel_call B7 (Nat.le_refl _) b8))
            go_roundw
            case rel => exact ⟨1, Y, by simp, rfl, own_below hD B8, HX.out, hbdX, hBD.trans (B8.mono (Nat.le_trans hz4 hBD.size))⟩
            case measure => simp [intOf]
      · have f := FF _ _ _ (by omega) f1
        have g := FF _ _ _ (by omega) g1
        clear FF f0 f1 f2 g0 g1 g2
        obtain ⟨sa, sb⟩ := hs1
        obtain ⟨ta, tb⟩ := ht1
        obtain ⟨j, hj⟩ : ∃ j : Nat, s1 % (M : Int) = j := ⟨(s1 % (M : Int)).toNat, by have := Int.emod_nonneg s1 (show (M : Int) ≠ 0 by omega); omega⟩
        have hjM : j < M := by have := Int.emod_lt_of_pos s1 (show 0 < (M : Int) by omega); omega
        have HL : Hid (X.length = M) := hT.len
        obtain ⟨b, rfl, hb1, hb2, hfz, ⟨u, hu⟩, hown⟩ := own_set hT.own j (by rw [hT.len]; exact hjM)
        have hown := hown t1
        have hbdX := set_bd hT.bd j ta tb
        have hlenX : (X.set j t1).length = M := by rw [List.length_set]; exact hT.len
        have hbel := hT.bel
        clear hT
        generalize X.set j t1 = Y at *
        go_wp2
        go_region_with (fail)
        all_goals
          have hD : Own eBy (wr.setCell ⟨b, j, none⟩ (.int .u8 t1)).drew w3.heap.size 5 (some ⟨b, 0, none⟩) c4 Y := own_below hown (Below.refl _ _).drew
          have hBD : Below w3.heap.size w4 (wr.setCell ⟨b, j, none⟩ (.int .u8 t1)).drew := (hbel.setCell hb1 _).drew
          generalize (wr.setCell ⟨b, j, none⟩ (.int .u8 t1)).drew = W5 at *
          clear hown hbel f g hu hfz hsz hb2 HL hj
          obtain ⟨kk, hkk⟩ : ∃ kk, okT Y = kk := ⟨_, rfl⟩
          obtain ⟨L, hL⟩ : ∃ L, takeL Y = L := ⟨_, rfl⟩
          obtain ⟨Z, hZ⟩ : ∃ Z, L.length = Z := ⟨_, rfl⟩
          have hZb : Z ≤ 1000 := by
            rw [← hZ, ← hL]
            exact takeL_le Y
          have q1 := take_c (some ⟨b, 0, none⟩) c4 Y W5 M L Z kk hlenX hL hZ hkk (own_rd hD) (by omega) hbdX
          have q2 := fun w' (hb : Below W5.heap.size W5 w') => takeCode_c (some ⟨b, 0, none⟩) c4 Y w' M L Z kk hlenX hL hZ hkk (own_rd (own_below hD hb)) (by omega) hbdX
          have HZ : Hid (L.length = Z) := hZ
          have HX : Hid (Y.length = M) := hlenX
          clear hlenX hL hZ hkk
          cases kk
          all_goals
            go_wp2_with (first
              | (go_at_call 12; (with_reducible (refine q1.mono ?_)); (rintro e w6 ⟨p6, c6, rfl, o6, b6⟩))
              | (go_at_call 13; (with_reducible (refine (q2 _ b6).mono ?_)); (rintro e w7 ⟨p7, c7, rfl, o7, b7⟩); have o67 := own_below o6 b7; have B7 := bel_call b6 (Nat.le_refl _) b7)
              | (go_at_call 18; (refine (same_any p6 c6 L p7 c7 L _ (own_rd o67) (own_rd o7) Z Z HZ.out HZ.out hZb hZb).mono ?_); (rintro e w8 ⟨rfl, b8⟩); have hsame : sameB L L = true := decide_eq_true rfl; have B8 := bel_call B7 (Nat.le_refl _) b8))
            go_roundw
            case rel => exact ⟨2, Y, by simp, rfl, own_below hD B8, HX.out, hbdX, hBD.trans (B8.mono (Nat.le_trans hz4 hBD.size))⟩
            case measure => simp [intOf]
      · have f := FF _ _ _ (by omega) f2
        have g := FF _ _ _ (by omega) g2
        clear FF f0 f1 f2 g0 g1 g2
        obtain ⟨sa, sb⟩ := hs2
        obtain ⟨ta, tb⟩ := ht2
        obtain ⟨j, hj⟩ : ∃ j : Nat, s2 % (M : Int) = j := ⟨(s2 % (M : Int)).toNat, by have := Int.emod_nonneg s2 (show (M : Int) ≠ 0 by omega); omega⟩
        have hjM : j < M := by have := Int.emod_lt_of_pos s2 (show 0 < (M : Int) by omega); omega
        have HL : Hid (X.length = M) := hT.len
        obtain ⟨b, rfl, hb1, hb2, hfz, ⟨u, hu⟩, hown⟩ := own_set hT.own j (by rw [hT.len]; exact hjM)
        have hown := hown t2
        have hbdX := set_bd hT.bd j ta tb
        have hlenX : (X.set j t2).length = M := by rw [List.length_set]; exact hT.len
        have hbel := hT.bel
        clear hT
        generalize X.set j t2 = Y at *
        go_wp2
        go_region_with (fail)
        all_goals
          have hD : Own eBy (wr.setCell ⟨b, j, none⟩ (.int .u8 t2)).drew w3.heap.size 5 (some ⟨b, 0, none⟩) c4 Y := own_below hown (Below.refl _ _).drew
          have hBD : Below w3.heap.size w4 (wr.setCell ⟨b, j, none⟩ (.int .u8 t2)).drew := (hbel.setCell hb1 _).drew
          generalize (wr.setCell ⟨b, j, none⟩ (.int .u8 t2)).drew = W5 at *
          clear hown hbel f g hu hfz hsz hb2 HL hj
          obtain ⟨kk, hkk⟩ : ∃ kk, okT Y = kk := ⟨_, rfl⟩
          obtain ⟨L, hL⟩ : ∃ L, takeL Y = L := ⟨_, rfl⟩
          obtain ⟨Z, hZ⟩ : ∃ Z, L.length = Z := ⟨_, rfl⟩
          have hZb : Z ≤ 1000 := by
            rw [← hZ, ← hL]
            exact takeL_le Y
          have q1 := take_c (some ⟨b, 0, none⟩) c4 Y W5 M L Z kk hlenX hL hZ hkk (own_rd hD) (by omega) hbdX
          have q2 := fun w' (hb : Below W5.heap.size W5 w') => takeCode_c (some ⟨b, 0, none⟩) c4 Y w' M L Z kk hlenX hL hZ hkk (own_rd (own_below hD hb)) (by omega) hbdX
          have HZ : Hid (L.length = Z) := hZ
          have HX : Hid (Y.length = M) := hlenX
          clear hlenX hL hZ hkk
          cases kk
          all_goals
            go_wp2_with (first
              | (go_at_call 12; (with_reducible (refine q1.mono ?_)); (rintro e w6 ⟨p6, c6, rfl, o6, b6⟩))
              | (go_at_call 13; (with_reducible (refine (q2 _ b6).mono ?_)); (rintro e w7 ⟨p7, c7, rfl, o7, b7⟩); have o67 := own_below o6 b7; have B7 := bel_call b6 (Nat.le_refl _) b7)
              | (go_at_call 18; (refine (same_any p6 c6 L p7 c7 L _ (own_rd o67) (own_rd o7) Z Z HZ.out HZ.out hZb hZb).mono ?_); (rintro e w8 ⟨rfl, b8⟩); have hsame : sameB L L = true := decide_eq_true rfl; have B8 := bel_call B7 (Nat.le_refl _) b8))
            go_roundw
            case rel => exact ⟨3, Y, by simp, rfl, own_below hD B8, HX.out, hbdX, hBD.trans (B8.mono (Nat.le_trans hz4 hBD.size))⟩
            case measure => simp [intOf]
      · go_wp2
        go_ret
        exact ⟨rfl, hBB.trans (hT.bel.mono (by omega))⟩
end Go.Proofs.Ythkkojoanbeegaa
