/-
  The law DeltaMany, walked.
-/
import Derived.Test.YtannkdnjbacbdaaArgs
import Derived.Test.YtannkdnjbacbdaaMany
namespace Go.Proofs.Ytannkdnjbacbdaa
open Go.ChangeShapes Go.WideShapes Go.ChangeAt Go.RowKit
attribute [local go_sem ↓] Go.wp_at_zero Go.wp_at_succ

def modF (zs : List Int) (M : Int) (i : Nat) : Int := (zs.getD i 0) % M
theorem modF_at {zs : List Int} {M : Int} {i : Nat} (h : i < zs.length) : modF zs M i = zs[i] % M := by simp [modF, List.getD_eq_getElem?_getD, h]
theorem modF_bd (zs : List Int) (M : Int) (hM : 0 < M) (hM1 : M ≤ 1000) (i : Nat) : 0 ≤ modF zs M i ∧ modF zs M i ≤ 1000 := by
  unfold modF
  have h1 := Int.emod_nonneg (zs.getD i 0) (by omega : M ≠ 0)
  have h2 := Int.emod_lt_of_pos (zs.getD i 0) hM
  omega

/-- the one told last, ahead of place j -/
def lastOf (ks : List Int) (j : Nat) : Int := if j = 0 then -1 else ks.getD (j - 1) 0
theorem lastOf_zero (ks : List Int) : lastOf ks 0 = -1 := rfl
theorem lastOf_succ (ks : List Int) (j : Nat) (h : j < ks.length) : lastOf ks (j + 1) = ks[j] := by simp [lastOf, List.getD_eq_getElem?_getD, h]
theorem lastOf_lt {ks : List Int} (hp : ks.Pairwise (· < ·)) (h0 : ∀ x ∈ ks, 0 ≤ x) (j : Nat) (h : j < ks.length) : lastOf ks j < ks[j] := by
  unfold lastOf
  split
  · have := h0 ks[j] (List.getElem_mem h); omega
  · have := List.pairwise_iff_getElem.1 hp (j - 1) j (by omega) h (by omega)
    rw [List.getD_eq_getElem?_getD, List.getElem?_eq_getElem (by omega)]
    exact this

theorem mem_of_adds {F : Nat → Int} {n : Nat} (h : Adds F n) : ∀ y ∈ absT 0 (addsT F n), ∃ i : Nat, i < n ∧ i < 64 ∧ y = (F i, (i : Int)) := by
  intro y hy
  have := h.perm.mem_iff.1 hy
  simp only [List.mem_map, List.mem_range] at this
  obtain ⟨i, hi, e⟩ := this
  exact ⟨i, by omega, by omega, e.symm⟩

set_option maxRecDepth 100000 in
set_option maxHeartbeats 4000000 in
theorem many_walk (p : Option Addr) (c n : Nat) (zs : List Int) (w : World) (hr : RdB w p c zs) (hn : n = zs.length) (hz : ∀ x ∈ zs, 0 ≤ x ∧ x ≤ 255) (hmax : n ≤ 9223372036854775807) :
    Calls Try.prog 4 #[.slice p n c] w fun e w' => e = .returned (.bool true) ∧ Below w.heap.size w w' := by
  by_cases hbig : 100 < n
  · have h1 : decide ((100 : Int) < (n : Int)) = true := by simp; omega
    go_enter Try.func4, Try.ntmps4
    go_wp2_with (go_at_call 7; refine (begun_any _).mono ?_; rintro e w1 ⟨rfl, hb1⟩)
    go_ret
    exact ⟨rfl, hb1⟩
  · have h1 : decide ((100 : Int) < (n : Int)) = false := by simp; omega
    have hA := adds_all (modF zs 20) (modF_bd zs 20 (by omega) (by omega))
    obtain ⟨F, hF⟩ : ∃ F, F = modF zs 20 := ⟨_, rfl⟩
    rw [← hF] at hA
    have HN : Hid (n = zs.length) := hn
    clear hn
    go_enter Try.func4, Try.ntmps4
    go_wp2_with (go_at_call 7; refine (begun_any _).mono ?_; rintro e w1 ⟨rfl, hb1⟩)
    go_loopw [3, 4] (fun a i wr => ∃ (k : Nat) (p' : Option Addr) (c' : Nat), k ≤ n ∧ i = .int .i64 k ∧ a = .slice p' (addsT F k).length c' ∧ Rd wr p' c' (addsT F k) ∧ Below w.heap.size w wr) (fun _ i _ => n - (intOf i).toNat)
    case atStart => exact ⟨0, none, 0, Nat.zero_le _, rfl, rfl, Rd.nil _, hb1⟩
    case round =>
      obtain ⟨k, p', c', hk, rfl, rfl, hrd, hbw⟩ := hrel
      clear hb1
      have hlen := (hA k).len
      by_cases hlt : k < n
      · obtain ⟨b, o, rfl, hb, hc1⟩ := (hr.below hbw).cell k (by rw [← HN.out]; exact hlt)
        have hx := hz zs[k] (List.getElem_mem _)
        have HF : Hid (F k = zs[k]'(by rw [← HN.out]; exact hlt) % 20) := by show _ = _; rw [hF]; exact modF_at _
        generalize zs[k]'(by rw [← HN.out]; exact hlt) = x at *
        have hx0 := hx.1
        have hx1 := hx.2
        have hok := (hA k).ok (by rw [HF.out]; omega) (by rw [HF.out]; omega)
        have hlen' := (hA (k + 1)).len
        rw [HF.out] at hok
        have hT : resAdd (addsT F k) (x % 20) k = addsT F (k + 1) := by rw [← HF.out]; rfl
        have HT : Hid (resAdd (addsT F k) (x % 20) k = addsT F (k + 1)) := hT
        have HO : Hid (okAdd (addsT F k) (x % 20) k = decide (k < 64)) := hok
        have hBd := (hA k).bd
        have hNk : (addsT F k).length ≤ 100 := by omega
        clear hT hok hx
        generalize hL : (addsT F k) = L at *
        generalize hL' : (addsT F (k + 1)) = L' at *
        clear hL hlen hlen'
        by_cases h64 : k < 64
        · have h2 : decide ((k : Int) < 64) = true := by simp; omega
          go_wp2_with (go_at_call 8; refine (add_c _ _ L _ L.length L' L'.length true (x % 20) k rfl HT.out rfl (by rw [HO.out]; simpa using h64) hrd hNk hBd (by omega) (by omega)).mono ?_; rintro e w2 ⟨p2, c2, rfl, h3, hb2⟩)
          go_roundw
          case rel => exact ⟨k + 1, _, _, by omega, by go_num, by rw [hL'], by rw [hL']; exact h3, bel_call hbw (Nat.le_refl _) hb2⟩
          case measure => simp [intOf]; omega
        · have h2 : decide ((k : Int) < 64) = false := by simp; omega
          go_wp2_with (go_at_call 8; refine (add_c _ _ L _ L.length L' L'.length false (x % 20) k rfl HT.out rfl (by rw [HO.out]; simpa using h64) hrd hNk hBd (by omega) (by omega)).mono ?_; rintro e w2 ⟨p2, c2, rfl, h3, hb2⟩)
          go_roundw
          case rel => exact ⟨k + 1, _, _, by omega, by go_num, by rw [hL'], by rw [hL']; exact h3, bel_call hbw (Nat.le_refl _) hb2⟩
          case measure => simp [intOf]; omega
      · obtain rfl : k = n := by omega
        have hmem := mem_of_adds (hA k)
        have hlex := (hA k).lex
        have hBd := (hA k).bd
        have hBl : (absT 0 (addsT F k)).length = min k 64 := by rw [absT_length]; exact hlen
        have h0 := aftA_zero (absT 0 (addsT F k))
        generalize hB : absT 0 (addsT F k) = B at *
        have hF19 : ∀ y ∈ B, 0 ≤ y.1 ∧ y.1 ≤ 19 := by
          intro y hy
          obtain ⟨i, _, _, rfl⟩ := hmem y hy
          show 0 ≤ F i ∧ F i ≤ 19
          rw [hF]; unfold modF; omega
        go_wp2
        go_loopw [3, 7, 8] (fun a m t wr' => ∃ (T : Nat) (τ : Int) (p' : Option Addr) (c' : Nat) (l : List Tm), T ≤ 20 ∧ t = .int .i64 τ ∧ Hid (τ = (T : Int) + 1) ∧ Bd l ∧ Hid (absT 0 l = aftA (τ - 1) B) ∧ l.length ≤ 64 ∧ a = .slice p' l.length c' ∧ Rd wr' p' c' l ∧ (∃ M : Nat, m = .int .i64 M ∧ Hid (M + l.length = B.length)) ∧ Below w.heap.size w wr') (fun _ _ t _ => 21 - (intOf t).toNat)
        case atStart =>
          refine ⟨0, 1, _, _, addsT F k, by omega, rfl, (rfl : (1 : Int) = ((0 : Nat) : Int) + 1), hBd, (by rw [hB]; exact h0.symm : absT 0 (addsT F k) = aftA 0 B), by omega, rfl, hrd, ⟨0, rfl, (by rw [← hB, absT_length]; omega : 0 + (addsT F k).length = B.length)⟩, hbw⟩
        case round =>
          obtain ⟨T, τ, p2, c2, l, hT, rfl, Hτ, hBd2, HA, hl64, rfl, hrd2, ⟨M, rfl, HM⟩, hbw2⟩ := hrel
          clear hrd hbw hlen hBd h0
          have hτ := Hτ.out
          by_cases hT2 : T < 20
          · have htk := abs_tick l hBd2.low
            have haf := tick_aft (τ - 1) (by omega) B
            have hal := aft_len (τ - 1) B
            rw [HA.out] at htk
            rw [Int.sub_add_cancel] at haf hal
            have HK : Hid ((l.take (dueT l)).map (·.2) = atA τ B) := htk.2.trans haf.2
            have HA2 : Hid (absT 0 (restT l) = aftA (τ + 1 - 1) B) := by show _ = _; rw [Int.add_sub_cancel]; exact htk.1.trans haf.1
            have Hτ2 : Hid (τ + 1 = ((T + 1 : Nat) : Int) + 1) := by show _ = _; omega
            have hll : l.length = (aftA (τ - 1) B).length := by rw [← HA.out, absT_length]
            have hll2 : (restT l).length = (aftA τ B).length := by
              have := HA2.out
              rw [Int.add_sub_cancel] at this
              rw [← this, absT_length]
            have hl64' : (restT l).length ≤ 64 := by omega
            have hks64 : (atA τ B).length ≤ 64 := by omega
            have hM64 := HM.out
            have hMb : M ≤ 64 := by omega
            have HM2 : Hid (M + (atA τ B).length + (restT l).length = B.length) := by show _ = _; omega
            have hBd3 := bd_rest hBd2
            have hkmem : ∀ κ ∈ atA τ B, ∃ i : Nat, i < k ∧ i < 64 ∧ κ = i ∧ max (F i) 1 = τ := by
              intro κ hκ
              obtain ⟨y, hy, h2, h3⟩ := at_mem hκ
              obtain ⟨i, h4, h5, rfl⟩ := hmem y hy
              exact ⟨i, h4, h5, h3.symm, h2⟩
            have hris : 0 < T → (atA τ B).Pairwise (· < ·) := fun h => at_rising (by omega) hlex
            have hτ1 : τ ≤ 20 := by omega
            have hτ0 : 1 ≤ τ := by omega
            clear htk haf hal hll hll2 hM64
            generalize hks : atA τ B = ks at *
            generalize hl' : restT l = l' at *
            clear hks Hτ
            rcases Nat.eq_zero_or_pos T with hT0 | hT0
            · obtain rfl : T = 0 := hT0
              obtain rfl : τ = 1 := by omega
              clear hris hτ hT hT2
              go_wp2_with (go_at_call 12; refine (tick_c _ _ l _ l.length l' l'.length ks ks.length rfl hl' rfl HK.out rfl hrd2 (by omega) hBd2).mono ?_; rintro e w3 ⟨p3, c3, q3, d3, rfl, hrd3, hri3, hb3⟩)
              have hbw3 := bel_call hbw2 (Nat.le_refl _) hb3
              clear hb3 hrd2 hbw2
              go_loop [11, 12] (fun la i => ∃ j : Nat, j ≤ ks.length ∧ i = .int .i64 j ∧ la = .int .i64 (lastOf ks j)) (fun _ i => ks.length - (intOf i).toNat)
              case atStart => exact ⟨0, Nat.zero_le _, rfl, rfl⟩
              case round =>
                obtain ⟨j, hj, rfl, rfl⟩ := hrel
                by_cases hjl : j < ks.length
                · skip
                  obtain ⟨qb, qo, rfl, _, hqc⟩ := hri3.cell j hjl
                  obtain ⟨i, hi1, hi2, hi3, hi4⟩ := hkmem ks[j] (List.getElem_mem hjl)
                  have hiz : i < zs.length := by rw [← HN.out]; exact hi1
                  obtain ⟨b, o, rfl, _, hzc⟩ := (hr.below hbw3).cell i hiz
                  have hx := hz zs[i] (List.getElem_mem _)
                  have HF : Hid (F i = zs[i] % 20) := by show _ = _; rw [hF]; exact modF_at _
                  have HL : Hid (lastOf ks (j + 1) = (i : Int)) := by show _ = _; rw [lastOf_succ ks j hjl, hi3]
                  rw [HF.out] at hi4
                  rw [hi3] at hqc
                  generalize lastOf ks j = la at *
                  generalize zs[i] = x at *
                  have hx0 := hx.1
                  have hx1 := hx.2
                  have z1 : decide ((k : Int) ≤ (i : Int)) = false := by simp; omega
                  have z2 : decide ((64 : Int) ≤ (i : Int)) = false := by simp; omega
                  have hm0 : x % 20 < 1 ∨ x % 20 = 1 := by omega
                  clear hx hkmem hmem hlex hF19 hA hi3 hz hri3 hrd3 HK HA HA2 hBd2 hBd3 hr hi4 hl' hBl hB hF HF HM
                  rcases hm0 with hm | hm
                  all_goals
                    go_wp2
                    go_round
                    case rel => exact ⟨j + 1, by omega, by go_num, by rw [HL.out]⟩
                    case measure => simp [intOf]; omega
                · obtain rfl : j = ks.length := by omega
                  clear hkmem hl' hBl hB hF hmem hlex hF19 hri3
                  go_wp2
                  go_roundw
                  case rel => exact ⟨1, _, _, _, l', by omega, rfl, Hτ2, hBd3, HA2, hl64', rfl, hrd3, ⟨M + ks.length, by go_num, HM2⟩, hbw3⟩
                  case measure => simp [intOf]
            · have hris := hris hT0
              have hτ2 : 1 < τ := by omega
              clear hτ
              go_wp2_with (go_at_call 12; refine (tick_c _ _ l _ l.length l' l'.length ks ks.length rfl hl' rfl HK.out rfl hrd2 (by omega) hBd2).mono ?_; rintro e w3 ⟨p3, c3, q3, d3, rfl, hrd3, hri3, hb3⟩)
              have hbw3 := bel_call hbw2 (Nat.le_refl _) hb3
              clear hb3 hrd2 hbw2
              go_loop [11, 12] (fun la i => ∃ j : Nat, j ≤ ks.length ∧ i = .int .i64 j ∧ la = .int .i64 (lastOf ks j)) (fun _ i => ks.length - (intOf i).toNat)
              case atStart => exact ⟨0, Nat.zero_le _, rfl, rfl⟩
              case round =>
                obtain ⟨j, hj, rfl, rfl⟩ := hrel
                by_cases hjl : j < ks.length
                · skip
                  obtain ⟨qb, qo, rfl, _, hqc⟩ := hri3.cell j hjl
                  obtain ⟨i, hi1, hi2, hi3, hi4⟩ := hkmem ks[j] (List.getElem_mem hjl)
                  have hiz : i < zs.length := by rw [← HN.out]; exact hi1
                  obtain ⟨b, o, rfl, _, hzc⟩ := (hr.below hbw3).cell i hiz
                  have hx := hz zs[i] (List.getElem_mem _)
                  have HF : Hid (F i = zs[i] % 20) := by show _ = _; rw [hF]; exact modF_at _
                  have HL : Hid (lastOf ks (j + 1) = (i : Int)) := by show _ = _; rw [lastOf_succ ks j hjl, hi3]
                  rw [HF.out] at hi4
                  have hlt3 : lastOf ks j < (i : Int) := by
                    rw [← hi3]
                    exact lastOf_lt hris (fun x hx => by obtain ⟨i', _, _, e, _⟩ := hkmem x hx; omega) j hjl
                  rw [hi3] at hqc
                  generalize lastOf ks j = la at *
                  generalize zs[i] = x at *
                  have hx0 := hx.1
                  have hx1 := hx.2
                  have z1 : decide ((k : Int) ≤ (i : Int)) = false := by simp; omega
                  have z2 : decide ((64 : Int) ≤ (i : Int)) = false := by simp; omega
                  have hm : 1 < x % 20 := by omega
                  have hm2 : x % 20 = τ := by omega
                  have z3 : decide ((i : Int) ≤ la) = false := by simp; omega
                  have z4 : decide ((1 : Int) < τ) = true := by simp; omega
                  clear hx hkmem hris hmem hlex hF19 hA hi3 hz hri3 hrd3 HK HA HA2 hBd2 hBd3 hr hi4 hlt3 hl' hBl hB hF HF HM
                  go_wp2
                  go_round
                  case rel => exact ⟨j + 1, by omega, by go_num, by rw [HL.out]⟩
                  case measure => simp [intOf]; omega
                · obtain rfl : j = ks.length := by omega
                  clear hkmem hris hl' hBl hB hF hmem hlex hF19 hri3
                  go_wp2
                  go_roundw
                  case rel => exact ⟨T + 1, _, _, _, l', by omega, rfl, Hτ2, hBd3, HA2, hl64', rfl, hrd3, ⟨M + ks.length, by go_num, HM2⟩, hbw3⟩
                  case measure => simp [intOf]; omega
          · obtain rfl : T = 20 := by omega
            obtain rfl : τ = 21 := by omega
            clear hτ Hτ
            have hend : aftA ((21 : Int) - 1) B = [] := aft_end _ _ (fun y hy => by have := hF19 y hy; omega)
            have hl0 : l = [] := by
              have : l.length = 0 := by rw [← absT_length l 0, HA.out, hend]; rfl
              exact List.eq_nil_of_length_eq_zero this
            subst hl0
            have hM := HM.out
            simp only [List.length_nil, Nat.add_zero] at hM
            have hMm : (M : Int) = ((min k 64 : Nat) : Int) := by omega
            rcases (by omega : (k : Int) < 64 ∨ (k : Int) = 64 ∨ (64 : Int) < (k : Int)) with hk | hk | hk
            · obtain rfl : M = k := by omega
              clear hMm hM hBl
              go_wp2
              go_ret
              exact ⟨rfl, hbw2⟩
            · obtain rfl : M = 64 := by omega
              clear hMm hM hBl
              go_wp2
              go_ret
              exact ⟨rfl, hbw2⟩
            · obtain rfl : M = 64 := by omega
              clear hMm hM hBl
              go_wp2
              go_ret
              exact ⟨rfl, hbw2⟩
end Go.Proofs.Ytannkdnjbacbdaa
