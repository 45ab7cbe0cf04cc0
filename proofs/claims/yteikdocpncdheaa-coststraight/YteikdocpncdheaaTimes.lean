/-
  How often each instruction is done, by the document.
-/
import Derived.Test.YteikdocpncdheaaPlains
import Derived.Test.YteikdocpncdheaaRefp
namespace Go.Proofs.Yteikdocpncdheaa
open Go.ChangeShapes Go.WideShapes Go.ChangeAt Go.RowKit
attribute [local go_sem ↓] Go.wp_at_zero Go.wp_at_succ

theorem Try.info2 : (Try.prog.info? 2).map (fun i => (i.zero, i.size, i.bytes)) = some (some (.int .i64 0), 1, 8) := by kernel_rfl
theorem own_setL {w : World} {base : Nat} {e : TypeId} {p : Option Addr} {c : Nat} {l : List Int} (h : Own eI w base e p c l) (k : Nat) (hk : k < l.length) :
    ∃ b, p = some ⟨b, 0, none⟩ ∧ base ≤ b ∧ b < w.heap.size ∧ w.frozen? ⟨b, k, none⟩ = false ∧ w.cell? ⟨b, k, none⟩ = some (.int .i64 l[k]) ∧ ∀ v, Own eI (w.setCell ⟨b, k, none⟩ (.int .i64 v)) base e p c (l.set k v) := by
  have hc := (own_rd h).num k hk
  rcases h.2 with ⟨h1, h2⟩ | ⟨g, cap, cur, h1, h2, h3, h4, h5, h6, h7⟩
  · simp only [Value.slice.injEq] at h1
    omega
  · simp only [Value.slice.injEq, true_and] at h1
    obtain ⟨rfl, rfl⟩ := h1
    obtain ⟨b', o', e', _, hcell⟩ := hc
    cases e'
    refine ⟨g, rfl, h2, (Array.getElem?_eq_some_iff.1 h3).1, by simp [World.frozen?, h3], by rw [Nat.zero_add] at hcell; exact hcell, fun v => ?_⟩
    refine ⟨fl_length eI _, .inr ⟨g, c, cur.setIfInBounds k (.int .i64 v), by simp, h2, ?_, by simpa using h4, h5, by simpa using h6, ?_⟩⟩
    · rw [setCell_eq_setRow w g k _ _ _ _ h3]
      exact setRow_heap w g _ _ _ _ h3
    · have e1 : (fl eI (l.set k v)) = (fl eI l).set k (.int .i64 v) := by rw [flI, flI, List.map_set]
      rw [e1, ← h7, Array.toList_setIfInBounds, List.length_set, List.take_set]
theorem ar_get {l : List In} {n a : Nat} (ha : a < (arI l n).length) : (arL l n)[a]'(by rw [arL_len]; exact ha) = arE l (arI l n)[a] := by simp [arL]
theorem in_has {l : List In} {f k R : Nat} (hR : rch (gt l f) = R) (h8 : (gt l f).1 = 8) : inB l f k = (decide ((f : Int) + 1 ≤ (k : Int)) && decide ((k : Int) ≤ (f : Int) + (R : Int))) := by
  rw [Bool.eq_iff_iff, inB_iff, hR]
  simp only [Bool.and_eq_true, decide_eq_true_eq]
  omega
set_option maxRecDepth 100000 in
set_option maxHeartbeats 8000000 in
theorem times_any (p : Option Addr) (c : Nat) (l : List In) (w : World) (hr : Rd eIn w p c l) (n : Nat) (hN : l.length = n) (hP : Prg l) :
    Calls Try.prog 30 #[.slice p n c] w fun e w' => (∃ q d, e = .returned (.slice q n d) ∧ Own eI w' w.heap.size 2 q d (tmA l n n)) ∧ Below w.heap.size w w' := by
  obtain ⟨i0, hi0, hz0, hz1, hz2⟩ := info_parts Try.info2
  have hn := hP.le.2
  have h1n := hP.le.1
  rw [hN] at hn h1n
  have HN : Hid (l.length = n) := hN
  have HP : Hid (Prg l) := hP
  have har := fun w' (hb' : Below w.heap.size w w') => areas_any p c l w' (hr.below hb') n hN hn hP.all
  clear hN hP
  go_enter Try.func30, Try.ntmps30
  go_wp2_with (first
    | (at_make; refine wpList_make_full _ rfl _ _ 51 rfl w.heap.size 2 i0 _ 1 Try.underlying51 hi0 hz0 hz1 .i64 .i64 _ _ n rfl rfl rfl rfl (by rw [hz2]; omega) (by unfold maxLen; omega) (Nat.le_refl _) ?_; intro w0 hown0 hgrow0
       have hB0 : Below w.heap.size w w0 := (Below.refl _ _).grown hgrow0 (Nat.le_refl _) (fun k hk => by cases hk))
    | (go_at_call 43; refine (har _ hB0).mono ?_; rintro e w1 ⟨qa, da, ma, rfl, hma, howna, hb1⟩; have HMA : Hid (ma = (arI l n).length) := hma; clear hma))
  have hownU : Own eI w0 w.heap.size 2 (some ⟨w.heap.size, 0, none⟩) n (tmA l n 0) := by
    rw [tmA_zero]
    unfold Own
    rw [List.length_replicate, ← made_zero]
    exact hown0
  have hUlt := (World.ownsRow.lt hown0 w.heap.size rfl).2
  have hownU1 := own_below hownU hb1
  have hBw1 := bel_call hB0 (Nat.le_refl _) hb1
  have hma24 : ma ≤ 24 := by rw [HMA.out]; have := arI_le l n; omega
  have hz1' := hb1.size
  clear hown0 hgrow0 hownU hi0 hz0 hz1 hz2 har hB0 hb1
  generalize w0.heap.size = b1 at *
  go_loopw [5] (fun i wr => ∃ k : Nat, k ≤ n ∧ i = .int .i64 k ∧ Own eI wr w.heap.size 2 (some ⟨w.heap.size, 0, none⟩) n (tmA l n k) ∧ Own eAr wr b1 84 qa da (arL l n) ∧ Below w.heap.size w wr) (fun i _ => n - (intOf i).toNat)
  case atStart => exact ⟨0, Nat.zero_le _, rfl, hownU1, howna, hBw1⟩
  case round =>
    clear hownU1 howna hBw1 hz1'
    obtain ⟨k, hk, rfl, hU, hA, hbw⟩ := hrel
    by_cases hlt : k < n
    · have hkl : k < l.length := by rw [HN.out]; exact hlt
      obtain ⟨b', eb, g1, g2, g3, g4, g5⟩ := own_setL hU k (by rw [tmA_len]; exact hlt)
      obtain rfl : w.heap.size = b' := by cases eb; rfl
      have hU2 := g5 1
      have hA2 := own_lowE hA (a := ⟨w.heap.size, k, none⟩) hUlt (.int .i64 1)
      have hb2 := hbw.setCell (show w.heap.size ≤ (⟨w.heap.size, k, none⟩ : Addr).block from Nat.le_refl _) (.int .i64 1)
      clear g5 eb g1
      go_wp2
      have HT : Hid ((tmA l n k).set k 1 = (tmA l n k).set k ((prF l k ((arI l n).take 0) : Nat) : Int)) := rfl
      rw [HT.out] at hU2
      generalize wr.setCell ⟨w.heap.size, k, none⟩ (.int .i64 1) = wq at *
      clear g2 g3 g4 hU hA hbw HT
      go_loopw [6] (fun j wx => ∃ a : Nat, a ≤ ma ∧ j = .int .i64 a ∧ Own eI wx w.heap.size 2 (some ⟨w.heap.size, 0, none⟩) n ((tmA l n k).set k ((prF l k ((arI l n).take a) : Nat) : Int)) ∧ Own eAr wx b1 84 qa da (arL l n) ∧ Below w.heap.size w wx) (fun j _ => ma - (intOf j).toNat)
      case atStart => exact ⟨0, Nat.zero_le _, rfl, hU2, hA2, hb2⟩
      case round =>
        clear hU2 hA2 hb2
        obtain ⟨a, ha, rfl, hU, hA, hbw⟩ := hrel
        by_cases hlt2 : a < ma
        · have hal : a < (arI l n).length := by rw [← HMA.out]; exact hlt2
          have hal' : a < (arL l n).length := by rw [arL_len]; exact hal
          obtain ⟨ba, oa, rfl, hba, e0, e1, e2, e3⟩ := (own_rd hA).area a hal'
          rw [ar_get hal] at e0 e1 e2 e3
          have hmem := arI_mem.1 (List.getElem_mem hal)
          have hnx : prF l k ((arI l n).take (a + 1)) = if inB l (arI l n)[a] k = true then prF l k ((arI l n).take a) * nOf l (arI l n)[a] else prF l k ((arI l n).take a) := by rw [List.take_succ_eq_append_getElem hal, prF_snoc]
          have hbd : prF l k ((arI l n).take (a + 1)) ≤ 400 := by have := prF_take HP.out hkl (a + 1); rw [HN.out] at this; exact this
          have hbd0 : prF l k ((arI l n).take a) ≤ 400 := by have := prF_take HP.out hkl a; rw [HN.out] at this; exact this
          generalize (arI l n)[a] = f at *
          have hfl : f < l.length := by rw [HN.out]; exact hmem.1
          have hmy := (HP.out.ins f hfl).1
          have hrc := rch_eq hmy
          obtain ⟨R, hR⟩ : ∃ R, rch (gt l f) = R := ⟨_, rfl⟩
          rw [hR] at hrc
          have hR24 : R ≤ 24 := by have := reach_bd hmy; omega
          have hf24 : f < n := hmem.1
          unfold arE at e0 e1 e2 e3
          simp only [← hrc] at e0 e1 e2 e3
          obtain ⟨b5, eb, g1, g2, g3, g4, g5⟩ := own_setL hU k (by rw [List.length_set, tmA_len]; exact hlt)
          obtain rfl : w.heap.size = b5 := by cases eb; rfl
          rw [List.getElem_set_self] at g4
          have hstay : ∀ w4, Below wr.heap.size wr w4 → Own eI w4 w.heap.size 2 (some ⟨w.heap.size, 0, none⟩) n ((tmA l n k).set k ((prF l k ((arI l n).take a) : Nat) : Int)) ∧ Own eAr w4 b1 84 (some ⟨ba, oa, none⟩) da (arL l n) ∧ Below w.heap.size w w4 := fun w4 hb => ⟨own_below hU hb, own_below hA hb, bel_call hbw (Nat.le_refl _) hb⟩
          have hset : ∀ w4 (v : Int), Below wr.heap.size wr w4 → Own eI (w4.setCell ⟨w.heap.size, k, none⟩ (.int .i64 v)) w.heap.size 2 (some ⟨w.heap.size, 0, none⟩) n ((tmA l n k).set k v) ∧ Own eAr (w4.setCell ⟨w.heap.size, k, none⟩ (.int .i64 v)) b1 84 (some ⟨ba, oa, none⟩) da (arL l n) ∧ Below w.heap.size w (w4.setCell ⟨w.heap.size, k, none⟩ (.int .i64 v)) := fun w4 v hb => by
            obtain ⟨t1, t2, t3⟩ := hstay w4 hb
            obtain ⟨b6, eb6, _, _, _, _, g6⟩ := own_setL t1 k (by rw [List.length_set, tmA_len]; exact hlt)
            obtain rfl : w.heap.size = b6 := by cases eb6; rfl
            have := g6 v
            rw [List.set_set] at this
            exact ⟨this, own_lowE t2 (a := ⟨w.heap.size, k, none⟩) hUlt _, t3.setCell (show w.heap.size ≤ (⟨w.heap.size, k, none⟩ : Addr).block from Nat.le_refl _) _⟩
          generalize prF l k ((arI l n).take a) = P at *
          by_cases h8 : (gt l f).1 = 8
          · have d8 : ((gt l f).1 == 8) = true := by rw [h8]; rfl
            rw [d8] at e3
            rw [in_has hR h8] at hnx
            have hno := nOf_bd HP.out.all h8
            obtain ⟨bl, ol, rfl, hbl, f0, f1, f2, f3⟩ := (hr.below hbw).inst f hfl
            have ge : l[f] = gt l f := (gt_eq hfl).symm
            rw [ge] at f0 f1 f2 f3
            rw [← hno.2.2] at f3
            generalize nOf l f = N at *
            obtain ⟨hn1, hn2, hn3⟩ := hno
            clear hn3
            cases hh : (decide ((f : Int) + 1 ≤ (k : Int)) && decide ((k : Int) ≤ (f : Int) + (R : Int))) with
            | true =>
              rw [hh, if_pos rfl] at hnx
              obtain ⟨M, hM⟩ : ∃ M, P * N = M := ⟨_, rfl⟩
              rw [hM] at hnx
              have hM4 : M ≤ 400 := by rw [← hnx]; exact hbd
              have HNX : Hid (prF l k ((arI l n).take (a + 1)) = M) := hnx
              have hPN : (P : Int) * (N : Int) = (M : Int) := by rw [← hM]; simp
              have hc := fun w' => has_c ((f : Int) + 1) ((f : Int) + (R : Int)) (f : Int) true (k : Int) w' true hh
              clear hnx hM hbd hmem hal hal' hrc hR hmy g5 g1 eb ge d8 hh hfl f0 f1 f2 hU hA
              go_wp2_with (go_at_call 44; (with_reducible (refine (hc _).mono ?_)); rintro e w4 ⟨rfl, hb4⟩)
              have p0 := (hb4.cell (p := ⟨w.heap.size, k, none⟩) g2).trans g4
              have pz := (hb4.frozen (p := ⟨w.heap.size, k, none⟩) g2).trans g3
              have p2 := (hb4.cell (p := ⟨ba, oa + a * 4 + 2, none⟩) hba).trans e2
              have p3 := (hb4.cell (p := ⟨bl, ol + f * 4 + 3, none⟩) hbl).trans f3
              have wm : wrap64 (M : Int) = (M : Int) := by simp [wrap64]; omega
              clear g2 g3 g4 hba e0 e1 e2 e3 hbl f3 hbw
              go_region
              go_wp2
              go_roundw
              case rel => exact ⟨a + 1, by omega, by go_num, by rw [HNX.out]; exact own_below (hset w4 _ hb4).1 ((Below.refl _ _).drew), own_below (hset w4 _ hb4).2.1 ((Below.refl _ _).drew), (hset w4 _ hb4).2.2.drew⟩
              case measure => simp [intOf]; omega
            | false =>
              rw [hh, if_neg (by simp)] at hnx
              have HNX : Hid (prF l k ((arI l n).take (a + 1)) = P) := hnx
              have hc := fun w' => has_c ((f : Int) + 1) ((f : Int) + (R : Int)) (f : Int) true (k : Int) w' false hh
              clear hnx hbd hmem hal hal' hrc hR hmy g5 g1 eb ge d8 hh hfl f0 f1 f2 hU hA
              go_wp2_with (go_at_call 44; (with_reducible (refine (hc _).mono ?_)); rintro e w4 ⟨rfl, hb4⟩)
              go_roundw
              case rel => exact ⟨a + 1, by omega, by go_num, by rw [HNX.out]; exact (hstay w4 hb4).1, (hstay w4 hb4).2.1, (hstay w4 hb4).2.2⟩
              case measure => simp [intOf]; omega
          · have d8 : ((gt l f).1 == 8) = false := by simpa using h8
            rw [d8] at e3
            have hib : inB l f k = false := inB_no.2 (fun h => h8 h.2)
            rw [hib, if_neg (by simp)] at hnx
            have HNX : Hid (prF l k ((arI l n).take (a + 1)) = P) := hnx
            clear hnx hbd hmem hal hal' hrc hR hmy g5 g1 eb hfl
            go_wp2
            go_roundw
            case rel => exact ⟨a + 1, by omega, by go_num, by rw [HNX.out]; exact hU, hA, hbw⟩
            case measure => simp [intOf]; omega
        · obtain rfl : a = ma := by omega
          have da' : decide ((a : Int) < (a : Int)) = false := by simp
          have HF : Hid (prF l k ((arI l n).take a) = wt l 0 k) := by
            show _ = _
            rw [List.take_of_length_le (by rw [HMA.out]; exact Nat.le_refl _)]
            have := prF_all l hkl
            rw [HN.out] at this
            exact this
          rw [HF.out, ← tmA_next] at hU
          clear HF
          go_wp2
          go_roundw
          case rel => exact ⟨k + 1, by omega, by go_num, hU, hA, hbw⟩
          case measure => simp [intOf]; omega
    · obtain rfl : k = n := by omega
      have dk : decide ((k : Int) < (k : Int)) = false := by simp
      go_wp2
      go_ret
      exact ⟨⟨_, _, rfl, hU⟩, hbw⟩
end Go.Proofs.Yteikdocpncdheaa
