/-
  The law DeltaAlone, walked.
-/
import Derived.Test.YtannkdnjbacbdaaManyWalk
import Derived.Test.YtannkdnjbacbdaaAlone
import Derived.Test.YtannkdnjbacbdaaDropMid
import Derived.Deep.Cut
import Derived.Deep.CutRange
import Derived.Deep.CutBlock
namespace Go.Proofs.Ytannkdnjbacbdaa
open Go.ChangeShapes Go.WideShapes Go.ChangeAt Go.RowKit
attribute [local go_sem ↓] Go.wp_at_zero Go.wp_at_succ

/-- thirty bools in a block of their own -/
structure OffAt (w : World) (b : Nat) (off : Nat → Bool) : Prop where
  lt : b < w.heap.size
  cell : ∀ i, i < 30 → w.cell? ⟨b, i, none⟩ = some (.bool (off i))
  frz : ∀ i, w.frozen? ⟨b, i, none⟩ = false
theorem OffAt.below {w w' : World} {b : Nat} {off : Nat → Bool} (h : OffAt w b off) (hb : Below w.heap.size w w') : OffAt w' b off :=
  ⟨Nat.lt_of_lt_of_le h.lt hb.size, fun i hi => (hb.cell (p := ⟨b, i, none⟩) h.lt).trans (h.cell i hi), fun i => (hb.frozen (p := ⟨b, i, none⟩) h.lt).trans (h.frz i)⟩
theorem OffAt.set {w : World} {b : Nat} {off : Nat → Bool} (h : OffAt w b off) (k : Nat) (hk : k < 30) : OffAt (w.setCell ⟨b, k, none⟩ (.bool true)) b (offSet off k) := by
  refine ⟨by simpa [World.setCell] using h.lt, fun i hi => ?_, fun i => by rw [World.frozen?_setCell]; exact h.frz i⟩
  unfold offSet
  by_cases e : i = k
  · subst e
    rw [if_pos rfl, World.cell?_setCell_same w ⟨b, i, none⟩ _ (h.cell i hi)]
  · rw [if_neg e, World.cell?_setCell_other w ⟨b, k, none⟩ ⟨b, i, none⟩ _ (by simp)]
    exact h.cell i hi

theorem drop_c (p : Option Addr) (c : Nat) (l : List Tm) (w : World) (N : Nat) (l' : List Tm) (N' : Nat) (b : Bool) (k : Int) (hN : l.length = N) (hl' : resDrop l k = l') (hN' : l'.length = N') (hb : hasT l k = b) (hr : Rd w p c l) (hl : N ≤ 100) (hB : Bd l) :
    Calls Try.prog 10 #[.slice p N c, .int .i64 k] w fun e w' => ∃ p' c', e = .returned (.tuple #[.slice p' N' c', .bool b]) ∧ Rd w' p' c' l' ∧ Below w.heap.size w w' := by
  subst hN hN' hl' hb
  exact delta_drop p c l w hr hl hB k

theorem fl_int : ∀ (l : List Tm), ∀ v ∈ fl l, ∃ a, v = .int .i64 a
  | x :: r, v, hv => by
    simp only [fl, List.mem_cons] at hv
    rcases hv with rfl | rfl | hv
    · exact ⟨_, rfl⟩
    · exact ⟨_, rfl⟩
    · exact fl_int r v hv
/-- A store over a bool turns no row of timers. -/
theorem Rd.setBool {w : World} {p : Option Addr} {c : Nat} {l : List Tm} (h : Rd w p c l) {b k : Nat} {x : Bool} (hx : w.cell? ⟨b, k, none⟩ = some (.bool x)) (v : Value) : Rd (w.setCell ⟨b, k, none⟩ v) p c l := by
  refine ⟨h.cap, ?_⟩
  rcases h.at_ with h0 | ⟨b', o, s, rfl, hs, hc⟩
  · exact .inl h0
  · refine .inr ⟨b', o, s, rfl, hs, fun j u hj => ?_⟩
    have hu := hc j u hj
    rw [World.cell?_setCell_other w ⟨b, k, none⟩ ⟨b', o + j, none⟩ _ (fun e => ?_)]
    · exact hu
    · rw [← e, hx] at hu
      obtain ⟨a, rfl⟩ := fl_int l u (List.mem_of_getElem? hj)
      cases hu

theorem off_none (w : World) : OffAt (w.alloc (.cells (Array.replicate 30 (.bool false)) 46)) w.heap.size (fun _ => false) := by
  refine ⟨by simp, fun i hi => ?_, fun i => ?_⟩
  · rw [cell_of_row _ w.heap.size i _ 46 (0, 0) (heap_alloc_new w _)]
    simp [hi]
  · unfold World.frozen?
    rw [heap_alloc_new w _]
    simp

set_option maxRecDepth 100000 in
set_option maxHeartbeats 4000000 in
theorem alone_walk (p : Option Addr) (c n : Nat) (zs : List Int) (q : Option Addr) (d m : Nat) (gs : List Int) (w : World) (hr : RdB w p c zs) (hn : n = zs.length) (hz : ∀ x ∈ zs, 0 ≤ x ∧ x ≤ 255) (hrg : RdB w q d gs) (hm : m = gs.length) (hgz : ∀ x ∈ gs, 0 ≤ x ∧ x ≤ 255) :
    Calls Try.prog 6 #[.slice p n c, .slice q m d] w fun e w' => e = .returned (.bool true) ∧ Below w.heap.size w w' := by
  by_cases hbig : 30 < n
  · have h1 : decide ((30 : Int) < (n : Int)) = true := by simp; omega
    go_enter Try.func6, Try.ntmps6
    go_wp2_with (go_at_call 7; refine (begun_any _).mono ?_; rintro e w1 ⟨rfl, hb1⟩)
    go_ret
    exact ⟨rfl, hb1⟩
  have h1 : decide ((30 : Int) < (n : Int)) = false := by simp; omega
  by_cases hbig2 : 30 < m
  · have h2 : decide ((30 : Int) < (m : Int)) = true := by simp; omega
    go_enter Try.func6, Try.ntmps6
    go_wp2_with (go_at_call 7; refine (begun_any _).mono ?_; rintro e w1 ⟨rfl, hb1⟩)
    go_ret
    exact ⟨rfl, hb1⟩
  have h2 : decide ((30 : Int) < (m : Int)) = false := by simp; omega
  have hA := adds_all (modF zs 40) (modF_bd zs 40 (by omega) (by omega))
  obtain ⟨F, hF⟩ : ∃ F, F = modF zs 40 := ⟨_, rfl⟩
  rw [← hF] at hA
  have HN : Hid (n = zs.length) := hn
  have HM : Hid (m = gs.length) := hm
  clear hn hm
  go_enter Try.func6, Try.ntmps6
  go_wp2_with (go_at_call 7; refine (begun_any _).mono ?_; rintro e w1 ⟨rfl, hb1⟩)
  go_loopw [5, 6] (fun a i wr => ∃ (k : Nat) (p' : Option Addr) (c' : Nat), k ≤ n ∧ i = .int .i64 k ∧ a = .slice p' (addsT F k).length c' ∧ Rd wr p' c' (addsT F k) ∧ Below w.heap.size w wr) (fun _ i _ => n - (intOf i).toNat)
  case atStart => exact ⟨0, none, 0, Nat.zero_le _, rfl, rfl, Rd.nil _, hb1⟩
  case round =>
    obtain ⟨k, p', c', hk, rfl, rfl, hrd, hbw⟩ := hrel
    clear hb1
    have hlen := (hA k).len
    by_cases hlt : k < n
    · obtain ⟨b, o, rfl, hb, hc1⟩ := (hr.below hbw).cell k (by rw [← HN.out]; exact hlt)
      have hx := hz zs[k] (List.getElem_mem _)
      have HF : Hid (F k = zs[k]'(by rw [← HN.out]; exact hlt) % 40) := by show _ = _; rw [hF]; exact modF_at _
      generalize zs[k]'(by rw [← HN.out]; exact hlt) = x at *
      have hx0 := hx.1
      have hx1 := hx.2
      have hok := (hA k).ok (by rw [HF.out]; omega) (by rw [HF.out]; omega)
      rw [HF.out] at hok
      have HT : Hid (resAdd (addsT F k) (x % 40) k = addsT F (k + 1)) := by show _ = _; rw [← HF.out]; rfl
      have HO : Hid (okAdd (addsT F k) (x % 40) k = true) := by show _ = _; rw [hok]; simp; omega
      have hBd := (hA k).bd
      have hNk : (addsT F k).length ≤ 100 := by omega
      clear hok hx
      generalize hL : (addsT F k) = L at *
      generalize hL' : (addsT F (k + 1)) = L' at *
      clear hL hlen
      go_wp2_with (go_at_call 8; refine (add_c _ _ L _ L.length L' L'.length true (x % 40) k rfl HT.out rfl HO.out hrd hNk hBd (by omega) (by omega)).mono ?_; rintro e w2 ⟨p2, c2, rfl, h3, hb2⟩)
      go_roundw
      case rel => exact ⟨k + 1, _, _, by omega, by go_num, by rw [hL'], by rw [hL']; exact h3, bel_call hbw (Nat.le_refl _) hb2⟩
      case measure => simp [intOf]; omega
    · obtain rfl : k = n := by omega
      have hBd := (hA k).bd
      have hJ : Just F k (absT 0 (addsT F k)) := ⟨by have := (hA k).perm; rwa [show min k 64 = k by omega] at this⟩
      have hBy : ∀ y ∈ absT 0 (addsT F k), 0 ≤ y.2 := fun y hy => by
        obtain ⟨i, _, rfl⟩ := (hJ.mem y).1 hy
        show (0 : Int) ≤ (i : Int); omega
      have hF39 : ∀ y ∈ absT 0 (addsT F k), 0 ≤ y.1 ∧ y.1 ≤ 39 := fun y hy => by
        obtain ⟨i, _, rfl⟩ := (hJ.mem y).1 hy
        show 0 ≤ F i ∧ F i ≤ 39
        rw [hF]; unfold modF; omega
      have h0 : absT 0 (addsT F k) = aftA (1 - 1) (offB (fun _ => false) (absT 0 (addsT F k))) := by
        have : offB (fun _ => false) (absT 0 (addsT F k)) = absT 0 (addsT F k) := by unfold offB; simp
        rw [this]; exact (aftA_zero _).symm
      have hoff := off_none wr
      have hbS := hbw.alloc hbw.size (.cells (Array.replicate 30 (.bool false)) 46)
      have hrS := hrd.below ((Below.refl _ wr).alloc (Nat.le_refl _) (.cells (Array.replicate 30 (.bool false)) 46))
      have hSw := hbw.size
      have H0 : Hid (absT 0 (addsT F k) = aftA (1 - 1) (offB (fun _ => false) (absT 0 (addsT F k)))) := h0
      clear h0
      generalize hBB : absT 0 (addsT F k) = B at *
      have HBB : Hid (absT 0 (addsT F k) = B) := hBB
      clear hBB
      go_wp2
      obtain ⟨S, hS⟩ : ∃ S, S = wr.heap.size := ⟨_, rfl⟩
      rw [← hS] at hoff hSw ⊢
      clear hS
      go_loopw [5, 10] (fun a t wx => ∃ (T : Nat) (τ : Int) (p' : Option Addr) (c' : Nat) (l : List Tm) (off : Nat → Bool), T ≤ 40 ∧ t = .int .i64 τ ∧ Hid (τ = (T : Int) + 1) ∧ Bd l ∧ Hid (absT 0 l = aftA (τ - 1) (offB off B)) ∧ l.length ≤ 64 ∧ a = .slice p' l.length c' ∧ Rd wx p' c' l ∧ OffAt wx S off ∧ Below w.heap.size w wx) (fun _ t _ => 41 - (intOf t).toNat)
      case atStart => exact ⟨0, 1, _, _, addsT F k, _, by omega, rfl, (rfl : (1 : Int) = ((0 : Nat) : Int) + 1), hBd, (HBB.out.trans H0.out : absT 0 (addsT F k) = _), by omega, rfl, hrS, hoff, hbS⟩
      case round =>
        obtain ⟨T, τ, p2, c2, l, off, hT, rfl, Hτ, hBd2, HA, hl64, rfl, hrd2, hof, hbw2⟩ := hrel
        clear hrd hbw hlen hBd hoff hbS hrS H0
        have hτ := Hτ.out
        by_cases hT2 : T < 40
        · have hτ0 : 1 ≤ τ := by omega
          have hτ1 : τ ≤ 40 := by omega
          have hτa : τ ≤ (T : Int) + 1 := by omega
          have hτb : (T : Int) + 1 ≤ τ := by omega
          have eT : (τ - 1).toNat = T := by omega
          rcases Nat.eq_zero_or_pos T with hT0 | hT0
          · clear Hτ eT hτa hτb
            obtain rfl : T = 0 := hT0
            obtain rfl : τ = 1 := by omega
            clear hτ
            go_upto_block 3 with fail
            refine wp_block ?_
            refine wp_seq_k ?_
            intro K2 hK2
            go_cut [5, 11, 12, 13] from 50 to 173 (fun a _ _ _ wx => ∃ (p3 : Option Addr) (c3 : Nat) (l3 : List Tm) (off3 : Nat → Bool), a = .slice p3 l3.length c3 ∧ Bd l3 ∧ Hid (absT 0 l3 = aftA (1 - 1) (offB off3 B)) ∧ l3.length ≤ 64 ∧ Rd wx p3 c3 l3 ∧ OffAt wx S off3 ∧ Below w.heap.size w wx)
            case first =>
              by_cases hg : 0 < m
              · have dg : decide ((0 : Int) < (m : Int)) = true := by simp; omega
                by_cases hn0 : 0 < k
                · have dn : decide ((0 : Int) < (k : Int)) = true := by simp; omega
                  have hTz : 0 < gs.length := by rw [← HM.out]; exact hg
                  obtain ⟨gb, go, rfl, hgb, hgc⟩ := (hrg.below hbw2).cell 0 hTz
                  have hgx := hgz (gs[0]'hTz) (List.getElem_mem _)
                  generalize gs[0]'hTz = g at *
                  simp only [Nat.add_zero] at hgc
                  have hg0 := hgx.1
                  have hg1 := hgx.2
                  obtain ⟨κ, hκ⟩ : ∃ κ : Nat, g % (k : Int) = κ := ⟨(g % (k : Int)).toNat, by have := Int.emod_nonneg g (show (k : Int) ≠ 0 by omega); omega⟩
                  have hκk : κ < k := by have := Int.emod_lt_of_pos g (show (0 : Int) < (k : Int) by omega); omega
                  have hκ0 : (κ : Int) < 30 := by omega
                  have hκ1 : (κ : Int) < (k : Int) := by omega
                  have hκz : κ < zs.length := by rw [← HN.out]; exact hκk
                  obtain ⟨zb, zo, rfl, hzb, hzc⟩ := (hr.below hbw2).cell κ hκz
                  have hx := hz zs[κ] (List.getElem_mem _)
                  have HF : Hid (F κ = zs[κ] % 40) := by show _ = _; rw [hF]; exact modF_at _
                  have HH : Hid (hasT l κ = (!off κ && decide ((1 - 1 : Int) < max (F κ) 1))) := has_off hJ HA.out κ hκk
                  have HA3 : Hid (absT 0 (resDrop l κ) = aftA (1 - 1) (offB (offSet off κ) B)) := abs_off hBd2 hBy HA.out κ
                  have hBd3 := bd_resDrop hBd2 κ
                  have hl3 : (resDrop l κ).length ≤ 64 := by
                    unfold resDrop
                    split
                    · rename_i hh
                      obtain ⟨A, hA1, _, h2, _⟩ := place_of l κ hh
                      have := (drop_keys l (placeT l κ).toNat (by rw [h2]; simpa using hA1)).length_le
                      simp at this; omega
                    · exact hl64
                  rw [HF.out] at HH
                  generalize zs[κ] = x at *
                  have hx0 := hx.1
                  have hx1 := hx.2
                  have dT : (0 : Int) ≤ (m : Int) := by omega
                  clear hx hgx
                  cases hoff : off κ with
                  | true =>
                    have HH2 : Hid (hasT l κ = false) := by show _ = _; rw [HH.out, hoff]; rfl
                    clear HH
                    go_wp2_with (go_at_call 10; refine (drop_c _ _ l _ l.length (resDrop l κ) (resDrop l κ).length false κ rfl rfl rfl HH2.out hrd2 (by omega) hBd2).mono ?_; rintro e w3 ⟨p3, c3, rfl, hrd3, hb3⟩; have hof3 := hof.below hb3; have hoc3 := hof3.cell κ (by omega); have hofz3 := hof3.frz κ; have hzc3 := (hb3.cell (p := ⟨zb, zo + κ, none⟩) hzb).trans hzc; rw [hoff] at hoc3)
                    go_meet
                    case rel => exact ⟨p3, c3, resDrop l κ, offSet off κ, rfl, hBd3, HA3, hl3, hrd3.setBool hoc3 _, hof3.set κ (by omega), (bel_call hbw2 (Nat.le_refl _) hb3).setCell hSw _⟩
                  | false =>
                    rcases (by omega : x % 40 < 1 ∨ x % 40 = 1 ∨ 1 < x % 40) with hv | hv | hv
                    · have HH2 : Hid (hasT l κ = true) := by
                        show _ = _
                        rw [HH.out, hoff]
                        simp
                        omega
                      clear HH
                      go_wp2_with (go_at_call 10; refine (drop_c _ _ l _ l.length (resDrop l κ) (resDrop l κ).length true κ rfl rfl rfl HH2.out hrd2 (by omega) hBd2).mono ?_; rintro e w3 ⟨p3, c3, rfl, hrd3, hb3⟩; have hof3 := hof.below hb3; have hoc3 := hof3.cell κ (by omega); have hofz3 := hof3.frz κ; have hzc3 := (hb3.cell (p := ⟨zb, zo + κ, none⟩) hzb).trans hzc; rw [hoff] at hoc3)
                      go_meet
                      case rel => exact ⟨p3, c3, resDrop l κ, offSet off κ, rfl, hBd3, HA3, hl3, hrd3.setBool hoc3 _, hof3.set κ (by omega), (bel_call hbw2 (Nat.le_refl _) hb3).setCell hSw _⟩
                    · have HH2 : Hid (hasT l κ = true) := by
                        show _ = _
                        rw [HH.out, hoff]
                        simp
                        omega
                      clear HH
                      go_wp2_with (go_at_call 10; refine (drop_c _ _ l _ l.length (resDrop l κ) (resDrop l κ).length true κ rfl rfl rfl HH2.out hrd2 (by omega) hBd2).mono ?_; rintro e w3 ⟨p3, c3, rfl, hrd3, hb3⟩; have hof3 := hof.below hb3; have hoc3 := hof3.cell κ (by omega); have hofz3 := hof3.frz κ; have hzc3 := (hb3.cell (p := ⟨zb, zo + κ, none⟩) hzb).trans hzc; rw [hoff] at hoc3)
                      go_meet
                      case rel => exact ⟨p3, c3, resDrop l κ, offSet off κ, rfl, hBd3, HA3, hl3, hrd3.setBool hoc3 _, hof3.set κ (by omega), (bel_call hbw2 (Nat.le_refl _) hb3).setCell hSw _⟩
                    · have HH2 : Hid (hasT l κ = true) := by
                        show _ = _
                        rw [HH.out, hoff]
                        simp
                        omega
                      have d9 : decide ((1 : Int) ≤ x % 40) = true := by simp; omega
                      clear HH
                      go_wp2_with (go_at_call 10; refine (drop_c _ _ l _ l.length (resDrop l κ) (resDrop l κ).length true κ rfl rfl rfl HH2.out hrd2 (by omega) hBd2).mono ?_; rintro e w3 ⟨p3, c3, rfl, hrd3, hb3⟩; have hof3 := hof.below hb3; have hoc3 := hof3.cell κ (by omega); have hofz3 := hof3.frz κ; have hzc3 := (hb3.cell (p := ⟨zb, zo + κ, none⟩) hzb).trans hzc; rw [hoff] at hoc3)
                      go_meet
                      case rel => exact ⟨p3, c3, resDrop l κ, offSet off κ, rfl, hBd3, HA3, hl3, hrd3.setBool hoc3 _, hof3.set κ (by omega), (bel_call hbw2 (Nat.le_refl _) hb3).setCell hSw _⟩
                · have dn : decide ((0 : Int) < (k : Int)) = false := by simp; omega
                  go_wp2
                  go_meet
                  case rel => exact ⟨p2, c2, l, off, rfl, hBd2, HA, hl64, hrd2, hof, hbw2⟩
              · have dg : decide ((0 : Int) < (m : Int)) = false := by simp; omega
                go_wp2
                go_meet
                case rel => exact ⟨p2, c2, l, off, rfl, hBd2, HA, hl64, hrd2, hof, hbw2⟩
            case rest =>
              obtain ⟨p3, c3, l3, off3, rfl, hBd3, HA3, hl3, hrd3, hof3, hbw3⟩ := hcut
              clear hrd2 hof hbw2 hBd2 HA hl64
              have htk := abs_tick l3 hBd3.low
              have haf := tick_aft (1 - 1) (by omega) (offB off3 B)
              rw [HA3.out] at htk
              rw [Int.sub_add_cancel] at haf
              have HK : Hid ((l3.take (dueT l3)).map (·.2) = atA 1 (offB off3 B)) := htk.2.trans haf.2
              have HA4 : Hid (absT 0 (restT l3) = aftA (1 + 1 - 1) (offB off3 B)) := by show _ = _; rw [Int.add_sub_cancel]; exact htk.1.trans haf.1
              have hl4 : (restT l3).length ≤ 64 := by unfold restT; rw [List.length_drop, decT_length]; omega
              have HC : Hid ((atA 1 (offB off3 B)).length = cntO off3 F 1 k) := at_len hJ off3 1
              have hBd4 := bd_rest hBd3
              have hkmem : ∀ z ∈ atA 1 (offB off3 B), ∃ i : Nat, i < k ∧ z = i ∧ off3 i = false ∧ max (F i) 1 = 1 := fun z hz => at_off hJ hz
              have hcl := cnt_le off3 F 1
              clear htk haf
              generalize hks : atA (1 : Int) (offB off3 B) = ks at *
              generalize hl' : restT l3 = l4 at *
              clear hks
              have hks30 : ks.length ≤ 30 := by rw [HC.out]; have := hcl k; omega
              refine hK2 _ _ ?_
              go_wp2_with (go_at_call 12; refine (tick_c _ _ l3 _ l3.length l4 l4.length ks ks.length rfl hl' rfl HK.out rfl hrd3 (by omega) hBd3).mono ?_; rintro e w4 ⟨p4, c4, q4, d4, rfl, hrd4, hri4, hb4⟩)
              have hbw4 := bel_call hbw3 (Nat.le_refl _) hb4
              have hof4 := hof3.below hb4
              clear hb4 hof3 hbw3 hrd3 HK HA3 hl'
              go_loop [16, 17] (fun nn i => ∃ κ : Nat, κ ≤ k ∧ i = .int .i64 κ ∧ nn = .int .i64 (cntO off3 F 1 κ)) (fun _ i => k - (intOf i).toNat)
              case atStart => exact ⟨0, Nat.zero_le _, rfl, rfl⟩
              case round =>
                obtain ⟨κ, hκ, rfl, rfl⟩ := hrel
                have hcb := hcl κ
                by_cases hκl : κ < k
                · have hκz : κ < zs.length := by rw [← HN.out]; exact hκl
                  obtain ⟨zb, zo, rfl, hzb, hzc⟩ := (hr.below hbw4).cell κ hκz
                  have hx := hz zs[κ] (List.getElem_mem _)
                  have HF : Hid (F κ = zs[κ] % 40) := by show _ = _; rw [hF]; exact modF_at _
                  have hoc := hof4.cell κ (by omega)
                  have hκ0 : (κ : Int) < 30 := by omega
                  generalize zs[κ] = x at *
                  have hx0 := hx.1
                  have hx1 := hx.2
                  clear hx
                  cases hoff : off3 κ with
                  | true =>
                    have HN2 : Hid (cntO off3 F 1 (κ + 1) = cntO off3 F 1 κ) := cnt_no (by rw [hoff]; simp)
                    rw [hoff] at hoc
                    generalize hcnt : cntO off3 F (1 : Int) κ = cn at *
                    clear hcnt hkmem hri4
                    go_wp2
                    go_round
                    case rel => exact ⟨κ + 1, by omega, by go_num, by rw [HN2.out]⟩
                    case measure => simp [intOf]; omega
                  | false =>
                    rw [hoff] at hoc
                    rcases (by omega : x % 40 < 1 ∨ x % 40 = 1 ∨ 1 < x % 40) with hv | hv | hv
                    · have HN2 : Hid (cntO off3 F 1 (κ + 1) = cntO off3 F 1 κ + 1) := cnt_yes ⟨hoff, by rw [HF.out]; omega⟩
                      generalize hcnt : cntO off3 F (1 : Int) κ = cn at *
                      clear hcnt hkmem hri4 HF
                      go_wp2
                      go_round
                      case rel => exact ⟨κ + 1, by omega, by go_num, by first | (rw [HN2.out]; done) | (rw [HN2.out]; go_num)⟩
                      case measure => simp [intOf]; omega
                    · have HN2 : Hid (cntO off3 F 1 (κ + 1) = cntO off3 F 1 κ + 1) := cnt_yes ⟨hoff, by rw [HF.out]; omega⟩
                      generalize hcnt : cntO off3 F (1 : Int) κ = cn at *
                      clear hcnt hkmem hri4 HF
                      go_wp2
                      go_round
                      case rel => exact ⟨κ + 1, by omega, by go_num, by first | (rw [HN2.out]; done) | (rw [HN2.out]; go_num)⟩
                      case measure => simp [intOf]; omega
                    · have HN2 : Hid (cntO off3 F 1 (κ + 1) = cntO off3 F 1 κ) := cnt_no (by rw [HF.out]; omega)
                      have d8 : ((x % 40) == 1) = false := by simp; omega
                      generalize hcnt : cntO off3 F (1 : Int) κ = cn at *
                      clear hcnt hkmem hri4 HF
                      go_wp2
                      go_round
                      case rel => exact ⟨κ + 1, by omega, by go_num, by first | (rw [HN2.out]; done) | (rw [HN2.out]; go_num)⟩
                      case measure => simp [intOf]; omega
                · obtain rfl : κ = k := by omega
                  rw [← HC.out]
                  clear HC hcb
                  go_wp2
                  go_loop [18] (fun i => ∃ j : Nat, j ≤ ks.length ∧ i = .int .i64 j) (fun i => ks.length - (intOf i).toNat)
                  case atStart => exact ⟨0, Nat.zero_le _, rfl⟩
                  case round =>
                    obtain ⟨j, hj, rfl⟩ := hrel
                    by_cases hjl : j < ks.length
                    · obtain ⟨qb, qo, rfl, _, hqc⟩ := hri4.cell j hjl
                      obtain ⟨i, hi1, hi3, hi5, hi4⟩ := hkmem ks[j] (List.getElem_mem hjl)
                      have hiz : i < zs.length := by rw [← HN.out]; exact hi1
                      obtain ⟨zb, zo, rfl, hzb, hzc⟩ := (hr.below hbw4).cell i hiz
                      have hx := hz zs[i] (List.getElem_mem _)
                      have HF : Hid (F i = zs[i] % 40) := by show _ = _; rw [hF]; exact modF_at _
                      rw [HF.out] at hi4
                      have hoc := hof4.cell i (by omega)
                      rw [hi5] at hoc
                      rw [hi3] at hqc
                      have hi0 : (i : Int) < 30 := by omega
                      generalize zs[i] = x at *
                      have hx0 := hx.1
                      have hx1 := hx.2
                      have z1 : decide ((κ : Int) ≤ (i : Int)) = false := by simp; omega
                      have hm0 : x % 40 < 1 ∨ x % 40 = 1 := by omega
                      clear hx hkmem hri4 hi3 hi4 hi5 HF
                      rcases hm0 with hv | hv
                      all_goals
                        go_wp2
                        go_round
                        case rel => exact ⟨j + 1, by omega, by go_num⟩
                        case measure => simp [intOf]; omega
                    · obtain rfl : j = ks.length := by omega
                      clear hkmem hri4
                      go_wp2
                      go_roundw
                      case rel => exact ⟨1, _, p4, c4, l4, off3, by omega, rfl, (rfl : (1 : Int) + 1 = ((1 : Nat) : Int) + 1), hBd4, HA4, hl4, rfl, hrd4, hof4, hbw4⟩
                      case measure => simp [intOf]
          · have hτ2 : 1 < τ := by omega
            clear hτ
            go_upto_block 3 with fail
            refine wp_block ?_
            refine wp_seq_k ?_
            intro K2 hK2
            go_cut [5, 11, 12, 13] from 50 to 173 (fun a _ _ _ wx => ∃ (p3 : Option Addr) (c3 : Nat) (l3 : List Tm) (off3 : Nat → Bool), a = .slice p3 l3.length c3 ∧ Bd l3 ∧ Hid (absT 0 l3 = aftA (τ - 1) (offB off3 B)) ∧ l3.length ≤ 64 ∧ Rd wx p3 c3 l3 ∧ OffAt wx S off3 ∧ Below w.heap.size w wx)
            case first =>
              by_cases hg : T < m
              · have dg : decide (τ - 1 < (m : Int)) = true := by simp; omega
                by_cases hn0 : 0 < k
                · have dn : decide ((0 : Int) < (k : Int)) = true := by simp; omega
                  have hTz : T < gs.length := by rw [← HM.out]; exact hg
                  obtain ⟨gb, go, rfl, hgb, hgc⟩ := (hrg.below hbw2).cell T hTz
                  have hgx := hgz (gs[T]'hTz) (List.getElem_mem _)
                  generalize gs[T]'hTz = g at *
                  have hg0 := hgx.1
                  have hg1 := hgx.2
                  obtain ⟨κ, hκ⟩ : ∃ κ : Nat, g % (k : Int) = κ := ⟨(g % (k : Int)).toNat, by have := Int.emod_nonneg g (show (k : Int) ≠ 0 by omega); omega⟩
                  have hκk : κ < k := by have := Int.emod_lt_of_pos g (show (0 : Int) < (k : Int) by omega); omega
                  have hκ0 : (κ : Int) < 30 := by omega
                  have hκ1 : (κ : Int) < (k : Int) := by omega
                  have hκz : κ < zs.length := by rw [← HN.out]; exact hκk
                  obtain ⟨zb, zo, rfl, hzb, hzc⟩ := (hr.below hbw2).cell κ hκz
                  have hx := hz zs[κ] (List.getElem_mem _)
                  have HF : Hid (F κ = zs[κ] % 40) := by show _ = _; rw [hF]; exact modF_at _
                  have HH : Hid (hasT l κ = (!off κ && decide ((τ - 1 : Int) < max (F κ) 1))) := has_off hJ HA.out κ hκk
                  have HA3 : Hid (absT 0 (resDrop l κ) = aftA (τ - 1) (offB (offSet off κ) B)) := abs_off hBd2 hBy HA.out κ
                  have hBd3 := bd_resDrop hBd2 κ
                  have hl3 : (resDrop l κ).length ≤ 64 := by
                    unfold resDrop
                    split
                    · rename_i hh
                      obtain ⟨A, hA1, _, h2, _⟩ := place_of l κ hh
                      have := (drop_keys l (placeT l κ).toNat (by rw [h2]; simpa using hA1)).length_le
                      simp at this; omega
                    · exact hl64
                  rw [HF.out] at HH
                  generalize zs[κ] = x at *
                  have hx0 := hx.1
                  have hx1 := hx.2
                  have dT : τ - 1 < (m : Int) ∧ 0 ≤ τ - 1 := by omega
                  clear hx hgx
                  cases hoff : off κ with
                  | true =>
                    have HH2 : Hid (hasT l κ = false) := by show _ = _; rw [HH.out, hoff]; rfl
                    clear HH
                    go_wp2_with (go_at_call 10; refine (drop_c _ _ l _ l.length (resDrop l κ) (resDrop l κ).length false κ rfl rfl rfl HH2.out hrd2 (by omega) hBd2).mono ?_; rintro e w3 ⟨p3, c3, rfl, hrd3, hb3⟩; have hof3 := hof.below hb3; have hoc3 := hof3.cell κ (by omega); have hofz3 := hof3.frz κ; have hzc3 := (hb3.cell (p := ⟨zb, zo + κ, none⟩) hzb).trans hzc; rw [hoff] at hoc3)
                    go_meet
                    case rel => exact ⟨p3, c3, resDrop l κ, offSet off κ, rfl, hBd3, HA3, hl3, hrd3.setBool hoc3 _, hof3.set κ (by omega), (bel_call hbw2 (Nat.le_refl _) hb3).setCell hSw _⟩
                  | false =>
                    rcases (by omega : x % 40 < 1 ∨ x % 40 = 1 ∨ 1 < x % 40) with hv | hv | hv
                    · have HH2 : Hid (hasT l κ = false) := by
                        show _ = _
                        rw [HH.out, hoff]
                        simp
                        omega
                      have d9 : decide (τ ≤ 1) = false := by simp; omega
                      clear HH
                      go_wp2_with (go_at_call 10; refine (drop_c _ _ l _ l.length (resDrop l κ) (resDrop l κ).length false κ rfl rfl rfl HH2.out hrd2 (by omega) hBd2).mono ?_; rintro e w3 ⟨p3, c3, rfl, hrd3, hb3⟩; have hof3 := hof.below hb3; have hoc3 := hof3.cell κ (by omega); have hofz3 := hof3.frz κ; have hzc3 := (hb3.cell (p := ⟨zb, zo + κ, none⟩) hzb).trans hzc; rw [hoff] at hoc3)
                      go_meet
                      case rel => exact ⟨p3, c3, resDrop l κ, offSet off κ, rfl, hBd3, HA3, hl3, hrd3.setBool hoc3 _, hof3.set κ (by omega), (bel_call hbw2 (Nat.le_refl _) hb3).setCell hSw _⟩
                    · have HH2 : Hid (hasT l κ = false) := by
                        show _ = _
                        rw [HH.out, hoff]
                        simp
                        omega
                      have d9 : decide (τ ≤ 1) = false := by simp; omega
                      clear HH
                      go_wp2_with (go_at_call 10; refine (drop_c _ _ l _ l.length (resDrop l κ) (resDrop l κ).length false κ rfl rfl rfl HH2.out hrd2 (by omega) hBd2).mono ?_; rintro e w3 ⟨p3, c3, rfl, hrd3, hb3⟩; have hof3 := hof.below hb3; have hoc3 := hof3.cell κ (by omega); have hofz3 := hof3.frz κ; have hzc3 := (hb3.cell (p := ⟨zb, zo + κ, none⟩) hzb).trans hzc; rw [hoff] at hoc3)
                      go_meet
                      case rel => exact ⟨p3, c3, resDrop l κ, offSet off κ, rfl, hBd3, HA3, hl3, hrd3.setBool hoc3 _, hof3.set κ (by omega), (bel_call hbw2 (Nat.le_refl _) hb3).setCell hSw _⟩
                    · by_cases h9 : τ ≤ x % 40
                      · have HH2 : Hid (hasT l κ = true) := by
                          show _ = _
                          rw [HH.out, hoff]
                          simp
                          omega
                        have d9 : decide (τ ≤ x % 40) = true := by simp; omega
                        clear HH
                        go_wp2_with (go_at_call 10; refine (drop_c _ _ l _ l.length (resDrop l κ) (resDrop l κ).length true κ rfl rfl rfl HH2.out hrd2 (by omega) hBd2).mono ?_; rintro e w3 ⟨p3, c3, rfl, hrd3, hb3⟩; have hof3 := hof.below hb3; have hoc3 := hof3.cell κ (by omega); have hofz3 := hof3.frz κ; have hzc3 := (hb3.cell (p := ⟨zb, zo + κ, none⟩) hzb).trans hzc; rw [hoff] at hoc3)
                        go_meet
                        case rel => exact ⟨p3, c3, resDrop l κ, offSet off κ, rfl, hBd3, HA3, hl3, hrd3.setBool hoc3 _, hof3.set κ (by omega), (bel_call hbw2 (Nat.le_refl _) hb3).setCell hSw _⟩
                      · have HH2 : Hid (hasT l κ = false) := by
                          show _ = _
                          rw [HH.out, hoff]
                          simp
                          omega
                        have d9 : decide (τ ≤ x % 40) = false := by simp; omega
                        clear HH
                        go_wp2_with (go_at_call 10; refine (drop_c _ _ l _ l.length (resDrop l κ) (resDrop l κ).length false κ rfl rfl rfl HH2.out hrd2 (by omega) hBd2).mono ?_; rintro e w3 ⟨p3, c3, rfl, hrd3, hb3⟩; have hof3 := hof.below hb3; have hoc3 := hof3.cell κ (by omega); have hofz3 := hof3.frz κ; have hzc3 := (hb3.cell (p := ⟨zb, zo + κ, none⟩) hzb).trans hzc; rw [hoff] at hoc3)
                        go_meet
                        case rel => exact ⟨p3, c3, resDrop l κ, offSet off κ, rfl, hBd3, HA3, hl3, hrd3.setBool hoc3 _, hof3.set κ (by omega), (bel_call hbw2 (Nat.le_refl _) hb3).setCell hSw _⟩
                · have dn : decide ((0 : Int) < (k : Int)) = false := by simp; omega
                  go_wp2
                  go_meet
                  case rel => exact ⟨p2, c2, l, off, rfl, hBd2, HA, hl64, hrd2, hof, hbw2⟩
              · have dg : decide (τ - 1 < (m : Int)) = false := by simp; omega
                go_wp2
                go_meet
                case rel => exact ⟨p2, c2, l, off, rfl, hBd2, HA, hl64, hrd2, hof, hbw2⟩
            case rest =>
              obtain ⟨p3, c3, l3, off3, rfl, hBd3, HA3, hl3, hrd3, hof3, hbw3⟩ := hcut
              clear hrd2 hof hbw2 hBd2 HA hl64
              have htk := abs_tick l3 hBd3.low
              have haf := tick_aft (τ - 1) (by omega) (offB off3 B)
              rw [HA3.out] at htk
              rw [Int.sub_add_cancel] at haf
              have HK : Hid ((l3.take (dueT l3)).map (·.2) = atA τ (offB off3 B)) := htk.2.trans haf.2
              have HA4 : Hid (absT 0 (restT l3) = aftA (τ + 1 - 1) (offB off3 B)) := by show _ = _; rw [Int.add_sub_cancel]; exact htk.1.trans haf.1
              have hl4 : (restT l3).length ≤ 64 := by unfold restT; rw [List.length_drop, decT_length]; omega
              have HC : Hid ((atA τ (offB off3 B)).length = cntO off3 F τ k) := at_len hJ off3 τ
              have hBd4 := bd_rest hBd3
              have hkmem : ∀ z ∈ atA τ (offB off3 B), ∃ i : Nat, i < k ∧ z = i ∧ off3 i = false ∧ max (F i) 1 = τ := fun z hz => at_off hJ hz
              have hcl := cnt_le off3 F τ
              clear htk haf
              generalize hks : atA (τ : Int) (offB off3 B) = ks at *
              generalize hl' : restT l3 = l4 at *
              clear hks
              have hks30 : ks.length ≤ 30 := by rw [HC.out]; have := hcl k; omega
              refine hK2 _ _ ?_
              go_wp2_with (go_at_call 12; refine (tick_c _ _ l3 _ l3.length l4 l4.length ks ks.length rfl hl' rfl HK.out rfl hrd3 (by omega) hBd3).mono ?_; rintro e w4 ⟨p4, c4, q4, d4, rfl, hrd4, hri4, hb4⟩)
              have hbw4 := bel_call hbw3 (Nat.le_refl _) hb4
              have hof4 := hof3.below hb4
              clear hb4 hof3 hbw3 hrd3 HK HA3 hl'
              go_loop [16, 17] (fun nn i => ∃ κ : Nat, κ ≤ k ∧ i = .int .i64 κ ∧ nn = .int .i64 (cntO off3 F τ κ)) (fun _ i => k - (intOf i).toNat)
              case atStart => exact ⟨0, Nat.zero_le _, rfl, rfl⟩
              case round =>
                obtain ⟨κ, hκ, rfl, rfl⟩ := hrel
                have hcb := hcl κ
                by_cases hκl : κ < k
                · have hκz : κ < zs.length := by rw [← HN.out]; exact hκl
                  obtain ⟨zb, zo, rfl, hzb, hzc⟩ := (hr.below hbw4).cell κ hκz
                  have hx := hz zs[κ] (List.getElem_mem _)
                  have HF : Hid (F κ = zs[κ] % 40) := by show _ = _; rw [hF]; exact modF_at _
                  have hoc := hof4.cell κ (by omega)
                  have hκ0 : (κ : Int) < 30 := by omega
                  generalize zs[κ] = x at *
                  have hx0 := hx.1
                  have hx1 := hx.2
                  clear hx
                  cases hoff : off3 κ with
                  | true =>
                    have HN2 : Hid (cntO off3 F τ (κ + 1) = cntO off3 F τ κ) := cnt_no (by rw [hoff]; simp)
                    rw [hoff] at hoc
                    generalize hcnt : cntO off3 F (τ : Int) κ = cn at *
                    clear hcnt hkmem hri4
                    go_wp2
                    go_round
                    case rel => exact ⟨κ + 1, by omega, by go_num, by rw [HN2.out]⟩
                    case measure => simp [intOf]; omega
                  | false =>
                    rw [hoff] at hoc
                    rcases (by omega : x % 40 < 1 ∨ x % 40 = 1 ∨ 1 < x % 40) with hv | hv | hv
                    · have HN2 : Hid (cntO off3 F τ (κ + 1) = cntO off3 F τ κ) := cnt_no (by rw [HF.out]; omega)
                      have d8 : ((1 : Int) == τ) = false := by simp; omega
                      generalize hcnt : cntO off3 F (τ : Int) κ = cn at *
                      clear hcnt hkmem hri4 HF
                      go_wp2
                      go_round
                      case rel => exact ⟨κ + 1, by omega, by go_num, by first | (rw [HN2.out]; done) | (rw [HN2.out]; go_num)⟩
                      case measure => simp [intOf]; omega
                    · have HN2 : Hid (cntO off3 F τ (κ + 1) = cntO off3 F τ κ) := cnt_no (by rw [HF.out]; omega)
                      have d8 : ((1 : Int) == τ) = false := by simp; omega
                      generalize hcnt : cntO off3 F (τ : Int) κ = cn at *
                      clear hcnt hkmem hri4 HF
                      go_wp2
                      go_round
                      case rel => exact ⟨κ + 1, by omega, by go_num, by first | (rw [HN2.out]; done) | (rw [HN2.out]; go_num)⟩
                      case measure => simp [intOf]; omega
                    · by_cases h8 : x % 40 = τ
                      · have HN2 : Hid (cntO off3 F τ (κ + 1) = cntO off3 F τ κ + 1) := cnt_yes ⟨hoff, by rw [HF.out]; omega⟩
                        generalize hcnt : cntO off3 F (τ : Int) κ = cn at *
                        clear hcnt hkmem hri4 HF
                        go_wp2
                        go_round
                        case rel => exact ⟨κ + 1, by omega, by go_num, by first | (rw [HN2.out]; done) | (rw [HN2.out]; go_num)⟩
                        case measure => simp [intOf]; omega
                      · have HN2 : Hid (cntO off3 F τ (κ + 1) = cntO off3 F τ κ) := cnt_no (by rw [HF.out]; omega)
                        have d8 : ((x % 40) == τ) = false := by simp; omega
                        generalize hcnt : cntO off3 F (τ : Int) κ = cn at *
                        clear hcnt hkmem hri4 HF
                        go_wp2
                        go_round
                        case rel => exact ⟨κ + 1, by omega, by go_num, by first | (rw [HN2.out]; done) | (rw [HN2.out]; go_num)⟩
                        case measure => simp [intOf]; omega
                · obtain rfl : κ = k := by omega
                  rw [← HC.out]
                  clear HC hcb
                  go_wp2
                  go_loop [18] (fun i => ∃ j : Nat, j ≤ ks.length ∧ i = .int .i64 j) (fun i => ks.length - (intOf i).toNat)
                  case atStart => exact ⟨0, Nat.zero_le _, rfl⟩
                  case round =>
                    obtain ⟨j, hj, rfl⟩ := hrel
                    by_cases hjl : j < ks.length
                    · obtain ⟨qb, qo, rfl, _, hqc⟩ := hri4.cell j hjl
                      obtain ⟨i, hi1, hi3, hi5, hi4⟩ := hkmem ks[j] (List.getElem_mem hjl)
                      have hiz : i < zs.length := by rw [← HN.out]; exact hi1
                      obtain ⟨zb, zo, rfl, hzb, hzc⟩ := (hr.below hbw4).cell i hiz
                      have hx := hz zs[i] (List.getElem_mem _)
                      have HF : Hid (F i = zs[i] % 40) := by show _ = _; rw [hF]; exact modF_at _
                      rw [HF.out] at hi4
                      have hoc := hof4.cell i (by omega)
                      rw [hi5] at hoc
                      rw [hi3] at hqc
                      have hi0 : (i : Int) < 30 := by omega
                      generalize zs[i] = x at *
                      have hx0 := hx.1
                      have hx1 := hx.2
                      have z1 : decide ((κ : Int) ≤ (i : Int)) = false := by simp; omega
                      have hv : 1 < x % 40 := by omega
                      have hv2 : x % 40 = τ := by omega
                      clear hx hkmem hri4 hi3 hi4 hi5 HF
                      go_wp2
                      go_round
                      case rel => exact ⟨j + 1, by omega, by go_num⟩
                      case measure => simp [intOf]; omega
                    · obtain rfl : j = ks.length := by omega
                      clear hkmem hri4
                      go_wp2
                      go_roundw
                      case rel => exact ⟨T + 1, _, p4, c4, l4, off3, by omega, rfl, (by show _ = _; omega), hBd4, HA4, hl4, rfl, hrd4, hof4, hbw4⟩
                      case measure => simp [intOf]; omega
        · obtain rfl : T = 40 := by omega
          obtain rfl : τ = 41 := by omega
          clear hτ Hτ
          have hend : aftA ((41 : Int) - 1) (offB off B) = [] := aft_end _ _ (fun y hy => by
            have := hF39 y (List.mem_filter.1 hy).1; omega)
          have hl0 : l = [] := by
            have : l.length = 0 := by rw [← absT_length l 0, HA.out, hend]; rfl
            exact List.eq_nil_of_length_eq_zero this
          subst hl0
          go_wp2
          go_ret
          exact ⟨rfl, hbw2⟩
end Go.Proofs.Ytannkdnjbacbdaa
