/-
  A row of made tasks that may be.
-/
import Derived.Test.YteklpceikddggaaBgrew
import Derived.Test.YteklpceikddggaaTrmay
namespace Go.Proofs.Yteklpceikddggaa
open Go.ChangeShapes Go.WideShapes Go.ChangeAt Go.RowKit
attribute [local go_sem ↓] Go.wp_at_zero Go.wp_at_succ

set_option maxRecDepth 100000 in
set_option maxHeartbeats 4000000 in
theorem row_any (q : Option Addr) (c : Nat) (N : Nat) (zs : List Int) (w : World) (hq : Rd eBy w q c zs) (hN : zs.length = N) (hl : N ≤ 1000) (hb : ∀ x ∈ zs, 0 ≤ x ∧ x ≤ 255) (most : Int) (h1 : 1 ≤ most) (h6 : most ≤ 6) :
    Calls Try.prog 9 #[.slice q N c, .int .i64 most] w fun e w' => ∃ p m c', e = .returned (.slice p m c') ∧ (m : Int) ≤ most ∧ ∃ P SP, Rx w w.heap.size w' p m c' P SP := by
  have HN : Hid (zs.length = N) := hN
  clear hN
  go_enter Try.func9, Try.ntmps9
  go_upto_region 5 with (first
    | (have _u := mkA; go_at_call 17; refine (num_any w.heap.size most _ pk3 h1 (by omega)).mono ?_; rintro e w4 ⟨v, rfl, va, vb, pk4, kp4⟩)
    | (go_at_call 17; refine (num_any w.heap.size 4 _ pk2 (by omega) (by omega)).mono ?_; rintro e w3 ⟨lk, rfl, lka, lkb, pk3, kp3⟩; have mkA : True := trivial)
    | (go_at_call 16; (with_reducible (refine (made_any q c zs _ N HN.out hl hq hb).mono ?_)); rintro e w2 ⟨rfl, pk2, hb2, hs2⟩))
  have hR0 : Rx w w.heap.size w4 none 0 0 [] [] := ⟨own_nil _ _ _, rfl, rfl, (fun k h1 => absurd h1 (Nat.not_lt_zero _)), pk4, ((hb2.trans (kp3.below (B := w.heap.size) (Nat.le_refl _) hb2.size)).trans (kp4.below (B := w.heap.size) (Nat.le_refl _) (Nat.le_trans hb2.size kp3.size)))⟩
  obtain ⟨g, hg⟩ : ∃ g, g = w.heap.size := ⟨_, rfl⟩
  have HG : Hid (g = w.heap.size) := hg
  rw [← hg] at hR0
  simp only [← hg]
  clear hg pk4 kp4 pk3 kp3 pk2 hb2 hs2 mkA
  go_loopw [6, 8] (fun l i wr => ∃ (k : Int) (p : Option Addr) (m c' : Nat) (P : List Tv) (SP : List Sn), 0 ≤ k ∧ (m : Int) + k ≤ most ∧ i = .int .i64 k ∧ l = .slice p m c' ∧ Rx w g wr p m c' P SP) (fun _ i _ => (intOf i).toNat)
  case atStart => exact ⟨v + 1, none, 0, 0, [], [], by omega, by simp; omega, rfl, rfl, hR0⟩
  case round =>
    obtain ⟨k, p, m, c', P, SP, hk0, hmk, rfl, rfl, hR⟩ := hrel
    clear hR0 va vb
    by_cases hlt : 0 < k
    · have d : decide (0 < k) = true := by simpa using hlt
      have hm5 : (m : Int) ≤ 5 := by omega
      have hpk := hR.pk
      go_upto_region 8 with (first
        | (go_at_call 18; (with_reducible (refine (task_any g _ lk lka (by omega) _ hR5.pk).mono ?_)); rintro e w6 ⟨pp, pe, mp, mn, mc, wp, wn, wk, op, on, oc, M, W, O, rfl, t3, pk6, kp6, bd, mg, lw, n1, n2, n3⟩; have hR6 := hR5.kpg kp6 pk6)
        | (go_at_call 17; refine (num_any g 3 _ hpk (by omega) (by omega)).mono ?_; rintro e w5 ⟨v5, rfl, va5, vb5, pk5, kp5⟩; have hR5 := hR.kpg kp5 pk5; have x1 : wrap64 (3 * (m : Int)) = 3 * (m : Int) := (by unfold wrap64; omega); have x2 : IntKind.i64.wrap (3 * (m : Int)) = 3 * (m : Int) := (by rw [IntKind.wrap_i64]; omega); have x3 : wrap64 (3 * (m : Int) + v5) = 3 * (m : Int) + v5 := (by unfold wrap64; omega); have x4 : IntKind.i64.wrap (3 * (m : Int) + v5) = 3 * (m : Int) + v5 := (by rw [IntKind.wrap_i64]; omega)))
      have s6 := bel_self w6 (.cells #[.int .i64 (3 * (m : Int) + v5), .int .i64 pp, .int .i64 pe, .slice mp mn mc, .slice wp wn wk, .slice op on oc] 33)
      have L7 := Lv.new w6 #[.int .i64 (3 * (m : Int) + v5), .int .i64 pp, .int .i64 pe, .slice mp mn mc, .slice wp wn wk, .slice op on oc] 33
      have R7 := hR6.below s6
      have t7 := t3.below s6
      have hg5 := hR5.pk.lt
      have aM : Ab g p mp M := fun _ b o e => ⟨by have := n1 b o e; omega, hR5.far (n1 b o e)⟩
      have aW : Ab g p wp W := fun _ b o e => ⟨by have := n2 b o e; omega, hR5.far (n2 b o e)⟩
      have aO : Ab g p op O := fun _ b o e => ⟨by have := n3 b o e; omega, hR5.far (n3 b o e)⟩
      have lm : Lk3 M := by
        obtain ⟨l0, e, h0⟩ := mg
        rw [e]
        exact h0.2.app (Lk3.one (by decide))
      obtain ⟨r, hr⟩ : ∃ r, 3 * (m : Int) + v5 = r := ⟨_, rfl⟩
      have hr9 : 0 ≤ r ∧ r ≤ 20 := by omega
      rw [hr] at L7 R7 t7
      simp only [hr]
      obtain ⟨gk, hgk⟩ : ∃ gk, gk = w6.heap.size := ⟨_, rfl⟩
      rw [← hgk] at L7
      simp only [← hgk]
      obtain ⟨W7, hW7⟩ : ∃ W7, W7 = w6.alloc (.cells #[.int .i64 r, .int .i64 pp, .int .i64 pe, .slice mp mn mc, .slice wp wn wk, .slice op on oc] 33) := ⟨_, rfl⟩
      rw [← hW7] at L7 R7 t7 ⊢
      have ir : I64 r := by unfold I64; omega
      obtain ⟨bd1, bd2, bd3, bd4⟩ := bd
      have ip : I64 pp := by unfold I64; omega
      have ie : I64 pe := by unfold I64; omega
      obtain ⟨E, hE⟩ : ∃ E, erT r pp pe M W O = E := ⟨_, rfl⟩
      have K15 := rmay_any r pp pe mp mn mc wp wn wk op on oc M W O W7 t7 E hE
      have hpk7 := R7.pk
      have a0 := L7.c 0 rfl
      have a1 := L7.c 1 rfl
      have a2 := L7.c 2 rfl
      have a3 := L7.c 3 rfl
      have a4 := L7.c 4 rfl
      have a5 := L7.c 5 rfl
      have HS : Hid (SP.length = m) := R7.sl
      have HP : Hid (P.length = m) := R7.len
      clear hW7 hgk hr s6 t3 pk6 kp6 hR6 hR5 hR n1 n2 n3 mg x1 x2 x3 x4 pk5 kp5 hpk hg5 va5 vb5 bd1 bd2 bd3 bd4
      by_cases h0 : E = 0
      · subst h0
        go_wp2_with (first
          | (go_at_call 15; (with_reducible (refine K15.mono ?_)); rintro e w8 ⟨rfl, b8⟩; have L8 := L7.below b8; clear a0 a1 a2 a3 a4 a5; have a0 := L8.c 0 rfl; have a1 := L8.c 1 rfl; have a2 := L8.c 2 rfl; have a3 := L8.c 3 rfl; have a4 := L8.c 4 rfl; have a5 := L8.c 5 rfl)
          | (at_builtin; refine wpList_appG tTk _ rfl _ _ rfl (g + 1) p c' P m HP.out rfl (own_below (own_below R7.own b8) (bel_self w8 _)) _ _ [(⟨r, pp, pe, mp, mn, mc, wp, wn, wk, op, on, oc⟩ : Tv)] 1 rfl rfl (rd_block (E := eTk) (heap_alloc_new w8 _) 1 rfl rfl) (by omega) (by have := R7.pk.lt; have := b8.size; simp; omega) (m + 1) rfl ?_; intro p9 c9 w9 o9 b9 g9))
        have R9 := ((R7.below b8).below (bel_self w8 (.cells #[.int .i64 r, .int .i64 pp, .int .i64 pe, .slice mp mn mc, .slice wp wn wk, .slice op on oc] 33))).snoc o9 b9 g9 (x := ⟨r, pp, pe, mp, mn, mc, wp, wn, wk, op, on, oc⟩) ⟨(t7.below b8).below (bel_self w8 _), ir, ip, ie⟩ hE rfl ⟨lm, lw⟩ aM aW aO
        go_roundw
        case rel => exact ⟨k - 1, p9, m + 1, c9, _, _, by omega, by omega, rfl, rfl, R9⟩
        case measure => simp [intOf]; omega
      · have dE : (E == 0) = false := by simpa using h0
        clear h0 hE
        go_wp2_with (go_at_call 15; (with_reducible (refine K15.mono ?_)); rintro e w8 ⟨rfl, b8⟩)
        go_roundw
        case rel => exact ⟨k - 1, p, m, c', P, SP, by omega, by omega, rfl, rfl, R7.below b8⟩
        case measure => simp [intOf]; omega
    · have d : decide (0 < k) = false := by simpa using hlt
      go_wp2
      go_ret
      exact ⟨p, m, c', rfl, by omega, P, SP, by have h := hR; rw [HG.out] at h; first | exact h | exact hR⟩
end Go.Proofs.Yteklpceikddggaa
