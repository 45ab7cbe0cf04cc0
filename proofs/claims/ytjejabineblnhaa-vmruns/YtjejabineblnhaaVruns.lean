/-
  The law VmRuns, walked.
-/
import Derived.Test.YtjejabineblnhaaVrunm
import Derived.Test.YtjejabineblnhaaCodes
import Derived.WalkSpells
namespace Go.Proofs.Ytjejabineblnhaa
open Go.ChangeShapes Go.WideShapes Go.ChangeAt Go.RowKit
attribute [local go_sem ↓] Go.wp_at_zero Go.wp_at_succ

/-- both machines of the law, at blocks g and g + 1 -/
def Two (l : List In) (g base : Nat) (p3 : Option Addr) (c3 : Nat) (w wr : World) (pc m0 m1 m2 m3 m4 m5 m6 m7 : Int) (qa qb : Option Addr) (k da db : Nat) (ov : Bool) (R : List Rp) : Prop :=
  wr.heap[g]? = some (.cells #[.int .i64 pc, .int .i64 m0, .int .i64 m1, .int .i64 m2, .int .i64 m3, .int .i64 m4, .int .i64 m5, .int .i64 m6, .int .i64 m7, .slice qa k da, .bool ov] 27 (0, 0)) ∧ wr.heap[g + 1]? = some (.cells #[.int .i64 pc, .int .i64 m0, .int .i64 m1, .int .i64 m2, .int .i64 m3, .int .i64 m4, .int .i64 m5, .int .i64 m6, .int .i64 m7, .slice qb k db, .bool ov] 27 (0, 0)) ∧ Own eRp wr 0 52 qa da R ∧ Own eRp wr 0 52 qb db R ∧ R.length = k ∧ VI l pc [m0, m1, m2, m3, m4, m5, m6, m7] R ov ∧ Own eIn wr base 38 p3 c3 l ∧ Below w.heap.size w wr
theorem two_go {l : List In} {g base : Nat} {p3 : Option Addr} {c3 : Nat} {w w2 : World} {ca cb : Array Value} (hg : w.heap.size ≤ g) (r6 : w2.heap[g]? = some (.cells ca 27 (0, 0))) (r7 : w2.heap[g + 1]? = some (.cells cb 27 (0, 0))) {pcF a0 a1 a2 a3 a4 a5 a6 a7 : Int} {q9 q10 : Option Addr} {kF d9 d10 : Nat} {ovF : Bool} {RF : List Rp} (o9 : Own eRp w2 0 52 q9 d9 RF) (o10 : Own eRp w2 0 52 q10 d10 RF) (hk : RF.length = kF) (hv : VI l pcF [a0, a1, a2, a3, a4, a5, a6, a7] RF ovF) (ol : Own eIn w2 base 38 p3 c3 l) (hb : Below w.heap.size w w2) :
    Two l g base p3 c3 w ((w2.setRow g #[.int .i64 pcF, .int .i64 a0, .int .i64 a1, .int .i64 a2, .int .i64 a3, .int .i64 a4, .int .i64 a5, .int .i64 a6, .int .i64 a7, .slice q9 kF d9, .bool ovF]).setRow (g + 1) #[.int .i64 pcF, .int .i64 a0, .int .i64 a1, .int .i64 a2, .int .i64 a3, .int .i64 a4, .int .i64 a5, .int .i64 a6, .int .i64 a7, .slice q10 kF d10, .bool ovF]) pcF a0 a1 a2 a3 a4 a5 a6 a7 q9 q10 kF d9 d10 ovF RF := by
  have k7 : (w2.setRow g #[.int .i64 pcF, .int .i64 a0, .int .i64 a1, .int .i64 a2, .int .i64 a3, .int .i64 a4, .int .i64 a5, .int .i64 a6, .int .i64 a7, .slice q9 kF d9, .bool ovF]).heap[g + 1]? = some (.cells cb 27 (0, 0)) := (setRow_other _ _ _ _ (by omega)).trans r7
  refine ⟨(setRow_other _ _ _ _ (by omega)).trans (setRow_heap _ _ _ _ _ _ r6), setRow_heap _ _ _ _ _ _ k7, ?_, ?_, hk, hv, ?_, below_setRow (below_setRow hb hg _) (by omega) _⟩
  · exact own_other (own_other o9 r6 (by decide) (fun b hb => setRow_other _ _ _ _ hb)) k7 (by decide) (fun b hb => setRow_other _ _ _ _ hb)
  · exact own_other (own_other o10 r6 (by decide) (fun b hb => setRow_other _ _ _ _ hb)) k7 (by decide) (fun b hb => setRow_other _ _ _ _ hb)
  · exact own_other (own_other ol r6 (by decide) (fun b hb => setRow_other _ _ _ _ hb)) k7 (by decide) (fun b hb => setRow_other _ _ _ _ hb)
theorem row_ones (pc a0 a1 a2 a3 a4 a5 a6 a7 : Int) (q : Option Addr) (k d : Nat) (ov : Bool) : (#[Value.int .i64 pc, .int .i64 a0, .int .i64 a1, .int .i64 a2, .int .i64 a3, .int .i64 a4, .int .i64 a5, .int .i64 a6, .int .i64 a7, .slice q k d, .bool ov] : Array Value).all (·.oneCell') = true := mcell_one pc [a0, a1, a2, a3, a4, a5, a6, a7] q k d ov

set_option maxRecDepth 100000 in
set_option maxHeartbeats 8000000 in
theorem runs_walk (p : Option Addr) (c : Nat) (n : Nat) (zs : List Int) (w : World) (hp : Rd eBy w p c zs) (hn : zs.length = n) (hbz : ∀ x ∈ zs, 0 ≤ x ∧ x ≤ 255) (hm1 : n ≤ 9223372036854775807) (sd : Int) (hs0 : -9223372036854775808 ≤ sd) (hs1 : sd ≤ 9223372036854775807) :
    Calls Try.prog 4 #[.slice p n c, .int .i64 sd] w fun e w' => e = .returned (.bool true) ∧ Below w.heap.size w w' := by
  have HN : Hid (zs.length = n) := hn
  clear hn
  by_cases c1 : 80 < n
  · have d1 : decide ((80 : Int) < (n : Int)) = true := by simp; omega
    go_enter Try.func4, Try.ntmps4
    go_wp2_with (go_at_call 9; refine (begun_any _).mono ?_; rintro e w1 ⟨rfl, hb1⟩)
    go_ret
    exact ⟨rfl, hb1⟩
  · have d1 : decide ((80 : Int) < (n : Int)) = false := by simp; omega
    have h1000 : n ≤ 1000 := by omega
    go_enter Try.func4, Try.ntmps4
    go_wp2_with (first
      | (go_at_call 9; refine (begun_any _).mono ?_; rintro e w1 ⟨rfl, hb1⟩; have hp1 := hp.below hb1)
      | (go_at_call 17; (with_reducible (refine (made_any p c zs _ n HN.out h1000 hp1 hbz).mono ?_)); rintro e w2 ⟨rfl, pk2, hb2, hs2⟩; have hB2 := bel_call hb1 (Nat.le_refl _) hb2)
      | (go_at_call 21; (with_reducible (refine (code_any w1.heap.size _ pk2).mono ?_)); (rintro e w3 ⟨p3, n3, c3, l3, rfl, ⟨o3, a3, e3, pk3, kp3⟩, g3, g3', l0, hl0, hG⟩); have hB3 := hB2.trans (kp3.below (B := w.heap.size) (by have := hb1.size; omega) (by have := hB2.size; omega)))
      | (go_at_call 15; refine (vnew_any _ _).mono ?_; rintro e w4 ⟨rfl, b4⟩)
      | (go_at_call 16; refine (newm_any _ _).mono ?_; rintro e w5 ⟨rfl, b5⟩))
    have hok : okB l3 = true := by rw [hl0]; exact gd_may hG (by have := congrArg List.length hl0; simp at this; omega)
    have HW : Hid (l3.all mayW = true) := by show _ = _; rw [hl0]; exact allW_app hG.may (by decide)
    have HP : Hid (Prg l3) := prg_of hok
    have HE : Hid (l3.length = n3) := e3
    have hn3 : n3 ≤ 1000 := by omega
    have hn31 : 1 ≤ n3 := by rw [← e3, hl0]; simp
    have z3 := hB3.size
    have z4 := b4.size
    have z5 := b5.size
    have hg5 : w.heap.size ≤ w5.heap.size := by omega
    have T0 : Two l3 w5.heap.size w2.heap.size p3 c3 w ((w5.alloc (.cells #[.int .i64 0, .int .i64 sd, .int .i64 0, .int .i64 0, .int .i64 0, .int .i64 0, .int .i64 0, .int .i64 0, .int .i64 0, .slice none 0 0, .bool false] 27)).alloc (.cells #[.int .i64 0, .int .i64 sd, .int .i64 0, .int .i64 0, .int .i64 0, .int .i64 0, .int .i64 0, .int .i64 0, .int .i64 0, .slice none 0 0, .bool false] 27)) 0 sd 0 0 0 0 0 0 0 none none 0 0 0 false [] :=
      ⟨up1 (heap_at rfl), heap_at (by simp), own_nil _ _ _, own_nil _ _ _, rfl, ⟨rfl, fun v hv => by simp at hv; rcases hv with rfl | rfl | rfl | rfl | rfl | rfl | rfl | rfl <;> omega, fun r hr => by simp at hr, by decide, fun _ => ⟨0, rfl, by rw [HE.out]; omega, trivial⟩⟩, own_al (own_al (own_below (own_below o3 b4) b5) _) _, (((hB3.trans (b4.mono (by omega))).trans (b5.mono (by omega))).alloc (by omega) _).alloc (by simp; omega) _⟩
    clear hok hl0 hG e3 a3 pk3 kp3 pk2 hb2 hs2 hB2 hp1 hb1 o3 hB3 g3 g3' z4 b4 b5
    clear z3 z5
    generalize w2.heap.size = base at T0 ⊢
    generalize ((w5.alloc (.cells #[.int .i64 0, .int .i64 sd, .int .i64 0, .int .i64 0, .int .i64 0, .int .i64 0, .int .i64 0, .int .i64 0, .int .i64 0, .slice none 0 0, .bool false] 27)).alloc (.cells #[.int .i64 0, .int .i64 sd, .int .i64 0, .int .i64 0, .int .i64 0, .int .i64 0, .int .i64 0, .int .i64 0, .int .i64 0, .slice none 0 0, .bool false] 27)) = wz at T0 ⊢
    generalize w5.heap.size = g at T0 hg5 ⊢
    go_loopw [8] (fun t wr => ∃ (i : Nat) (pc m0 m1 m2 m3 m4 m5 m6 m7 : Int) (qa qb : Option Addr) (k da db : Nat) (ov : Bool) (R : List Rp), t = .int .i64 i ∧ i ≤ 3000 ∧ Two l3 g base p3 c3 w wr pc m0 m1 m2 m3 m4 m5 m6 m7 qa qb k da db ov R) (fun t _ => 3000 - (intOf t).toNat)
    case atStart => exact ⟨0, _, _, _, _, _, _, _, _, _, _, _, _, _, _, _, _, rfl, by omega, T0⟩
    case round =>
      obtain ⟨i, pc, m0, m1, m2, m3, m4, m5, m6, m7, qa, qb, k, da, db, ov, R, rfl, hi, hT⟩ := hrel
      clear T0
      by_cases hlt : i < 3000
      · obtain ⟨r6, r7, oa, ob, hk, hV, ol, hB⟩ := hT
        obtain ⟨⟨pcF, memF, RF, ovF, ⟨xo, xa, xb, xn⟩, ok⟩, hF⟩ : ∃ y, stepF l3 pc [m0, m1, m2, m3, m4, m5, m6, m7] R ov = y := ⟨_, rfl⟩
        have hFl : memF.length = 8 := by
          have h := congrArg (fun y => y.2.1.length) hF
          simp only at h
          rw [← h]
          unfold stepF
          split
          · simp only; rw [memA_len]; rfl
          · rfl
        obtain ⟨a0, a1, a2, a3, a4, a5, a6, a7, rfl⟩ := eight hFl
        have HF : Hid (stepF l3 pc [m0, m1, m2, m3, m4, m5, m6, m7] R ov = (pcF, [a0, a1, a2, a3, a4, a5, a6, a7], RF, ovF, (xo, xa, xb, xn), ok)) := hF
        have hVF := vi_step HP.out HW.out hV hF
        obtain ⟨kF, hkF⟩ : ∃ kF, RF.length = kF := ⟨_, rfl⟩
        have HKF : Hid (RF.length = kF) := hkF
        have HK : Hid (R.length = k) := hk
        have hk3 : k ≤ 1000 := by have := hV.rl; omega
        have d1 : decide ((i : Int) < 3000) = true := decide_eq_true (by omega)
        have d2 : decide (i < 3000) = true := decide_eq_true (by omega)
        have hmb := hV.mb
        have hrb := hV.rb
        have HMB : Hid (∀ v ∈ [m0, m1, m2, m3, m4, m5, m6, m7], -9223372036854775808 ≤ v ∧ v ≤ 9223372036854775807) := hmb
        have HRB : Hid (∀ r ∈ R, -9223372036854775808 ≤ r.2.2 ∧ r.2.2 ≤ 9223372036854775807) := hrb
        have hkF3 : kF ≤ 1001 := by
          have h := congrArg (fun y => y.2.2.1.length) hF
          simp only at h
          have : RF.length ≤ R.length + 1 := by
            rw [← h]
            unfold stepF
            split
            · simp only [List.length_reverse]
              refine Nat.le_trans (normR_len _ _) ?_
              simp only [List.length_reverse]
              exact repA_len _ _ _
            · simp
          omega
        clear hF hFl hkF hk hmb hrb hV
        have l6 := lt_of_block r6
        have l7 := lt_of_block r7
        have hoo : (ok == ok) = true := by simp
        have hx1 : (xo == xo) = true := by simp
        have hx2 : (xa == xa) = true := by simp
        have hx3 : (xb == xb) = true := by simp
        have hx4 : (xn == xn) = true := by simp
        rcases hVF with ⟨rfl, hVI⟩ | ⟨rfl, hov⟩
        · clear hoo
          go_wp2_with (first
            | (refine wpList_load_row rfl 27 (.tmp 6) rfl g rfl 27 #[.int .i64 pc, .int .i64 m0, .int .i64 m1, .int .i64 m2, .int .i64 m3, .int .i64 m4, .int .i64 m5, .int .i64 m6, .int .i64 m7, .slice qa k da, .bool ov] (0, 0) _ r6 Try.underlying27 rfl info38 ?_)
            | (go_at_call 19; refine (vstep_c p3 c3 l3 _ (own_rd ol) n3 HE.out hn3 pc m0 m1 m2 m3 m4 m5 m6 m7 HMB.out qa da k R (own_rd oa) HK.out hk3 HRB.out ov pcF a0 a1 a2 a3 a4 a5 a6 a7 RF ovF xo xa xb xn true kF HF.out HKF.out).mono ?_; rintro e w9 ⟨⟨q9, d9, rfl, o9⟩, b9⟩
               have r69 := keepc b9 r6
               have r79 := keepc b9 r7
               have ob9 := own_below ob b9
               have ol9 := own_below ol b9
               have B9 := hB.trans (b9.mono hB.size)
               have z9 := b9.size)
            | (refine wpList_load_row rfl 27 (.tmp 7) rfl (g + 1) rfl 27 #[.int .i64 pc, .int .i64 m0, .int .i64 m1, .int .i64 m2, .int .i64 m3, .int .i64 m4, .int .i64 m5, .int .i64 m6, .int .i64 m7, .slice qb k db, .bool ov] (0, 0) _ (up1 (up1 r79)) Try.underlying27 rfl info38 ?_)
            | (go_at_call 20; refine (rstep_c p3 c3 l3 _ (own_rd (own_al (own_al ol9 _) _)) n3 HE.out hn3 pc m0 m1 m2 m3 m4 m5 m6 m7 HMB.out qb db k R (own_rd (own_al (own_al ob9 _) _)) HK.out hk3 HRB.out ov pcF a0 a1 a2 a3 a4 a5 a6 a7 RF ovF xo xa xb xn true kF HF.out HKF.out).mono ?_; rintro e w10 ⟨⟨q10, d10, rfl, o10⟩, b10⟩
               have rA := keepc b10 (up1 (heap_at (w := w9) rfl))
               have rX := keepc b10 (heap_at (w := w9.alloc _) (k := w9.heap.size + 1) (by simp))
               have r610 := keepc b10 (up1 (up1 r69))
               have r710 := keepc b10 (up1 (up1 r79))
               have o910 := own_below (own_al (own_al o9 _) _) b10
               have ol10 := own_below (own_al (own_al ol9 _) _) b10
               have B10 := ((B9.alloc B9.size _).alloc (by have := B9.size; simp; omega) _).trans (b10.mono (by have := B9.size; simp; omega))
               have lA := lt_of_block rA
               have lX := lt_of_block rX
               have z10 := b10.size
               have ca0 : w10.cell? ⟨w9.heap.size, 0, none⟩ = some (.int .i64 pcF) := by rw [cell_of_row _ _ _ _ _ _ rA]; rfl
               have ca1 : w10.cell? ⟨w9.heap.size, 1, none⟩ = some (.int .i64 a0) := by rw [cell_of_row _ _ _ _ _ _ rA]; rfl
               have ca2 : w10.cell? ⟨w9.heap.size, 2, none⟩ = some (.int .i64 a1) := by rw [cell_of_row _ _ _ _ _ _ rA]; rfl
               have ca3 : w10.cell? ⟨w9.heap.size, 3, none⟩ = some (.int .i64 a2) := by rw [cell_of_row _ _ _ _ _ _ rA]; rfl
               have ca4 : w10.cell? ⟨w9.heap.size, 4, none⟩ = some (.int .i64 a3) := by rw [cell_of_row _ _ _ _ _ _ rA]; rfl
               have ca5 : w10.cell? ⟨w9.heap.size, 5, none⟩ = some (.int .i64 a4) := by rw [cell_of_row _ _ _ _ _ _ rA]; rfl
               have ca6 : w10.cell? ⟨w9.heap.size, 6, none⟩ = some (.int .i64 a5) := by rw [cell_of_row _ _ _ _ _ _ rA]; rfl
               have ca7 : w10.cell? ⟨w9.heap.size, 7, none⟩ = some (.int .i64 a6) := by rw [cell_of_row _ _ _ _ _ _ rA]; rfl
               have ca8 : w10.cell? ⟨w9.heap.size, 8, none⟩ = some (.int .i64 a7) := by rw [cell_of_row _ _ _ _ _ _ rA]; rfl
               have ca9 : w10.cell? ⟨w9.heap.size, 9, none⟩ = some (.slice q9 kF d9) := by rw [cell_of_row _ _ _ _ _ _ rA]; rfl
               have ca10 : w10.cell? ⟨w9.heap.size, 10, none⟩ = some (.bool ovF) := by rw [cell_of_row _ _ _ _ _ _ rA]; rfl
               have cx0 : w10.cell? ⟨w9.heap.size + 1, 0, none⟩ = some (.int .i64 xo) := by rw [cell_of_row _ _ _ _ _ _ rX]; rfl
               have cx1 : w10.cell? ⟨w9.heap.size + 1, 1, none⟩ = some (.int .i64 xa) := by rw [cell_of_row _ _ _ _ _ _ rX]; rfl
               have cx2 : w10.cell? ⟨w9.heap.size + 1, 2, none⟩ = some (.int .i64 xb) := by rw [cell_of_row _ _ _ _ _ _ rX]; rfl
               have cx3 : w10.cell? ⟨w9.heap.size + 1, 3, none⟩ = some (.int .i64 xn) := by rw [cell_of_row _ _ _ _ _ _ rX]; rfl)
            | (go_at_call 14; refine (same_lit pcF a0 a1 a2 a3 a4 a5 a6 a7 q9 q10 kF d9 d10 ovF RF _ (own_rd (own_al (own_al o910 _) _)) (own_rd (own_al (own_al o10 _) _)) HKF.out hkF3).mono ?_; rintro e w11 ⟨rfl, b11⟩
               have rA11 := keepc b11 (up1 (up1 rA))
               have rB11 := keepc b11 (up1 (heap_at (w := w10) rfl))
               have r611 := keepc b11 (up1 (up1 r610))
               have r711 := keepc b11 (up1 (up1 r710))
               have o911 := own_below (own_al (own_al o910 _) _) b11
               have o1011 := own_below (own_al (own_al o10 _) _) b11
               have ol11 := own_below (own_al (own_al ol10 _) _) b11
               have B11 := ((B10.alloc B10.size _).alloc (by have := B10.size; simp; omega) _).trans (b11.mono (by have := B10.size; simp; omega))
               have cov : w11.cell? ⟨g + 1, 10, none⟩ = some (.bool ov) := by rw [cell_of_row _ _ _ _ _ _ r711]; rfl))
          refine wp_region_held_drew (S := fun w' => w'.heap[w9.heap.size]? = w11.heap[w9.heap.size]? ∧ w'.heap[w10.heap.size]? = w11.heap[w10.heap.size]?) (by kernel_rfl) ⟨rfl, rfl⟩ (fun hHeld => ?_)
          refine wpAnyH_take (i := 0) (oi := _) (v := .agg #[.int .i64 pcF, .int .i64 a0, .int .i64 a1, .int .i64 a2, .int .i64 a3, .int .i64 a4, .int .i64 a5, .int .i64 a6, .int .i64 a7, .slice q9 kF d9, .bool ovF]) rfl (by kernel_rfl) (by kernel_rfl) (by kernel_rfl) (fun _ _ _ h => h) (Or.inl ⟨by rfl, fun w' hSw => load_yields 27 (.tmp 9) rfl w9.heap.size rfl (run_loadVar_row w' w9.heap.size 27 27 _ (0, 0) _ (hSw.1.trans rA11) Try.underlying27 rfl info38)⟩) hHeld ?_
          try simp only [Act.put, List.getElem_toArray, List.getElem_cons_zero, List.setIfInBounds_toArray, List.set_cons_zero, List.set_cons_succ]
          refine wpAnyH_take (i := 1) (oi := _) (v := .agg #[.int .i64 pcF, .int .i64 a0, .int .i64 a1, .int .i64 a2, .int .i64 a3, .int .i64 a4, .int .i64 a5, .int .i64 a6, .int .i64 a7, .slice q10 kF d10, .bool ovF]) rfl (by kernel_rfl) (by kernel_rfl) (by kernel_rfl) (fun _ _ _ h => h) (Or.inl ⟨by rfl, fun w' hSw => load_yields 27 (.tmp 12) rfl w10.heap.size rfl (run_loadVar_row w' w10.heap.size 27 27 _ (0, 0) _ (hSw.2.trans rB11) Try.underlying27 rfl info38)⟩) hHeld ?_
          try simp only [Act.put, List.getElem_toArray, List.getElem_cons_succ, List.getElem_cons_zero, List.setIfInBounds_toArray, List.set_cons_zero, List.set_cons_succ]
          refine wpAnyH_ready (rs := [2]) (by kernel_rfl) (by simp) ?_
          refine AllReadyH.cons (o := _) rfl (fun K hK => ?_) AllReadyH.nil
          refine step_store_row rfl 27 (.tmp 6) (.tmp 63) rfl g #[.int .i64 pcF, .int .i64 a0, .int .i64 a1, .int .i64 a2, .int .i64 a3, .int .i64 a4, .int .i64 a5, .int .i64 a6, .int .i64 a7, .slice q9 kF d9, .bool ovF] rfl rfl 27 _ (show w11.heap[g]? = _ from r611) info38 rfl (row_ones _ _ _ _ _ _ _ _ _ _ _ _ _) ?_
          refine hK.out _ _ ⟨setRow_other _ _ _ _ (by omega), setRow_other _ _ _ _ (by omega)⟩ (fun hHeld => ?_)
          clear hK K
          simp only [Act.put, List.getElem_toArray, List.getElem_cons_succ, List.getElem_cons_zero]
          refine wpAnyH_ready (rs := [3]) (by kernel_rfl) (by simp) ?_
          refine AllReadyH.cons (o := _) rfl (fun K hK => ?_) AllReadyH.nil
          refine step_store_row rfl 27 (.tmp 7) (.tmp 64) rfl (g + 1) #[.int .i64 pcF, .int .i64 a0, .int .i64 a1, .int .i64 a2, .int .i64 a3, .int .i64 a4, .int .i64 a5, .int .i64 a6, .int .i64 a7, .slice q10 kF d10, .bool ovF] rfl rfl 27 _ ((setRow_other _ _ _ _ (by omega)).trans (show w11.heap[g + 1]? = _ from r711)) info38 rfl (row_ones _ _ _ _ _ _ _ _ _ _ _ _ _) ?_
          refine hK.out _ _ ⟨(setRow_other _ _ _ _ (by omega)).trans (setRow_other _ _ _ _ (by omega)), (setRow_other _ _ _ _ (by omega)).trans (setRow_other _ _ _ _ (by omega))⟩ (fun hHeld => ?_)
          clear hK K
          simp only [Act.put, List.getElem_toArray, List.getElem_cons_succ, List.getElem_cons_zero]
          refine wpAnyH_done (by kernel_rfl) ?_ _
          have bd : Below w11.heap.size w11 w11.drew := (Below.refl _ _).drew
          have hTF := two_go (w := w) hg5 (show w11.drew.heap[g]? = _ from r611) (show w11.drew.heap[g + 1]? = _ from r711) (own_base (own_below o911 bd) (Nat.zero_le _)) (own_base (own_below o1011 bd) (Nat.zero_le _)) HKF.out hVI (own_below ol11 bd) (B11.trans (bd.mono B11.size))
          clear r611 r711 rA11 rB11 o911 o1011 ol11 B11 cov
          generalize (w11.drew.setRow g #[.int .i64 pcF, .int .i64 a0, .int .i64 a1, .int .i64 a2, .int .i64 a3, .int .i64 a4, .int .i64 a5, .int .i64 a6, .int .i64 a7, .slice q9 kF d9, .bool ovF]).setRow (g + 1) #[.int .i64 pcF, .int .i64 a0, .int .i64 a1, .int .i64 a2, .int .i64 a3, .int .i64 a4, .int .i64 a5, .int .i64 a6, .int .i64 a7, .slice q10 kF d10, .bool ovF] = wy at hTF ⊢
          go_wp2
          go_roundw
          case rel => exact ⟨i + 1, _, _, _, _, _, _, _, _, _, _, _, _, _, _, _, _, by go_num, by omega, hTF⟩
          case measure => simp [intOf]; omega
        · clear hoo
          have HOV : Hid (ov = true) := hov
          clear hov
          go_wp2_with (first
            | (refine wpList_load_row rfl 27 (.tmp 6) rfl g rfl 27 #[.int .i64 pc, .int .i64 m0, .int .i64 m1, .int .i64 m2, .int .i64 m3, .int .i64 m4, .int .i64 m5, .int .i64 m6, .int .i64 m7, .slice qa k da, .bool ov] (0, 0) _ r6 Try.underlying27 rfl info38 ?_)
            | (go_at_call 19; refine (vstep_c p3 c3 l3 _ (own_rd ol) n3 HE.out hn3 pc m0 m1 m2 m3 m4 m5 m6 m7 HMB.out qa da k R (own_rd oa) HK.out hk3 HRB.out ov pcF a0 a1 a2 a3 a4 a5 a6 a7 RF ovF xo xa xb xn false kF HF.out HKF.out).mono ?_; rintro e w9 ⟨⟨q9, d9, rfl, o9⟩, b9⟩
               have r69 := keepc b9 r6
               have r79 := keepc b9 r7
               have ob9 := own_below ob b9
               have ol9 := own_below ol b9
               have B9 := hB.trans (b9.mono hB.size)
               have z9 := b9.size)
            | (refine wpList_load_row rfl 27 (.tmp 7) rfl (g + 1) rfl 27 #[.int .i64 pc, .int .i64 m0, .int .i64 m1, .int .i64 m2, .int .i64 m3, .int .i64 m4, .int .i64 m5, .int .i64 m6, .int .i64 m7, .slice qb k db, .bool ov] (0, 0) _ (up1 (up1 r79)) Try.underlying27 rfl info38 ?_)
            | (go_at_call 20; refine (rstep_c p3 c3 l3 _ (own_rd (own_al (own_al ol9 _) _)) n3 HE.out hn3 pc m0 m1 m2 m3 m4 m5 m6 m7 HMB.out qb db k R (own_rd (own_al (own_al ob9 _) _)) HK.out hk3 HRB.out ov pcF a0 a1 a2 a3 a4 a5 a6 a7 RF ovF xo xa xb xn false kF HF.out HKF.out).mono ?_; rintro e w10 ⟨⟨q10, d10, rfl, o10⟩, b10⟩
               have rA := keepc b10 (up1 (heap_at (w := w9) rfl))
               have rX := keepc b10 (heap_at (w := w9.alloc _) (k := w9.heap.size + 1) (by simp))
               have r610 := keepc b10 (up1 (up1 r69))
               have r710 := keepc b10 (up1 (up1 r79))
               have o910 := own_below (own_al (own_al o9 _) _) b10
               have ol10 := own_below (own_al (own_al ol9 _) _) b10
               have B10 := ((B9.alloc B9.size _).alloc (by have := B9.size; simp; omega) _).trans (b10.mono (by have := B9.size; simp; omega))
               have lA := lt_of_block rA
               have lX := lt_of_block rX
               have z10 := b10.size
               have ca0 : w10.cell? ⟨w9.heap.size, 0, none⟩ = some (.int .i64 pcF) := by rw [cell_of_row _ _ _ _ _ _ rA]; rfl
               have ca1 : w10.cell? ⟨w9.heap.size, 1, none⟩ = some (.int .i64 a0) := by rw [cell_of_row _ _ _ _ _ _ rA]; rfl
               have ca2 : w10.cell? ⟨w9.heap.size, 2, none⟩ = some (.int .i64 a1) := by rw [cell_of_row _ _ _ _ _ _ rA]; rfl
               have ca3 : w10.cell? ⟨w9.heap.size, 3, none⟩ = some (.int .i64 a2) := by rw [cell_of_row _ _ _ _ _ _ rA]; rfl
               have ca4 : w10.cell? ⟨w9.heap.size, 4, none⟩ = some (.int .i64 a3) := by rw [cell_of_row _ _ _ _ _ _ rA]; rfl
               have ca5 : w10.cell? ⟨w9.heap.size, 5, none⟩ = some (.int .i64 a4) := by rw [cell_of_row _ _ _ _ _ _ rA]; rfl
               have ca6 : w10.cell? ⟨w9.heap.size, 6, none⟩ = some (.int .i64 a5) := by rw [cell_of_row _ _ _ _ _ _ rA]; rfl
               have ca7 : w10.cell? ⟨w9.heap.size, 7, none⟩ = some (.int .i64 a6) := by rw [cell_of_row _ _ _ _ _ _ rA]; rfl
               have ca8 : w10.cell? ⟨w9.heap.size, 8, none⟩ = some (.int .i64 a7) := by rw [cell_of_row _ _ _ _ _ _ rA]; rfl
               have ca9 : w10.cell? ⟨w9.heap.size, 9, none⟩ = some (.slice q9 kF d9) := by rw [cell_of_row _ _ _ _ _ _ rA]; rfl
               have ca10 : w10.cell? ⟨w9.heap.size, 10, none⟩ = some (.bool ovF) := by rw [cell_of_row _ _ _ _ _ _ rA]; rfl
               have cx0 : w10.cell? ⟨w9.heap.size + 1, 0, none⟩ = some (.int .i64 xo) := by rw [cell_of_row _ _ _ _ _ _ rX]; rfl
               have cx1 : w10.cell? ⟨w9.heap.size + 1, 1, none⟩ = some (.int .i64 xa) := by rw [cell_of_row _ _ _ _ _ _ rX]; rfl
               have cx2 : w10.cell? ⟨w9.heap.size + 1, 2, none⟩ = some (.int .i64 xb) := by rw [cell_of_row _ _ _ _ _ _ rX]; rfl
               have cx3 : w10.cell? ⟨w9.heap.size + 1, 3, none⟩ = some (.int .i64 xn) := by rw [cell_of_row _ _ _ _ _ _ rX]; rfl)
            | (go_at_call 14; refine (same_lit pcF a0 a1 a2 a3 a4 a5 a6 a7 q9 q10 kF d9 d10 ovF RF _ (own_rd (own_al (own_al o910 _) _)) (own_rd (own_al (own_al o10 _) _)) HKF.out hkF3).mono ?_; rintro e w11 ⟨rfl, b11⟩
               have rA11 := keepc b11 (up1 (up1 rA))
               have rB11 := keepc b11 (up1 (heap_at (w := w10) rfl))
               have r611 := keepc b11 (up1 (up1 r610))
               have r711 := keepc b11 (up1 (up1 r710))
               have o911 := own_below (own_al (own_al o910 _) _) b11
               have o1011 := own_below (own_al (own_al o10 _) _) b11
               have ol11 := own_below (own_al (own_al ol10 _) _) b11
               have B11 := ((B10.alloc B10.size _).alloc (by have := B10.size; simp; omega) _).trans (b11.mono (by have := B10.size; simp; omega))
               have cov : w11.cell? ⟨g + 1, 10, none⟩ = some (.bool ov) := by rw [cell_of_row _ _ _ _ _ _ r711]; rfl))
          go_ret
          exact ⟨by show Ending.returned (.bool ov) = _; rw [HOV.out], B11⟩
      · have d1 : decide ((i : Int) < 3000) = false := decide_eq_false (by omega)
        have d2 : decide (i < 3000) = false := decide_eq_false (by omega)
        have hB := hT.2.2.2.2.2.2.2
        clear hT
        go_wp2
        go_ret
        exact ⟨rfl, hB⟩
end Go.Proofs.Ytjejabineblnhaa
