/-
  The law CostHolds, walked.
-/
import Derived.Test.YteikdocpncdheaaHoldn
import Derived.Test.YteikdocpncdheaaOf
import Derived.Test.YteikdocpncdheaaCodes
import Derived.WalkSpells
namespace Go.Proofs.Yteikdocpncdheaa
open Go.ChangeShapes Go.WideShapes Go.ChangeAt Go.RowKit
attribute [local go_sem ↓] Go.wp_at_zero Go.wp_at_succ

structure Wk (gc gm gs rx ri : Nat) (w8 w : World) (cc mold mnew ins : Array Value) (q9 : Option Addr) (d9 : Nat) (RF : List Rp) : Prop where
  x : w.heap[rx]? = some (.cells mnew 41 (0, 0))
  i : w.heap[ri]? = some (.cells ins 45 (0, 0))
  m : w.heap[gm]? = some (.cells mold 41 (0, 0))
  c : w.heap[gc]? = some (.cells cc 32 (0, 0))
  o : Own eRp w (gs + 1) 70 q9 d9 RF
  b : Below gm w8 w
  ord : gc < gm ∧ gm < gs ∧ gs < rx ∧ rx < ri
theorem Wk.kp {gc gm gs rx ri : Nat} {w8 w w' : World} {cc mold mnew ins : Array Value} {q9 : Option Addr} {d9 : Nat} {RF : List Rp} (h : Wk gc gm gs rx ri w8 w cc mold mnew ins q9 d9 RF) (hk : Kp gs w w') : Wk gc gm gs rx ri w8 w' cc mold mnew ins q9 d9 RF := by
  obtain ⟨o1, o2, o3, o4⟩ := h.ord
  have hz := lt_of_block h.m
  exact ⟨(hk.block _ (lt_of_block h.x) (by simp; omega)).trans h.x, (hk.block _ (lt_of_block h.i) (by simp; omega)).trans h.i, (hk.block _ hz (by simp; omega)).trans h.m, (hk.block _ (lt_of_block h.c) (by simp; omega)).trans h.c, own_kp h.o hk (by omega), h.b.trans (hk.below (by omega) (by omega)), h.ord⟩
theorem Wk.bel {gc gm gs rx ri : Nat} {w8 w w' : World} {cc mold mnew ins : Array Value} {q9 : Option Addr} {d9 : Nat} {RF : List Rp} (h : Wk gc gm gs rx ri w8 w cc mold mnew ins q9 d9 RF) (hb : Below w.heap.size w w') : Wk gc gm gs rx ri w8 w' cc mold mnew ins q9 d9 RF := by
  obtain ⟨o1, o2, o3, o4⟩ := h.ord
  have hz := lt_of_block h.m
  exact ⟨(hb.block _ (lt_of_block h.x)).trans h.x, (hb.block _ (lt_of_block h.i)).trans h.i, (hb.block _ hz).trans h.m, (hb.block _ (lt_of_block h.c)).trans h.c, own_below h.o hb, h.b.trans (hb.mono (by omega)), h.ord⟩
theorem sv_bd {l0 : List In} (hG : Gd l0) {pc : Nat} (hpc : pc ≤ l0.length + 1) (s : Int) : 0 ≤ sv (l0 ++ [E0]) pc s ∧ sv (l0 ++ [E0]) pc s ≤ 2 := by
  rcases lk_opn hG hpc with h | ⟨k, h, _, hk⟩
  · rw [sv_nil h]; omega
  · rw [sv_one h]; split <;> omega
theorem svL_bd {l0 : List In} (hG : Gd l0) {pc : Nat} (hpc : pc ≤ l0.length + 1) : ∀ k (hk : k < (svL (l0 ++ [E0]) pc).length), 0 ≤ (svL (l0 ++ [E0]) pc)[k] ∧ (svL (l0 ++ [E0]) pc)[k] ≤ 2 := by
  intro k hk
  have : k = 0 ∨ k = 1 ∨ k = 2 ∨ k = 3 := by simp [svL] at hk; omega
  rcases this with rfl | rfl | rfl | rfl
  · exact sv_bd hG hpc 0
  · exact sv_bd hG hpc 1
  · exact sv_bd hG hpc 2
  · exact sv_bd hG hpc 3
theorem svL_at {l : List In} {pc A : Nat} (hA : A < 4) : (svL l pc).getD A 0 = sv l pc (A : Int) := by
  have : A = 0 ∨ A = 1 ∨ A = 2 ∨ A = 3 := by omega
  rcases this with rfl | rfl | rfl | rfl <;> rfl
theorem inc_pos {v : Int} (h : 0 < v) : inc1 v = v + 1 := by unfold inc1; rw [if_pos h]
theorem inc_not {v : Int} (h : ¬ 0 < v) : inc1 v = v := by unfold inc1; rw [if_neg h]
theorem map_at {S : List Int} {A : Nat} (hA : A < S.length) : (S.map inc1)[A]'(by simpa using hA) = inc1 (S.getD A 0) := by
  rw [List.getElem_map, getD_at hA]
theorem nextS_m {S : List Int} {xo xa : Int} (h9 : xo ≠ 9) (h10 : xo ≠ 10) : nextS S xo xa = S.map inc1 := by unfold nextS; rw [if_neg h9, if_neg h10]
theorem nextS_l {S : List Int} (A : Nat) : nextS S 9 (A : Int) = (S.map inc1).set A 1 := by unfold nextS; rw [if_pos rfl]; rfl
theorem nextS_u {S : List Int} (A : Nat) : nextS S 10 (A : Int) = (S.map inc1).set A 0 := by unfold nextS; rw [if_neg (by decide), if_pos rfl]; rfl

set_option maxRecDepth 100000 in
set_option maxHeartbeats 16000000 in
theorem holds_walk (p : Option Addr) (c : Nat) (n : Nat) (zs : List Int) (w : World) (hp : Rd eBy w p c zs) (hn : zs.length = n) (hbz : ∀ x ∈ zs, 0 ≤ x ∧ x ≤ 255) (hm1 : n ≤ 9223372036854775807) (sd : Int) :
    Calls Try.prog 4 #[.slice p n c, .int .i64 sd] w fun e w' => e = .returned (.bool true) ∧ Below w.heap.size w w' := by
  have HN : Hid (zs.length = n) := hn
  clear hn
  by_cases c1 : 80 < n
  · have d1 : decide ((80 : Int) < (n : Int)) = true := by simp; omega
    go_enter Try.func4, Try.ntmps4
    go_wp2_with (go_at_call 9; refine (begun7 _).mono ?_; rintro e w1 ⟨rfl, hb1⟩)
    go_ret
    exact ⟨rfl, hb1⟩
  · have d1 : decide ((80 : Int) < (n : Int)) = false := by simp; omega
    have h1000 : n ≤ 1000 := by omega
    go_enter Try.func4, Try.ntmps4
    go_wp2_with (first
      | (go_at_call 9; refine (begun7 _).mono ?_; rintro e w1 ⟨rfl, hb1⟩; have hp1 := hp.below hb1)
      | (go_at_call 10; (with_reducible (refine (made_any p c zs _ n HN.out h1000 hp1 hbz).mono ?_)); rintro e w2 ⟨rfl, pk2, hb2, hs2⟩; have hB2 := bel_call hb1 (Nat.le_refl _) hb2)
      | (go_at_call 11; (with_reducible (refine (code_any w1.heap.size _ pk2).mono ?_)); (rintro e w3 ⟨p3, n3, c3, l3, rfl, ⟨o3, a3, e3, pk3, kp3⟩, g3, g3', l0, hl0, hG⟩); have hB3 := hB2.trans (kp3.below (B := w.heap.size) (by have := hb1.size; omega) (by have := hB2.size; omega))
         have r3 := own_rd o3
         have hlen0 : l0.length + 1 = n3 := by rw [← e3, hl0]; simp
         have k1 : okB l3 = true := by rw [hl0]; exact gd_may hG (by omega)
         have hP := prg_of k1
         have t1 := (tk_of hP).tk_le
         have t2 := lgs_bd hP (k := n3) (by omega)
         have K1 := fun w' (hb : Below w3.heap.size w3 w') => of_c p3 c3 l3 w' (r3.below hb) n3 e3 k1 _ _ _ rfl rfl _ rfl rfl
         have HE : Hid (l3.length = n3) := e3
         have HL0 : Hid (l3 = l0 ++ [E0]) := hl0
         have HGd : Hid (Gd l0) := hG
         have HP : Hid (Prg l3) := hP
         have HW : Hid (l3.all mayW = true) := a3
         obtain ⟨T, hT⟩ : ∃ T, tk l3 = T := ⟨_, rfl⟩
         obtain ⟨G, hG'⟩ : ∃ G, lgs l3 n3 = G := ⟨_, rfl⟩
         obtain ⟨SP, hSP⟩ : ∃ SP, spL l3 n3 = SP := ⟨_, rfl⟩
         obtain ⟨sn, hsn⟩ : ∃ sn, SP.length = sn := ⟨_, rfl⟩
         rw [hT, hG', hSP, hsn] at K1
         rw [hT] at t1
         rw [hG'] at t2
         have HT : Hid (tk l3 = T) := hT
         have HG : Hid (lgs l3 n3 = G) := hG'
         have HSP : Hid (spL l3 n3 = SP) := hSP
         have HSN : Hid (SP.length = sn) := hsn
         have hsb : sn ≤ 24 := by rw [← hsn, ← hSP]; exact Nat.le_trans (spL_len _ _) (by omega)
         clear hT hG' hSP hsn hl0 hG hlen0 e3 hP k1 a3 pk3 kp3 pk2 hb2 hs2 hB2 hp1 o3)
      | (go_at_call 13; (with_reducible (refine (K1 _ (Below.refl _ _)).mono ?_)); rintro e w4 ⟨⟨q4, d4, rfl, o4⟩, b4⟩; have B4 := b4.alloc b4.size (.cells #[.int .i64 (T : Int), .int .i64 (G : Int), .slice q4 sn d4] 32))
      | (go_at_call 15; refine (newm_any _ _).mono ?_; rintro e w8 ⟨rfl, b8⟩))
    have gc8 : w8.heap[w4.heap.size]? = some (.cells #[.int .i64 (T : Int), .int .i64 (G : Int), .slice q4 sn d4] 32 (0, 0)) := (b8.block w4.heap.size (by simp)).trans (heap_alloc_new w4 _)
    have B8 : Below w3.heap.size w3 w8 := bel_call B4 (Nat.le_refl _) b8
    have BW := bel_call hB3 (Nat.le_refl _) B8
    have rS : Rd eSp w8 q4 d4 SP := ((own_rd o4).below ((Below.refl _ _).alloc (Nat.le_refl _) _)).below b8
    have hrl := r3.below B8
    have hgc := lt_of_block gc8
    have hallB := HP.out.all
    have M0 : Hd l3 T w8.heap.size (w8.heap.size + 1) w8 ((w8.alloc (.cells #[.int .i64 0, .int .i64 sd, .int .i64 0, .int .i64 0, .int .i64 0, .int .i64 0, .int .i64 0, .int .i64 0, .int .i64 0, .slice none 0 0, .bool false] 41)).alloc (.cells #[.int .i64 0, .int .i64 0, .int .i64 0, .int .i64 0] 43)) 0 sd 0 0 0 0 0 0 0 none 0 0 [] false 0 0 [0, 0, 0, 0] := by
      have hs0 : svL l3 0 = [0, 0, 0, 0] := by
        have : opn l3 0 = [] := rfl
        unfold svL
        simp only [sv_nil this]
      refine ⟨(Below.heap_alloc _ _ _ (by simp)).trans (heap_at rfl), own_nil _ _ _, rfl, by omega, heap_at (by simp), rfl, by omega, by omega, fun _ => ⟨0, rfl, by rw [HE.out]; omega, trivial, topL_self l3 0, ?_, ?_, hs0.symm⟩, ((Below.refl _ _).alloc (Nat.le_refl _) _).alloc (by simp) _⟩
      · show 0 + Sm l3 0 0 l3.length ≤ T
        rw [← HT.out]
        unfold tk
        omega
      · show 0 + Sm l3 0 0 l3.length ≤ Sm l3 0 0 l3.length
        omega
    clear K1 o4 b4 B4 b8 r3 B8 hB3
    generalize hgm : w8.heap.size = gm at M0 hgc ⊢
    generalize hgs : gm + 1 = gs at M0 ⊢
    have hgs2 : gm < gs := by omega
    generalize w4.heap.size = gc at *
    generalize (w8.alloc (.cells #[.int .i64 0, .int .i64 sd, .int .i64 0, .int .i64 0, .int .i64 0, .int .i64 0, .int .i64 0, .int .i64 0, .int .i64 0, .slice none 0 0, .bool false] 41)).alloc (.cells #[.int .i64 0, .int .i64 0, .int .i64 0, .int .i64 0] 43) = wa at M0 ⊢
    go_loopw [9, 10] (fun s t wx => ∃ (pc m0 m1 m2 m3 m4 m5 m6 m7 : Int) (qr : Option Addr) (k dr : Nat) (R : List Rp) (ov : Bool) (al pz : Nat) (S : List Int), s = .int .i64 al ∧ t = .int .i64 pz ∧ Hd l3 T gm gs w8 wx pc m0 m1 m2 m3 m4 m5 m6 m7 qr k dr R ov al pz S) (fun s _ _ => 10000 - (intOf s).toNat)
    case atStart => exact ⟨_, _, _, _, _, _, _, _, _, _, _, _, _, _, 0, 0, _, rfl, rfl, M0⟩
    case round =>
      obtain ⟨pc, m0, m1, m2, m3, m4, m5, m6, m7, qr, k, dr, R, ov, al, pz, S, rfl, rfl, hMid⟩ := hrel
      clear M0
      have hMid' := hMid
      obtain ⟨hrow, oR, HKR, hk2, hrowS, hS4, hnT, hpz6, hAt, hBx⟩ := hMid'
      have hgz := lt_of_block hrow
      have hgz2 := lt_of_block hrowS
      have crow : wr.heap[gc]? = _ := (hBx.block gc hgc).trans gc8
      have nn0 : wr.cell? ⟨gm, 0, none⟩ = some (.int .i64 pc) := by rw [cell_of_row _ _ _ _ _ _ hrow]; rfl
      have nn1 : wr.cell? ⟨gm, 1, none⟩ = some (.int .i64 m0) := by rw [cell_of_row _ _ _ _ _ _ hrow]; rfl
      have nn2 : wr.cell? ⟨gm, 2, none⟩ = some (.int .i64 m1) := by rw [cell_of_row _ _ _ _ _ _ hrow]; rfl
      have nn3 : wr.cell? ⟨gm, 3, none⟩ = some (.int .i64 m2) := by rw [cell_of_row _ _ _ _ _ _ hrow]; rfl
      have nn4 : wr.cell? ⟨gm, 4, none⟩ = some (.int .i64 m3) := by rw [cell_of_row _ _ _ _ _ _ hrow]; rfl
      have nn5 : wr.cell? ⟨gm, 5, none⟩ = some (.int .i64 m4) := by rw [cell_of_row _ _ _ _ _ _ hrow]; rfl
      have nn6 : wr.cell? ⟨gm, 6, none⟩ = some (.int .i64 m5) := by rw [cell_of_row _ _ _ _ _ _ hrow]; rfl
      have nn7 : wr.cell? ⟨gm, 7, none⟩ = some (.int .i64 m6) := by rw [cell_of_row _ _ _ _ _ _ hrow]; rfl
      have nn8 : wr.cell? ⟨gm, 8, none⟩ = some (.int .i64 m7) := by rw [cell_of_row _ _ _ _ _ _ hrow]; rfl
      have nn9 : wr.cell? ⟨gm, 9, none⟩ = some (.slice qr k dr) := by rw [cell_of_row _ _ _ _ _ _ hrow]; rfl
      have nn10 : wr.cell? ⟨gm, 10, none⟩ = some (.bool ov) := by rw [cell_of_row _ _ _ _ _ _ hrow]; rfl
      have g0 : wr.cell? ⟨gc, 0, none⟩ = some (.int .i64 (T : Int)) := by rw [cell_of_row _ _ _ _ _ _ crow]; rfl
      have g1 : wr.cell? ⟨gc, 1, none⟩ = some (.int .i64 (G : Int)) := by rw [cell_of_row _ _ _ _ _ _ crow]; rfl
      have g2 : wr.cell? ⟨gc, 2, none⟩ = some (.slice q4 sn d4) := by rw [cell_of_row _ _ _ _ _ _ crow]; rfl
      have gz := lt_of_block crow
      cases ov with
      | true =>
        clear hAt hMid
        go_wp2
        go_ret
        exact ⟨rfl, BW.trans (hBx.mono (by have := BW.size; omega))⟩
      | false =>
        obtain ⟨pp, rfl, hpc, hC, hF, hph, hpc2, hSe⟩ := hAt rfl
        obtain ⟨⟨xo, xa, xb, xn⟩, hg⟩ : ∃ x, gt l3 pp = x := ⟨_, rfl⟩
        have HGt : Hid (gt l3 pp = (xo, xa, xb, xn)) := hg
        have hpm : pp < n3 := by rw [← HE.out]; exact hpc
        have hrx : Rd eIn wr p3 c3 l3 := hrl.below (by rw [hgm]; exact hBx)
        have hstep := step_lit p3 c3 l3 wr hrx n3 HE.out (by omega) hallB pp hpm m0 m1 m2 m3 m4 m5 m6 m7 qr dr k R (own_rd oR) HKR (by omega) (fun r hr => ch_bd hC r (List.mem_reverse.2 hr)) xo xa xb xn hg
        have hmay := may_iff.1 (HP.out.ins pp hpc).1
        rw [hg] at hmay
        unfold mayP at hmay
        simp only at hmay
        have hpl := piece_le HP.out hpc hC hpc2
        rw [HE.out, HG.out] at hpl
        have HPOS : Hid (∀ (pcF : Int) (RF : List Rp) (ov : Bool), StepRel pp R (xo, xa, xb, xn) pcF RF ov → al + 1 ≤ T) := fun pcF RF ov hr => by
          have := ph_pos HP.out HW.out hpc hC hF (by rw [hg]; exact hr)
          omega
        have dG : decide ((G : Int) < (pz : Int) + 1) = false := by simp; omega
        have HSB : Hid (∀ j (hj : j < S.length), 0 ≤ S[j] ∧ S[j] ≤ 2) := by
          subst hSe
          rw [HL0.out]
          exact svL_bd HGd.out (by have := hpc; rw [HL0.out] at this; simp at this; omega)
        have HSE : Hid (S = svL l3 pp) := hSe
        have HPC : Hid (pp < l3.length) := hpc
        clear hg hph hAt hC hpc hF hpc2 hSe hpl
        rcases (by omega : xo = 11 ∨ xo = 0 ∨ xo = 9 ∨ xo = 10 ∨ (xo ≠ 11 ∧ xo ≠ 0 ∧ xo ≠ 9 ∧ xo ≠ 10)) with h | h | h | h | h
        · subst h
          clear hmay
          go_wp2_with (first
            | (go_at_call 16; go_must (refine hstep.mono ?_; rintro e w9 ⟨⟨pcF, a0, a1, a2, a3, a4, a5, a6, a7, q9, d9, k9, RF, ov9, rfl, HK9, o9, hrel9⟩, b9⟩; have hz9 := b9.size; have c9 := (b9.cell (p := ⟨gc, 0, none⟩) gz).trans g0; have c9b := (b9.cell (p := ⟨gc, 1, none⟩) gz).trans g1; have gz9 : gc < w9.heap.size := (by omega); have hTT := HPOS.out _ _ _ hrel9; have dT : decide ((T : Int) < (al : Int) + 1) = false := (by simp; omega))))
          have W0 : Wk gc gm gs w9.heap.size (w9.heap.size + 1) w8 ((w9.alloc (.cells #[.int .i64 pcF, .int .i64 a0, .int .i64 a1, .int .i64 a2, .int .i64 a3, .int .i64 a4, .int .i64 a5, .int .i64 a6, .int .i64 a7, .slice q9 k9 d9, .bool ov9] 41)).alloc (.cells #[.int .i64 11, .int .i64 xa, .int .i64 xb, .int .i64 xn] 45)) #[.int .i64 (T : Int), .int .i64 (G : Int), .slice q4 sn d4] #[.int .i64 (pp : Int), .int .i64 m0, .int .i64 m1, .int .i64 m2, .int .i64 m3, .int .i64 m4, .int .i64 m5, .int .i64 m6, .int .i64 m7, .slice qr k dr, .bool false] #[.int .i64 pcF, .int .i64 a0, .int .i64 a1, .int .i64 a2, .int .i64 a3, .int .i64 a4, .int .i64 a5, .int .i64 a6, .int .i64 a7, .slice q9 k9 d9, .bool ov9] #[.int .i64 11, .int .i64 xa, .int .i64 xb, .int .i64 xn] q9 d9 RF := ⟨(Below.heap_alloc _ _ _ (by simp)).trans (heap_at rfl), heap_at (by simp), (Below.heap_alloc _ _ _ (by simp; omega)).trans ((Below.heap_alloc _ _ _ (by omega)).trans ((b9.block gm hgz).trans hrow)), (Below.heap_alloc _ _ _ (by simp; omega)).trans ((Below.heap_alloc _ _ _ (by omega)).trans ((b9.block gc gz).trans crow)), own_al (own_al (own_mono o9 (by omega)) _) _, ((hBx.trans (b9.mono (by omega))).alloc (by omega) _).alloc (by simp; omega) _, ⟨hgc, hgs2, by omega, by omega⟩⟩
          have S0 : ((w9.alloc (.cells #[.int .i64 pcF, .int .i64 a0, .int .i64 a1, .int .i64 a2, .int .i64 a3, .int .i64 a4, .int .i64 a5, .int .i64 a6, .int .i64 a7, .slice q9 k9 d9, .bool ov9] 41)).alloc (.cells #[.int .i64 11, .int .i64 xa, .int .i64 xb, .int .i64 xn] 45)).heap[gs]? = some (.cells (cI (incK S 0)) 43 (0, 0)) := by rw [incK_zero]; exact (Below.heap_alloc _ _ _ (by simp; omega)).trans ((Below.heap_alloc _ _ _ (by omega)).trans ((b9.block gs hgz2).trans hrowS))
          generalize ((w9.alloc (.cells #[.int .i64 pcF, .int .i64 a0, .int .i64 a1, .int .i64 a2, .int .i64 a3, .int .i64 a4, .int .i64 a5, .int .i64 a6, .int .i64 a7, .slice q9 k9 d9, .bool ov9] 41)).alloc (.cells #[.int .i64 11, .int .i64 xa, .int .i64 xb, .int .i64 xn] 45)) = wd at W0 S0 ⊢
          generalize w9.heap.size = rx at W0 ⊢
          generalize hri : rx + 1 = ri at W0 ⊢
          clear o9 c9 c9b gz9 hz9 nn0 nn1 nn2 nn3 nn4 nn5 nn6 nn7 nn8 nn9 nn10 g0 g1 g2 hstep HPOS hrx b9
          go_loopw [15] (fun t wx => ∃ j : Nat, j ≤ 4 ∧ t = .int .i64 j ∧ Wk gc gm gs rx ri w8 wx #[.int .i64 (T : Int), .int .i64 (G : Int), .slice q4 sn d4] #[.int .i64 (pp : Int), .int .i64 m0, .int .i64 m1, .int .i64 m2, .int .i64 m3, .int .i64 m4, .int .i64 m5, .int .i64 m6, .int .i64 m7, .slice qr k dr, .bool false] #[.int .i64 pcF, .int .i64 a0, .int .i64 a1, .int .i64 a2, .int .i64 a3, .int .i64 a4, .int .i64 a5, .int .i64 a6, .int .i64 a7, .slice q9 k9 d9, .bool ov9] #[.int .i64 11, .int .i64 xa, .int .i64 xb, .int .i64 xn] q9 d9 RF ∧ wx.heap[gs]? = some (.cells (cI (incK S j)) 43 (0, 0))) (fun t _ => 4 - (intOf t).toNat)
          case atStart => exact ⟨0, by omega, rfl, W0, S0⟩
          case round =>
            obtain ⟨j, hj, rfl, hW, hSr⟩ := hrel
            clear W0 S0
            by_cases hlt : j < 4
            · have hjS : j < S.length := by omega
              obtain ⟨r0, r1, r2, r3⟩ := row4 hSr (k := j) (by rw [incK_len]; exact hjS)
              rw [incK_get hjS] at r0
              have hbd := HSB.out j hjS
              have HNXT : Hid (0 < S[j] → incK S (j + 1) = (incK S j).set j (S[j] + 1)) := fun h => by rw [incK_next hjS, inc_pos h]
              have HSTY : Hid (¬ 0 < S[j] → incK S (j + 1) = incK S j) := fun h => incK_stay hjS (inc_not h)
              have r4 := r3 (S[j] + 1)
              have r5 := hW.kp (Kp.set (w := wr) (a := ⟨gs, j, none⟩) rfl (.int .i64 (S[j] + 1)))
              generalize S[j] = v at *
              have dj : decide ((j : Int) < 4) = true := by simp; omega
              by_cases hv : 0 < v
              · have dv : decide ((0 : Int) < v) = true := by simpa using hv
                have HX := HNXT.out hv
                have HX2 : Hid (incK S (j + 1) = (incK S j).set j (v + 1)) := HX
                clear HX HNXT HSTY r3
                go_wp2
                go_roundw
                case rel => exact ⟨j + 1, by omega, by go_num, r5, by rw [HX2.out]; exact r4⟩
                case measure => simp [intOf]; omega
              · have dv : decide ((0 : Int) < v) = false := by simpa using hv
                have HX2 : Hid (incK S (j + 1) = incK S j) := HSTY.out hv
                clear HNXT HSTY r3 r4 r5
                go_wp2
                go_roundw
                case rel => exact ⟨j + 1, by omega, by go_num, hW, by rw [HX2.out]; exact hSr⟩
                case measure => simp [intOf]; omega
            · have dj : decide ((j : Int) < 4) = false := by simp; omega
              have ej : j = 4 := by omega
              rw [ej, incK_all hS4] at hSr
              clear ej hlt hj
              have irow := hW.i
              have i0 : wr.cell? ⟨ri, 0, none⟩ = some (.int .i64 11) := by rw [cell_of_row _ _ _ _ _ _ irow]; rfl
              have i1 : wr.cell? ⟨ri, 1, none⟩ = some (.int .i64 xa) := by rw [cell_of_row _ _ _ _ _ _ irow]; rfl
              have iz := lt_of_block irow
              have xrow := hW.x
              have e0 : wr.cell? ⟨rx, 0, none⟩ = some (.int .i64 pcF) := by rw [cell_of_row _ _ _ _ _ _ xrow]; rfl
              have e1 : wr.cell? ⟨rx, 1, none⟩ = some (.int .i64 a0) := by rw [cell_of_row _ _ _ _ _ _ xrow]; rfl
              have e2 : wr.cell? ⟨rx, 2, none⟩ = some (.int .i64 a1) := by rw [cell_of_row _ _ _ _ _ _ xrow]; rfl
              have e3 : wr.cell? ⟨rx, 3, none⟩ = some (.int .i64 a2) := by rw [cell_of_row _ _ _ _ _ _ xrow]; rfl
              have e4 : wr.cell? ⟨rx, 4, none⟩ = some (.int .i64 a3) := by rw [cell_of_row _ _ _ _ _ _ xrow]; rfl
              have e5 : wr.cell? ⟨rx, 5, none⟩ = some (.int .i64 a4) := by rw [cell_of_row _ _ _ _ _ _ xrow]; rfl
              have e6 : wr.cell? ⟨rx, 6, none⟩ = some (.int .i64 a5) := by rw [cell_of_row _ _ _ _ _ _ xrow]; rfl
              have e7 : wr.cell? ⟨rx, 7, none⟩ = some (.int .i64 a6) := by rw [cell_of_row _ _ _ _ _ _ xrow]; rfl
              have e8 : wr.cell? ⟨rx, 8, none⟩ = some (.int .i64 a7) := by rw [cell_of_row _ _ _ _ _ _ xrow]; rfl
              have e9 : wr.cell? ⟨rx, 9, none⟩ = some (.slice q9 k9 d9) := by rw [cell_of_row _ _ _ _ _ _ xrow]; rfl
              have e10 : wr.cell? ⟨rx, 10, none⟩ = some (.bool ov9) := by rw [cell_of_row _ _ _ _ _ _ xrow]; rfl
              have xz := lt_of_block xrow
              have mrow := hW.m
              clear hgz2 hgz
              go_wp2_with (refine wpList_store_row rfl 41 (.tmp 8) (.tmp 126) rfl gm #[.int .i64 pcF, .int .i64 a0, .int .i64 a1, .int .i64 a2, .int .i64 a3, .int .i64 a4, .int .i64 a5, .int .i64 a6, .int .i64 a7, .slice q9 k9 d9, .bool ov9] rfl rfl 41 #[.int .i64 (pp : Int), .int .i64 m0, .int .i64 m1, .int .i64 m2, .int .i64 m3, .int .i64 m4, .int .i64 m5, .int .i64 m6, .int .i64 m7, .slice qr k dr, .bool false] mrow info38 rfl (ones11 _ _ _ _ _ _ _ _ _ _ _ _ _) ?_)
              simp only [Act.put]
              go_roundw
              case rel => exact ⟨_, _, _, _, _, _, _, _, _, _, _, _, _, _, al + 1, 0, _, by go_num, by go_num, hd_go HL0.out HGd.out HP.out HW.out hgs2 hMid HGt.out hrel9 _ _ _ _ _ _ _ _ HK9 mrow hW.o (by rw [nextS_m (by decide) (by decide)]; exact hSr) (by rw [if_pos (by omega)]) hW.b⟩
              case measure => simp [intOf]; omega
        · subst h
          clear hmay
          go_wp2_with (first
            | (go_at_call 16; go_must (refine hstep.mono ?_; rintro e w9 ⟨⟨pcF, a0, a1, a2, a3, a4, a5, a6, a7, q9, d9, k9, RF, ov9, rfl, HK9, o9, hrel9⟩, b9⟩; have hz9 := b9.size; have c9 := (b9.cell (p := ⟨gc, 0, none⟩) gz).trans g0; have c9b := (b9.cell (p := ⟨gc, 1, none⟩) gz).trans g1; have gz9 : gc < w9.heap.size := (by omega); have hTT := HPOS.out _ _ _ hrel9; have dT : decide ((T : Int) < (al : Int) + 1) = false := (by simp; omega))))
          have W0 : Wk gc gm gs w9.heap.size (w9.heap.size + 1) w8 ((w9.alloc (.cells #[.int .i64 pcF, .int .i64 a0, .int .i64 a1, .int .i64 a2, .int .i64 a3, .int .i64 a4, .int .i64 a5, .int .i64 a6, .int .i64 a7, .slice q9 k9 d9, .bool ov9] 41)).alloc (.cells #[.int .i64 0, .int .i64 xa, .int .i64 xb, .int .i64 xn] 45)) #[.int .i64 (T : Int), .int .i64 (G : Int), .slice q4 sn d4] #[.int .i64 (pp : Int), .int .i64 m0, .int .i64 m1, .int .i64 m2, .int .i64 m3, .int .i64 m4, .int .i64 m5, .int .i64 m6, .int .i64 m7, .slice qr k dr, .bool false] #[.int .i64 pcF, .int .i64 a0, .int .i64 a1, .int .i64 a2, .int .i64 a3, .int .i64 a4, .int .i64 a5, .int .i64 a6, .int .i64 a7, .slice q9 k9 d9, .bool ov9] #[.int .i64 0, .int .i64 xa, .int .i64 xb, .int .i64 xn] q9 d9 RF := ⟨(Below.heap_alloc _ _ _ (by simp)).trans (heap_at rfl), heap_at (by simp), (Below.heap_alloc _ _ _ (by simp; omega)).trans ((Below.heap_alloc _ _ _ (by omega)).trans ((b9.block gm hgz).trans hrow)), (Below.heap_alloc _ _ _ (by simp; omega)).trans ((Below.heap_alloc _ _ _ (by omega)).trans ((b9.block gc gz).trans crow)), own_al (own_al (own_mono o9 (by omega)) _) _, ((hBx.trans (b9.mono (by omega))).alloc (by omega) _).alloc (by simp; omega) _, ⟨hgc, hgs2, by omega, by omega⟩⟩
          have S0 : ((w9.alloc (.cells #[.int .i64 pcF, .int .i64 a0, .int .i64 a1, .int .i64 a2, .int .i64 a3, .int .i64 a4, .int .i64 a5, .int .i64 a6, .int .i64 a7, .slice q9 k9 d9, .bool ov9] 41)).alloc (.cells #[.int .i64 0, .int .i64 xa, .int .i64 xb, .int .i64 xn] 45)).heap[gs]? = some (.cells (cI (incK S 0)) 43 (0, 0)) := by rw [incK_zero]; exact (Below.heap_alloc _ _ _ (by simp; omega)).trans ((Below.heap_alloc _ _ _ (by omega)).trans ((b9.block gs hgz2).trans hrowS))
          generalize ((w9.alloc (.cells #[.int .i64 pcF, .int .i64 a0, .int .i64 a1, .int .i64 a2, .int .i64 a3, .int .i64 a4, .int .i64 a5, .int .i64 a6, .int .i64 a7, .slice q9 k9 d9, .bool ov9] 41)).alloc (.cells #[.int .i64 0, .int .i64 xa, .int .i64 xb, .int .i64 xn] 45)) = wd at W0 S0 ⊢
          generalize w9.heap.size = rx at W0 ⊢
          generalize hri : rx + 1 = ri at W0 ⊢
          clear o9 c9 c9b gz9 hz9 nn0 nn1 nn2 nn3 nn4 nn5 nn6 nn7 nn8 nn9 nn10 g0 g1 g2 hstep HPOS hrx b9
          go_loopw [15] (fun t wx => ∃ j : Nat, j ≤ 4 ∧ t = .int .i64 j ∧ Wk gc gm gs rx ri w8 wx #[.int .i64 (T : Int), .int .i64 (G : Int), .slice q4 sn d4] #[.int .i64 (pp : Int), .int .i64 m0, .int .i64 m1, .int .i64 m2, .int .i64 m3, .int .i64 m4, .int .i64 m5, .int .i64 m6, .int .i64 m7, .slice qr k dr, .bool false] #[.int .i64 pcF, .int .i64 a0, .int .i64 a1, .int .i64 a2, .int .i64 a3, .int .i64 a4, .int .i64 a5, .int .i64 a6, .int .i64 a7, .slice q9 k9 d9, .bool ov9] #[.int .i64 0, .int .i64 xa, .int .i64 xb, .int .i64 xn] q9 d9 RF ∧ wx.heap[gs]? = some (.cells (cI (incK S j)) 43 (0, 0))) (fun t _ => 4 - (intOf t).toNat)
          case atStart => exact ⟨0, by omega, rfl, W0, S0⟩
          case round =>
            obtain ⟨j, hj, rfl, hW, hSr⟩ := hrel
            clear W0 S0
            by_cases hlt : j < 4
            · have hjS : j < S.length := by omega
              obtain ⟨r0, r1, r2, r3⟩ := row4 hSr (k := j) (by rw [incK_len]; exact hjS)
              rw [incK_get hjS] at r0
              have hbd := HSB.out j hjS
              have HNXT : Hid (0 < S[j] → incK S (j + 1) = (incK S j).set j (S[j] + 1)) := fun h => by rw [incK_next hjS, inc_pos h]
              have HSTY : Hid (¬ 0 < S[j] → incK S (j + 1) = incK S j) := fun h => incK_stay hjS (inc_not h)
              have r4 := r3 (S[j] + 1)
              have r5 := hW.kp (Kp.set (w := wr) (a := ⟨gs, j, none⟩) rfl (.int .i64 (S[j] + 1)))
              generalize S[j] = v at *
              have dj : decide ((j : Int) < 4) = true := by simp; omega
              by_cases hv : 0 < v
              · have dv : decide ((0 : Int) < v) = true := by simpa using hv
                have HX := HNXT.out hv
                have HX2 : Hid (incK S (j + 1) = (incK S j).set j (v + 1)) := HX
                clear HX HNXT HSTY r3
                go_wp2
                go_roundw
                case rel => exact ⟨j + 1, by omega, by go_num, r5, by rw [HX2.out]; exact r4⟩
                case measure => simp [intOf]; omega
              · have dv : decide ((0 : Int) < v) = false := by simpa using hv
                have HX2 : Hid (incK S (j + 1) = incK S j) := HSTY.out hv
                clear HNXT HSTY r3 r4 r5
                go_wp2
                go_roundw
                case rel => exact ⟨j + 1, by omega, by go_num, hW, by rw [HX2.out]; exact hSr⟩
                case measure => simp [intOf]; omega
            · have dj : decide ((j : Int) < 4) = false := by simp; omega
              have ej : j = 4 := by omega
              rw [ej, incK_all hS4] at hSr
              clear ej hlt hj
              have irow := hW.i
              have i0 : wr.cell? ⟨ri, 0, none⟩ = some (.int .i64 0) := by rw [cell_of_row _ _ _ _ _ _ irow]; rfl
              have i1 : wr.cell? ⟨ri, 1, none⟩ = some (.int .i64 xa) := by rw [cell_of_row _ _ _ _ _ _ irow]; rfl
              have iz := lt_of_block irow
              have xrow := hW.x
              have e0 : wr.cell? ⟨rx, 0, none⟩ = some (.int .i64 pcF) := by rw [cell_of_row _ _ _ _ _ _ xrow]; rfl
              have e1 : wr.cell? ⟨rx, 1, none⟩ = some (.int .i64 a0) := by rw [cell_of_row _ _ _ _ _ _ xrow]; rfl
              have e2 : wr.cell? ⟨rx, 2, none⟩ = some (.int .i64 a1) := by rw [cell_of_row _ _ _ _ _ _ xrow]; rfl
              have e3 : wr.cell? ⟨rx, 3, none⟩ = some (.int .i64 a2) := by rw [cell_of_row _ _ _ _ _ _ xrow]; rfl
              have e4 : wr.cell? ⟨rx, 4, none⟩ = some (.int .i64 a3) := by rw [cell_of_row _ _ _ _ _ _ xrow]; rfl
              have e5 : wr.cell? ⟨rx, 5, none⟩ = some (.int .i64 a4) := by rw [cell_of_row _ _ _ _ _ _ xrow]; rfl
              have e6 : wr.cell? ⟨rx, 6, none⟩ = some (.int .i64 a5) := by rw [cell_of_row _ _ _ _ _ _ xrow]; rfl
              have e7 : wr.cell? ⟨rx, 7, none⟩ = some (.int .i64 a6) := by rw [cell_of_row _ _ _ _ _ _ xrow]; rfl
              have e8 : wr.cell? ⟨rx, 8, none⟩ = some (.int .i64 a7) := by rw [cell_of_row _ _ _ _ _ _ xrow]; rfl
              have e9 : wr.cell? ⟨rx, 9, none⟩ = some (.slice q9 k9 d9) := by rw [cell_of_row _ _ _ _ _ _ xrow]; rfl
              have e10 : wr.cell? ⟨rx, 10, none⟩ = some (.bool ov9) := by rw [cell_of_row _ _ _ _ _ _ xrow]; rfl
              have xz := lt_of_block xrow
              have mrow := hW.m
              clear hgz2 hgz
              go_wp2_with (refine wpList_store_row rfl 41 (.tmp 8) (.tmp 126) rfl gm #[.int .i64 pcF, .int .i64 a0, .int .i64 a1, .int .i64 a2, .int .i64 a3, .int .i64 a4, .int .i64 a5, .int .i64 a6, .int .i64 a7, .slice q9 k9 d9, .bool ov9] rfl rfl 41 #[.int .i64 (pp : Int), .int .i64 m0, .int .i64 m1, .int .i64 m2, .int .i64 m3, .int .i64 m4, .int .i64 m5, .int .i64 m6, .int .i64 m7, .slice qr k dr, .bool false] mrow info38 rfl (ones11 _ _ _ _ _ _ _ _ _ _ _ _ _) ?_)
              simp only [Act.put]
              go_roundw
              case rel => exact ⟨_, _, _, _, _, _, _, _, _, _, _, _, _, _, al + 1, 0, _, by go_num, by go_num, hd_go HL0.out HGd.out HP.out HW.out hgs2 hMid HGt.out hrel9 _ _ _ _ _ _ _ _ HK9 mrow hW.o (by rw [nextS_m (by decide) (by decide)]; exact hSr) (by rw [if_pos (by omega)]) hW.b⟩
              case measure => simp [intOf]; omega
        · subst h
          obtain ⟨A, rfl⟩ : ∃ A : Nat, xa = (A : Int) := ⟨xa.toNat, by omega⟩
          have hA : A < 4 := by omega
          clear hmay
          go_wp2_with (first
            | (go_at_call 16; go_must (refine hstep.mono ?_; rintro e w9 ⟨⟨pcF, a0, a1, a2, a3, a4, a5, a6, a7, q9, d9, k9, RF, ov9, rfl, HK9, o9, hrel9⟩, b9⟩; have hz9 := b9.size; have c9 := (b9.cell (p := ⟨gc, 0, none⟩) gz).trans g0; have c9b := (b9.cell (p := ⟨gc, 1, none⟩) gz).trans g1; have gz9 : gc < w9.heap.size := (by omega); have hTT := HPOS.out _ _ _ hrel9; have dT : decide ((T : Int) < (al : Int) + 1) = false := (by simp; omega))))
          have W0 : Wk gc gm gs w9.heap.size (w9.heap.size + 1) w8 ((w9.alloc (.cells #[.int .i64 pcF, .int .i64 a0, .int .i64 a1, .int .i64 a2, .int .i64 a3, .int .i64 a4, .int .i64 a5, .int .i64 a6, .int .i64 a7, .slice q9 k9 d9, .bool ov9] 41)).alloc (.cells #[.int .i64 9, .int .i64 (A : Int), .int .i64 xb, .int .i64 xn] 45)) #[.int .i64 (T : Int), .int .i64 (G : Int), .slice q4 sn d4] #[.int .i64 (pp : Int), .int .i64 m0, .int .i64 m1, .int .i64 m2, .int .i64 m3, .int .i64 m4, .int .i64 m5, .int .i64 m6, .int .i64 m7, .slice qr k dr, .bool false] #[.int .i64 pcF, .int .i64 a0, .int .i64 a1, .int .i64 a2, .int .i64 a3, .int .i64 a4, .int .i64 a5, .int .i64 a6, .int .i64 a7, .slice q9 k9 d9, .bool ov9] #[.int .i64 9, .int .i64 (A : Int), .int .i64 xb, .int .i64 xn] q9 d9 RF := ⟨(Below.heap_alloc _ _ _ (by simp)).trans (heap_at rfl), heap_at (by simp), (Below.heap_alloc _ _ _ (by simp; omega)).trans ((Below.heap_alloc _ _ _ (by omega)).trans ((b9.block gm hgz).trans hrow)), (Below.heap_alloc _ _ _ (by simp; omega)).trans ((Below.heap_alloc _ _ _ (by omega)).trans ((b9.block gc gz).trans crow)), own_al (own_al (own_mono o9 (by omega)) _) _, ((hBx.trans (b9.mono (by omega))).alloc (by omega) _).alloc (by simp; omega) _, ⟨hgc, hgs2, by omega, by omega⟩⟩
          have S0 : ((w9.alloc (.cells #[.int .i64 pcF, .int .i64 a0, .int .i64 a1, .int .i64 a2, .int .i64 a3, .int .i64 a4, .int .i64 a5, .int .i64 a6, .int .i64 a7, .slice q9 k9 d9, .bool ov9] 41)).alloc (.cells #[.int .i64 9, .int .i64 (A : Int), .int .i64 xb, .int .i64 xn] 45)).heap[gs]? = some (.cells (cI (incK S 0)) 43 (0, 0)) := by rw [incK_zero]; exact (Below.heap_alloc _ _ _ (by simp; omega)).trans ((Below.heap_alloc _ _ _ (by omega)).trans ((b9.block gs hgz2).trans hrowS))
          generalize ((w9.alloc (.cells #[.int .i64 pcF, .int .i64 a0, .int .i64 a1, .int .i64 a2, .int .i64 a3, .int .i64 a4, .int .i64 a5, .int .i64 a6, .int .i64 a7, .slice q9 k9 d9, .bool ov9] 41)).alloc (.cells #[.int .i64 9, .int .i64 (A : Int), .int .i64 xb, .int .i64 xn] 45)) = wd at W0 S0 ⊢
          generalize w9.heap.size = rx at W0 ⊢
          generalize hri : rx + 1 = ri at W0 ⊢
          clear o9 c9 c9b gz9 hz9 nn0 nn1 nn2 nn3 nn4 nn5 nn6 nn7 nn8 nn9 nn10 g0 g1 g2 hstep HPOS hrx b9
          go_loopw [15] (fun t wx => ∃ j : Nat, j ≤ 4 ∧ t = .int .i64 j ∧ Wk gc gm gs rx ri w8 wx #[.int .i64 (T : Int), .int .i64 (G : Int), .slice q4 sn d4] #[.int .i64 (pp : Int), .int .i64 m0, .int .i64 m1, .int .i64 m2, .int .i64 m3, .int .i64 m4, .int .i64 m5, .int .i64 m6, .int .i64 m7, .slice qr k dr, .bool false] #[.int .i64 pcF, .int .i64 a0, .int .i64 a1, .int .i64 a2, .int .i64 a3, .int .i64 a4, .int .i64 a5, .int .i64 a6, .int .i64 a7, .slice q9 k9 d9, .bool ov9] #[.int .i64 9, .int .i64 (A : Int), .int .i64 xb, .int .i64 xn] q9 d9 RF ∧ wx.heap[gs]? = some (.cells (cI (incK S j)) 43 (0, 0))) (fun t _ => 4 - (intOf t).toNat)
          case atStart => exact ⟨0, by omega, rfl, W0, S0⟩
          case round =>
            obtain ⟨j, hj, rfl, hW, hSr⟩ := hrel
            clear W0 S0
            by_cases hlt : j < 4
            · have hjS : j < S.length := by omega
              obtain ⟨r0, r1, r2, r3⟩ := row4 hSr (k := j) (by rw [incK_len]; exact hjS)
              rw [incK_get hjS] at r0
              have hbd := HSB.out j hjS
              have HNXT : Hid (0 < S[j] → incK S (j + 1) = (incK S j).set j (S[j] + 1)) := fun h => by rw [incK_next hjS, inc_pos h]
              have HSTY : Hid (¬ 0 < S[j] → incK S (j + 1) = incK S j) := fun h => incK_stay hjS (inc_not h)
              have r4 := r3 (S[j] + 1)
              have r5 := hW.kp (Kp.set (w := wr) (a := ⟨gs, j, none⟩) rfl (.int .i64 (S[j] + 1)))
              generalize S[j] = v at *
              have dj : decide ((j : Int) < 4) = true := by simp; omega
              by_cases hv : 0 < v
              · have dv : decide ((0 : Int) < v) = true := by simpa using hv
                have HX := HNXT.out hv
                have HX2 : Hid (incK S (j + 1) = (incK S j).set j (v + 1)) := HX
                clear HX HNXT HSTY r3
                go_wp2
                go_roundw
                case rel => exact ⟨j + 1, by omega, by go_num, r5, by rw [HX2.out]; exact r4⟩
                case measure => simp [intOf]; omega
              · have dv : decide ((0 : Int) < v) = false := by simpa using hv
                have HX2 : Hid (incK S (j + 1) = incK S j) := HSTY.out hv
                clear HNXT HSTY r3 r4 r5
                go_wp2
                go_roundw
                case rel => exact ⟨j + 1, by omega, by go_num, hW, by rw [HX2.out]; exact hSr⟩
                case measure => simp [intOf]; omega
            · have dj : decide ((j : Int) < 4) = false := by simp; omega
              have ej : j = 4 := by omega
              rw [ej, incK_all hS4] at hSr
              clear ej hlt hj
              have irow := hW.i
              have i0 : wr.cell? ⟨ri, 0, none⟩ = some (.int .i64 9) := by rw [cell_of_row _ _ _ _ _ _ irow]; rfl
              have i1 : wr.cell? ⟨ri, 1, none⟩ = some (.int .i64 (A : Int)) := by rw [cell_of_row _ _ _ _ _ _ irow]; rfl
              have iz := lt_of_block irow
              obtain ⟨u0, u1, u2, u3⟩ := row4 hSr (k := A) (by rw [List.length_map]; omega)
              have hSz := u3 1
              have hWz := hW.kp (Kp.set (w := wr) (a := ⟨gs, A, none⟩) rfl (.int .i64 1))
              clear u3
              have xrow := hWz.x
              have e0 : (wr.setCell ⟨gs, A, none⟩ (.int .i64 1)).cell? ⟨rx, 0, none⟩ = some (.int .i64 pcF) := by rw [cell_of_row _ _ _ _ _ _ xrow]; rfl
              have e1 : (wr.setCell ⟨gs, A, none⟩ (.int .i64 1)).cell? ⟨rx, 1, none⟩ = some (.int .i64 a0) := by rw [cell_of_row _ _ _ _ _ _ xrow]; rfl
              have e2 : (wr.setCell ⟨gs, A, none⟩ (.int .i64 1)).cell? ⟨rx, 2, none⟩ = some (.int .i64 a1) := by rw [cell_of_row _ _ _ _ _ _ xrow]; rfl
              have e3 : (wr.setCell ⟨gs, A, none⟩ (.int .i64 1)).cell? ⟨rx, 3, none⟩ = some (.int .i64 a2) := by rw [cell_of_row _ _ _ _ _ _ xrow]; rfl
              have e4 : (wr.setCell ⟨gs, A, none⟩ (.int .i64 1)).cell? ⟨rx, 4, none⟩ = some (.int .i64 a3) := by rw [cell_of_row _ _ _ _ _ _ xrow]; rfl
              have e5 : (wr.setCell ⟨gs, A, none⟩ (.int .i64 1)).cell? ⟨rx, 5, none⟩ = some (.int .i64 a4) := by rw [cell_of_row _ _ _ _ _ _ xrow]; rfl
              have e6 : (wr.setCell ⟨gs, A, none⟩ (.int .i64 1)).cell? ⟨rx, 6, none⟩ = some (.int .i64 a5) := by rw [cell_of_row _ _ _ _ _ _ xrow]; rfl
              have e7 : (wr.setCell ⟨gs, A, none⟩ (.int .i64 1)).cell? ⟨rx, 7, none⟩ = some (.int .i64 a6) := by rw [cell_of_row _ _ _ _ _ _ xrow]; rfl
              have e8 : (wr.setCell ⟨gs, A, none⟩ (.int .i64 1)).cell? ⟨rx, 8, none⟩ = some (.int .i64 a7) := by rw [cell_of_row _ _ _ _ _ _ xrow]; rfl
              have e9 : (wr.setCell ⟨gs, A, none⟩ (.int .i64 1)).cell? ⟨rx, 9, none⟩ = some (.slice q9 k9 d9) := by rw [cell_of_row _ _ _ _ _ _ xrow]; rfl
              have e10 : (wr.setCell ⟨gs, A, none⟩ (.int .i64 1)).cell? ⟨rx, 10, none⟩ = some (.bool ov9) := by rw [cell_of_row _ _ _ _ _ _ xrow]; rfl
              have xz := lt_of_block xrow
              have mrow := hWz.m
              clear hgz2 hgz
              go_wp2_with (refine wpList_store_row rfl 41 (.tmp 8) (.tmp 126) rfl gm #[.int .i64 pcF, .int .i64 a0, .int .i64 a1, .int .i64 a2, .int .i64 a3, .int .i64 a4, .int .i64 a5, .int .i64 a6, .int .i64 a7, .slice q9 k9 d9, .bool ov9] rfl rfl 41 #[.int .i64 (pp : Int), .int .i64 m0, .int .i64 m1, .int .i64 m2, .int .i64 m3, .int .i64 m4, .int .i64 m5, .int .i64 m6, .int .i64 m7, .slice qr k dr, .bool false] mrow info38 rfl (ones11 _ _ _ _ _ _ _ _ _ _ _ _ _) ?_)
              simp only [Act.put]
              go_roundw
              case rel => exact ⟨_, _, _, _, _, _, _, _, _, _, _, _, _, _, al + 1, pz + 1, _, by go_num, by go_num, hd_go HL0.out HGd.out HP.out HW.out hgs2 hMid HGt.out hrel9 _ _ _ _ _ _ _ _ HK9 mrow hWz.o (by rw [nextS_l A]; exact hSz) (by rw [if_neg (by decide)]) hWz.b⟩
              case measure => simp [intOf]; omega
        · subst h
          obtain ⟨A, rfl⟩ : ∃ A : Nat, xa = (A : Int) := ⟨xa.toNat, by omega⟩
          have hA : A < 4 := by omega
          clear hmay
          go_wp2_with (first
            | (go_at_call 16; go_must (refine hstep.mono ?_; rintro e w9 ⟨⟨pcF, a0, a1, a2, a3, a4, a5, a6, a7, q9, d9, k9, RF, ov9, rfl, HK9, o9, hrel9⟩, b9⟩; have hz9 := b9.size; have c9 := (b9.cell (p := ⟨gc, 0, none⟩) gz).trans g0; have c9b := (b9.cell (p := ⟨gc, 1, none⟩) gz).trans g1; have gz9 : gc < w9.heap.size := (by omega); have hTT := HPOS.out _ _ _ hrel9; have dT : decide ((T : Int) < (al : Int) + 1) = false := (by simp; omega))))
          have W0 : Wk gc gm gs w9.heap.size (w9.heap.size + 1) w8 ((w9.alloc (.cells #[.int .i64 pcF, .int .i64 a0, .int .i64 a1, .int .i64 a2, .int .i64 a3, .int .i64 a4, .int .i64 a5, .int .i64 a6, .int .i64 a7, .slice q9 k9 d9, .bool ov9] 41)).alloc (.cells #[.int .i64 10, .int .i64 (A : Int), .int .i64 xb, .int .i64 xn] 45)) #[.int .i64 (T : Int), .int .i64 (G : Int), .slice q4 sn d4] #[.int .i64 (pp : Int), .int .i64 m0, .int .i64 m1, .int .i64 m2, .int .i64 m3, .int .i64 m4, .int .i64 m5, .int .i64 m6, .int .i64 m7, .slice qr k dr, .bool false] #[.int .i64 pcF, .int .i64 a0, .int .i64 a1, .int .i64 a2, .int .i64 a3, .int .i64 a4, .int .i64 a5, .int .i64 a6, .int .i64 a7, .slice q9 k9 d9, .bool ov9] #[.int .i64 10, .int .i64 (A : Int), .int .i64 xb, .int .i64 xn] q9 d9 RF := ⟨(Below.heap_alloc _ _ _ (by simp)).trans (heap_at rfl), heap_at (by simp), (Below.heap_alloc _ _ _ (by simp; omega)).trans ((Below.heap_alloc _ _ _ (by omega)).trans ((b9.block gm hgz).trans hrow)), (Below.heap_alloc _ _ _ (by simp; omega)).trans ((Below.heap_alloc _ _ _ (by omega)).trans ((b9.block gc gz).trans crow)), own_al (own_al (own_mono o9 (by omega)) _) _, ((hBx.trans (b9.mono (by omega))).alloc (by omega) _).alloc (by simp; omega) _, ⟨hgc, hgs2, by omega, by omega⟩⟩
          have S0 : ((w9.alloc (.cells #[.int .i64 pcF, .int .i64 a0, .int .i64 a1, .int .i64 a2, .int .i64 a3, .int .i64 a4, .int .i64 a5, .int .i64 a6, .int .i64 a7, .slice q9 k9 d9, .bool ov9] 41)).alloc (.cells #[.int .i64 10, .int .i64 (A : Int), .int .i64 xb, .int .i64 xn] 45)).heap[gs]? = some (.cells (cI (incK S 0)) 43 (0, 0)) := by rw [incK_zero]; exact (Below.heap_alloc _ _ _ (by simp; omega)).trans ((Below.heap_alloc _ _ _ (by omega)).trans ((b9.block gs hgz2).trans hrowS))
          generalize ((w9.alloc (.cells #[.int .i64 pcF, .int .i64 a0, .int .i64 a1, .int .i64 a2, .int .i64 a3, .int .i64 a4, .int .i64 a5, .int .i64 a6, .int .i64 a7, .slice q9 k9 d9, .bool ov9] 41)).alloc (.cells #[.int .i64 10, .int .i64 (A : Int), .int .i64 xb, .int .i64 xn] 45)) = wd at W0 S0 ⊢
          generalize w9.heap.size = rx at W0 ⊢
          generalize hri : rx + 1 = ri at W0 ⊢
          clear o9 c9 c9b gz9 hz9 nn0 nn1 nn2 nn3 nn4 nn5 nn6 nn7 nn8 nn9 nn10 g0 g1 g2 hstep HPOS hrx b9
          go_loopw [15] (fun t wx => ∃ j : Nat, j ≤ 4 ∧ t = .int .i64 j ∧ Wk gc gm gs rx ri w8 wx #[.int .i64 (T : Int), .int .i64 (G : Int), .slice q4 sn d4] #[.int .i64 (pp : Int), .int .i64 m0, .int .i64 m1, .int .i64 m2, .int .i64 m3, .int .i64 m4, .int .i64 m5, .int .i64 m6, .int .i64 m7, .slice qr k dr, .bool false] #[.int .i64 pcF, .int .i64 a0, .int .i64 a1, .int .i64 a2, .int .i64 a3, .int .i64 a4, .int .i64 a5, .int .i64 a6, .int .i64 a7, .slice q9 k9 d9, .bool ov9] #[.int .i64 10, .int .i64 (A : Int), .int .i64 xb, .int .i64 xn] q9 d9 RF ∧ wx.heap[gs]? = some (.cells (cI (incK S j)) 43 (0, 0))) (fun t _ => 4 - (intOf t).toNat)
          case atStart => exact ⟨0, by omega, rfl, W0, S0⟩
          case round =>
            obtain ⟨j, hj, rfl, hW, hSr⟩ := hrel
            clear W0 S0
            by_cases hlt : j < 4
            · have hjS : j < S.length := by omega
              obtain ⟨r0, r1, r2, r3⟩ := row4 hSr (k := j) (by rw [incK_len]; exact hjS)
              rw [incK_get hjS] at r0
              have hbd := HSB.out j hjS
              have HNXT : Hid (0 < S[j] → incK S (j + 1) = (incK S j).set j (S[j] + 1)) := fun h => by rw [incK_next hjS, inc_pos h]
              have HSTY : Hid (¬ 0 < S[j] → incK S (j + 1) = incK S j) := fun h => incK_stay hjS (inc_not h)
              have r4 := r3 (S[j] + 1)
              have r5 := hW.kp (Kp.set (w := wr) (a := ⟨gs, j, none⟩) rfl (.int .i64 (S[j] + 1)))
              generalize S[j] = v at *
              have dj : decide ((j : Int) < 4) = true := by simp; omega
              by_cases hv : 0 < v
              · have dv : decide ((0 : Int) < v) = true := by simpa using hv
                have HX := HNXT.out hv
                have HX2 : Hid (incK S (j + 1) = (incK S j).set j (v + 1)) := HX
                clear HX HNXT HSTY r3
                go_wp2
                go_roundw
                case rel => exact ⟨j + 1, by omega, by go_num, r5, by rw [HX2.out]; exact r4⟩
                case measure => simp [intOf]; omega
              · have dv : decide ((0 : Int) < v) = false := by simpa using hv
                have HX2 : Hid (incK S (j + 1) = incK S j) := HSTY.out hv
                clear HNXT HSTY r3 r4 r5
                go_wp2
                go_roundw
                case rel => exact ⟨j + 1, by omega, by go_num, hW, by rw [HX2.out]; exact hSr⟩
                case measure => simp [intOf]; omega
            · have dj : decide ((j : Int) < 4) = false := by simp; omega
              have ej : j = 4 := by omega
              rw [ej, incK_all hS4] at hSr
              clear ej hlt hj
              have irow := hW.i
              have i0 : wr.cell? ⟨ri, 0, none⟩ = some (.int .i64 10) := by rw [cell_of_row _ _ _ _ _ _ irow]; rfl
              have i1 : wr.cell? ⟨ri, 1, none⟩ = some (.int .i64 (A : Int)) := by rw [cell_of_row _ _ _ _ _ _ irow]; rfl
              have iz := lt_of_block irow
              have hA3 : (S.map inc1)[A]'(by rw [List.length_map]; omega) = 3 := by
                rw [map_at (by omega), HSE.out, svL_at hA, HL0.out]
                have := (un_span HGd.out (by rw [← HL0.out]; exact HP.out) (pc := pp) (by rw [← HL0.out]; exact HPC.out) (by rw [← HL0.out, HGt.out])).1 (A : Int)
                rw [← HL0.out, HGt.out] at this
                rw [← HL0.out, this]
                simp
              obtain ⟨kw, hkw, hkw2⟩ := (un_span HGd.out (by rw [← HL0.out]; exact HP.out) (pc := pp) (by rw [← HL0.out]; exact HPC.out) (by rw [← HL0.out, HGt.out])).2
              rw [← HL0.out, HE.out, HSP.out] at hkw hkw2
              rw [HGt.out] at hkw2
              simp only at hkw2
              rw [HSN.out] at hkw
              have HKW : Hid (SP.getD kw (0, 0) = ((A : Int), 2)) := hkw2
              clear hkw2
              obtain ⟨u0, u1, u2, u3⟩ := row4 hSr (k := A) (by rw [List.length_map]; omega)
              rw [hA3] at u0
              have crow2 := hW.c
              have rS2 : Rd eSp wr q4 d4 SP := rS.below (by rw [hgm]; exact hW.b)
              clear hA3
              go_wp2
              generalize hwq : wr = wq at hW hSr u0 u1 u2 u3 crow2 rS2 irow i0 i1 iz ⊢
              clear hwq
              go_loopw [16, 17] (fun f t wx => ∃ (b : Bool) (i : Nat), i ≤ sn ∧ f = .bool b ∧ t = .int .i64 i ∧ (kw < i → b = true) ∧ Below wq.heap.size wq wx) (fun _ t _ => sn - (intOf t).toNat)
              case atStart => exact ⟨false, 0, by omega, rfl, rfl, fun h => absurd h (by omega), Below.refl _ _⟩
              case round =>
                obtain ⟨b, i, hi, rfl, rfl, hbk, hbi⟩ := hrel
                have gz3 := lt_of_block crow2
                have v0 : wr.cell? ⟨gc, 2, none⟩ = some (.slice q4 sn d4) := (hbi.cell (p := ⟨gc, 2, none⟩) gz3).trans (by rw [cell_of_row _ _ _ _ _ _ crow2]; rfl)
                have v1 : wr.cell? ⟨ri, 1, none⟩ = some (.int .i64 (A : Int)) := (hbi.cell (p := ⟨ri, 1, none⟩) iz).trans i1
                have v2 : wr.cell? ⟨gs, A, none⟩ = some (.int .i64 3) := (hbi.cell (p := ⟨gs, A, none⟩) u2).trans u0
                have hzz := hbi.size
                have gz4 : gc < wr.heap.size := by omega
                have gz5 : ri < wr.heap.size := by omega
                have gz6 : gs < wr.heap.size := by omega
                by_cases hlt : i < sn
                · have hiu : i < SP.length := by rw [HSN.out]; exact hlt
                  have di : decide ((i : Int) < (sn : Int)) = true := by simpa using hlt
                  have z1 : (0 : Int) ≤ (i : Int) := by omega
                  have z2 : (i : Int) < (sn : Int) := by omega
                  have HKI : Hid (kw = i → SP[i] = ((A : Int), 2)) := fun e => by subst e; have := HKW.out; rw [List.getD_eq_getElem?_getD, List.getElem?_eq_getElem hiu] at this; exact this
                  obtain ⟨bs, fs, hqs, hbs, w0, w1⟩ := (rS2.below hbi).span i hiu
                  generalize SP[i] = y at *
                  obtain ⟨s1, s2⟩ := y
                  simp only at w0 w1
                  cases b with
                  | true =>
                    clear v2 v1 w0 w1 HKI hqs
                    go_wp2
                    go_region
                    go_wp2
                    go_roundw
                    case rel => exact ⟨true, i + 1, by omega, rfl, by go_num, fun _ => rfl, (by first | exact hbi.drew | exact bel_draws hbi _)⟩
                    case measure => simp [intOf]; omega
                  | false =>
                    subst hqs
                    have hlow : ¬ kw < i := fun h => by cases hbk h
                    by_cases e1 : s1 = (A : Int)
                    · have d1 : (s1 == (A : Int)) = true := by simpa using e1
                      by_cases e2 : 2 ≤ s2
                      · have d2 : decide ((2 : Int) ≤ s2) = true := by simpa using e2
                        clear e1 HKI
                        go_wp2
                        go_quiet (fail)
                        go_wp2
                        go_roundw
                        case rel => exact ⟨true, i + 1, by omega, rfl, by go_num, fun _ => rfl, bel_draws hbi _⟩
                        case measure => simp [intOf]; omega
                      · have d2 : decide ((2 : Int) ≤ s2) = false := by simpa using e2
                        have hne : kw ≠ i := fun e => by have := HKI.out e; simp at this; omega
                        clear e1 HKI
                        go_wp2
                        go_quiet (fail)
                        go_wp2
                        go_roundw
                        case rel => exact ⟨false, i + 1, by omega, rfl, by go_num, fun h => absurd h (by omega), bel_draws hbi _⟩
                        case measure => simp [intOf]; omega
                    · have d1 : (s1 == (A : Int)) = false := by simpa using e1
                      have hne : kw ≠ i := fun e => by have := HKI.out e; simp at this; omega
                      clear e1 HKI v2 w1
                      go_wp2
                      go_quiet (fail)
                      go_wp2
                      go_roundw
                      case rel => exact ⟨false, i + 1, by omega, rfl, by go_num, fun h => absurd h (by omega), bel_draws hbi _⟩
                      case measure => simp [intOf]; omega
                · obtain rfl : i = sn := by omega
                  obtain rfl : b = true := hbk hkw
                  have di : decide ((i : Int) < (i : Int)) = false := by simp
                  have hSr2 : wr.heap[gs]? = _ := (hbi.block gs u2).trans hSr
                  have hW2 := hW.bel hbi
                  obtain ⟨t0, t1, t2, t3⟩ := row4 hSr2 (k := A) (by rw [List.length_map]; omega)
                  have hSz := t3 0
                  have hWz := hW2.kp (Kp.set (w := wr) (a := ⟨gs, A, none⟩) rfl (.int .i64 0))
                  clear t3
                  have xrow := hWz.x
                  have e0 : (wr.setCell ⟨gs, A, none⟩ (.int .i64 0)).cell? ⟨rx, 0, none⟩ = some (.int .i64 pcF) := by rw [cell_of_row _ _ _ _ _ _ xrow]; rfl
                  have e1 : (wr.setCell ⟨gs, A, none⟩ (.int .i64 0)).cell? ⟨rx, 1, none⟩ = some (.int .i64 a0) := by rw [cell_of_row _ _ _ _ _ _ xrow]; rfl
                  have e2 : (wr.setCell ⟨gs, A, none⟩ (.int .i64 0)).cell? ⟨rx, 2, none⟩ = some (.int .i64 a1) := by rw [cell_of_row _ _ _ _ _ _ xrow]; rfl
                  have e3 : (wr.setCell ⟨gs, A, none⟩ (.int .i64 0)).cell? ⟨rx, 3, none⟩ = some (.int .i64 a2) := by rw [cell_of_row _ _ _ _ _ _ xrow]; rfl
                  have e4 : (wr.setCell ⟨gs, A, none⟩ (.int .i64 0)).cell? ⟨rx, 4, none⟩ = some (.int .i64 a3) := by rw [cell_of_row _ _ _ _ _ _ xrow]; rfl
                  have e5 : (wr.setCell ⟨gs, A, none⟩ (.int .i64 0)).cell? ⟨rx, 5, none⟩ = some (.int .i64 a4) := by rw [cell_of_row _ _ _ _ _ _ xrow]; rfl
                  have e6 : (wr.setCell ⟨gs, A, none⟩ (.int .i64 0)).cell? ⟨rx, 6, none⟩ = some (.int .i64 a5) := by rw [cell_of_row _ _ _ _ _ _ xrow]; rfl
                  have e7 : (wr.setCell ⟨gs, A, none⟩ (.int .i64 0)).cell? ⟨rx, 7, none⟩ = some (.int .i64 a6) := by rw [cell_of_row _ _ _ _ _ _ xrow]; rfl
                  have e8 : (wr.setCell ⟨gs, A, none⟩ (.int .i64 0)).cell? ⟨rx, 8, none⟩ = some (.int .i64 a7) := by rw [cell_of_row _ _ _ _ _ _ xrow]; rfl
                  have e9 : (wr.setCell ⟨gs, A, none⟩ (.int .i64 0)).cell? ⟨rx, 9, none⟩ = some (.slice q9 k9 d9) := by rw [cell_of_row _ _ _ _ _ _ xrow]; rfl
                  have e10 : (wr.setCell ⟨gs, A, none⟩ (.int .i64 0)).cell? ⟨rx, 10, none⟩ = some (.bool ov9) := by rw [cell_of_row _ _ _ _ _ _ xrow]; rfl
                  have xz := lt_of_block xrow
                  have mrow := hWz.m
                  clear hgz2 hgz
                  go_wp2_with (refine wpList_store_row rfl 41 (.tmp 8) (.tmp 126) rfl gm #[.int .i64 pcF, .int .i64 a0, .int .i64 a1, .int .i64 a2, .int .i64 a3, .int .i64 a4, .int .i64 a5, .int .i64 a6, .int .i64 a7, .slice q9 k9 d9, .bool ov9] rfl rfl 41 #[.int .i64 (pp : Int), .int .i64 m0, .int .i64 m1, .int .i64 m2, .int .i64 m3, .int .i64 m4, .int .i64 m5, .int .i64 m6, .int .i64 m7, .slice qr k dr, .bool false] mrow info38 rfl (ones11 _ _ _ _ _ _ _ _ _ _ _ _ _) ?_)
                  simp only [Act.put]
                  go_roundw
                  case rel => exact ⟨_, _, _, _, _, _, _, _, _, _, _, _, _, _, al + 1, pz + 1, _, by go_num, by go_num, hd_go HL0.out HGd.out HP.out HW.out hgs2 hMid HGt.out hrel9 _ _ _ _ _ _ _ _ HK9 mrow hWz.o (by rw [nextS_u A]; exact hSz) (by rw [if_neg (by decide)]) hWz.b⟩
                  case measure => simp [intOf]; omega
        · have d11 : (xo == 11) = false := by simpa using h.1
          have d0 : (xo == 0) = false := by simpa using h.2.1
          have d9 : (xo == 9) = false := by simpa using h.2.2.1
          have d10 : (xo == 10) = false := by simpa using h.2.2.2
          have HO : Hid (xo ≠ 11 ∧ xo ≠ 0 ∧ xo ≠ 9 ∧ xo ≠ 10) := h
          clear hmay h
          go_wp2_with (first
            | (go_at_call 16; go_must (refine hstep.mono ?_; rintro e w9 ⟨⟨pcF, a0, a1, a2, a3, a4, a5, a6, a7, q9, d9, k9, RF, ov9, rfl, HK9, o9, hrel9⟩, b9⟩; have hz9 := b9.size; have c9 := (b9.cell (p := ⟨gc, 0, none⟩) gz).trans g0; have c9b := (b9.cell (p := ⟨gc, 1, none⟩) gz).trans g1; have gz9 : gc < w9.heap.size := (by omega); have hTT := HPOS.out _ _ _ hrel9; have dT : decide ((T : Int) < (al : Int) + 1) = false := (by simp; omega))))
          have W0 : Wk gc gm gs w9.heap.size (w9.heap.size + 1) w8 ((w9.alloc (.cells #[.int .i64 pcF, .int .i64 a0, .int .i64 a1, .int .i64 a2, .int .i64 a3, .int .i64 a4, .int .i64 a5, .int .i64 a6, .int .i64 a7, .slice q9 k9 d9, .bool ov9] 41)).alloc (.cells #[.int .i64 xo, .int .i64 xa, .int .i64 xb, .int .i64 xn] 45)) #[.int .i64 (T : Int), .int .i64 (G : Int), .slice q4 sn d4] #[.int .i64 (pp : Int), .int .i64 m0, .int .i64 m1, .int .i64 m2, .int .i64 m3, .int .i64 m4, .int .i64 m5, .int .i64 m6, .int .i64 m7, .slice qr k dr, .bool false] #[.int .i64 pcF, .int .i64 a0, .int .i64 a1, .int .i64 a2, .int .i64 a3, .int .i64 a4, .int .i64 a5, .int .i64 a6, .int .i64 a7, .slice q9 k9 d9, .bool ov9] #[.int .i64 xo, .int .i64 xa, .int .i64 xb, .int .i64 xn] q9 d9 RF := ⟨(Below.heap_alloc _ _ _ (by simp)).trans (heap_at rfl), heap_at (by simp), (Below.heap_alloc _ _ _ (by simp; omega)).trans ((Below.heap_alloc _ _ _ (by omega)).trans ((b9.block gm hgz).trans hrow)), (Below.heap_alloc _ _ _ (by simp; omega)).trans ((Below.heap_alloc _ _ _ (by omega)).trans ((b9.block gc gz).trans crow)), own_al (own_al (own_mono o9 (by omega)) _) _, ((hBx.trans (b9.mono (by omega))).alloc (by omega) _).alloc (by simp; omega) _, ⟨hgc, hgs2, by omega, by omega⟩⟩
          have S0 : ((w9.alloc (.cells #[.int .i64 pcF, .int .i64 a0, .int .i64 a1, .int .i64 a2, .int .i64 a3, .int .i64 a4, .int .i64 a5, .int .i64 a6, .int .i64 a7, .slice q9 k9 d9, .bool ov9] 41)).alloc (.cells #[.int .i64 xo, .int .i64 xa, .int .i64 xb, .int .i64 xn] 45)).heap[gs]? = some (.cells (cI (incK S 0)) 43 (0, 0)) := by rw [incK_zero]; exact (Below.heap_alloc _ _ _ (by simp; omega)).trans ((Below.heap_alloc _ _ _ (by omega)).trans ((b9.block gs hgz2).trans hrowS))
          generalize ((w9.alloc (.cells #[.int .i64 pcF, .int .i64 a0, .int .i64 a1, .int .i64 a2, .int .i64 a3, .int .i64 a4, .int .i64 a5, .int .i64 a6, .int .i64 a7, .slice q9 k9 d9, .bool ov9] 41)).alloc (.cells #[.int .i64 xo, .int .i64 xa, .int .i64 xb, .int .i64 xn] 45)) = wd at W0 S0 ⊢
          generalize w9.heap.size = rx at W0 ⊢
          generalize hri : rx + 1 = ri at W0 ⊢
          clear o9 c9 c9b gz9 hz9 nn0 nn1 nn2 nn3 nn4 nn5 nn6 nn7 nn8 nn9 nn10 g0 g1 g2 hstep HPOS hrx b9
          go_loopw [15] (fun t wx => ∃ j : Nat, j ≤ 4 ∧ t = .int .i64 j ∧ Wk gc gm gs rx ri w8 wx #[.int .i64 (T : Int), .int .i64 (G : Int), .slice q4 sn d4] #[.int .i64 (pp : Int), .int .i64 m0, .int .i64 m1, .int .i64 m2, .int .i64 m3, .int .i64 m4, .int .i64 m5, .int .i64 m6, .int .i64 m7, .slice qr k dr, .bool false] #[.int .i64 pcF, .int .i64 a0, .int .i64 a1, .int .i64 a2, .int .i64 a3, .int .i64 a4, .int .i64 a5, .int .i64 a6, .int .i64 a7, .slice q9 k9 d9, .bool ov9] #[.int .i64 xo, .int .i64 xa, .int .i64 xb, .int .i64 xn] q9 d9 RF ∧ wx.heap[gs]? = some (.cells (cI (incK S j)) 43 (0, 0))) (fun t _ => 4 - (intOf t).toNat)
          case atStart => exact ⟨0, by omega, rfl, W0, S0⟩
          case round =>
            obtain ⟨j, hj, rfl, hW, hSr⟩ := hrel
            clear W0 S0
            by_cases hlt : j < 4
            · have hjS : j < S.length := by omega
              obtain ⟨r0, r1, r2, r3⟩ := row4 hSr (k := j) (by rw [incK_len]; exact hjS)
              rw [incK_get hjS] at r0
              have hbd := HSB.out j hjS
              have HNXT : Hid (0 < S[j] → incK S (j + 1) = (incK S j).set j (S[j] + 1)) := fun h => by rw [incK_next hjS, inc_pos h]
              have HSTY : Hid (¬ 0 < S[j] → incK S (j + 1) = incK S j) := fun h => incK_stay hjS (inc_not h)
              have r4 := r3 (S[j] + 1)
              have r5 := hW.kp (Kp.set (w := wr) (a := ⟨gs, j, none⟩) rfl (.int .i64 (S[j] + 1)))
              generalize S[j] = v at *
              have dj : decide ((j : Int) < 4) = true := by simp; omega
              by_cases hv : 0 < v
              · have dv : decide ((0 : Int) < v) = true := by simpa using hv
                have HX := HNXT.out hv
                have HX2 : Hid (incK S (j + 1) = (incK S j).set j (v + 1)) := HX
                clear HX HNXT HSTY r3
                go_wp2
                go_roundw
                case rel => exact ⟨j + 1, by omega, by go_num, r5, by rw [HX2.out]; exact r4⟩
                case measure => simp [intOf]; omega
              · have dv : decide ((0 : Int) < v) = false := by simpa using hv
                have HX2 : Hid (incK S (j + 1) = incK S j) := HSTY.out hv
                clear HNXT HSTY r3 r4 r5
                go_wp2
                go_roundw
                case rel => exact ⟨j + 1, by omega, by go_num, hW, by rw [HX2.out]; exact hSr⟩
                case measure => simp [intOf]; omega
            · have dj : decide ((j : Int) < 4) = false := by simp; omega
              have ej : j = 4 := by omega
              rw [ej, incK_all hS4] at hSr
              clear ej hlt hj
              have irow := hW.i
              have i0 : wr.cell? ⟨ri, 0, none⟩ = some (.int .i64 xo) := by rw [cell_of_row _ _ _ _ _ _ irow]; rfl
              have i1 : wr.cell? ⟨ri, 1, none⟩ = some (.int .i64 xa) := by rw [cell_of_row _ _ _ _ _ _ irow]; rfl
              have iz := lt_of_block irow
              have xrow := hW.x
              have e0 : wr.cell? ⟨rx, 0, none⟩ = some (.int .i64 pcF) := by rw [cell_of_row _ _ _ _ _ _ xrow]; rfl
              have e1 : wr.cell? ⟨rx, 1, none⟩ = some (.int .i64 a0) := by rw [cell_of_row _ _ _ _ _ _ xrow]; rfl
              have e2 : wr.cell? ⟨rx, 2, none⟩ = some (.int .i64 a1) := by rw [cell_of_row _ _ _ _ _ _ xrow]; rfl
              have e3 : wr.cell? ⟨rx, 3, none⟩ = some (.int .i64 a2) := by rw [cell_of_row _ _ _ _ _ _ xrow]; rfl
              have e4 : wr.cell? ⟨rx, 4, none⟩ = some (.int .i64 a3) := by rw [cell_of_row _ _ _ _ _ _ xrow]; rfl
              have e5 : wr.cell? ⟨rx, 5, none⟩ = some (.int .i64 a4) := by rw [cell_of_row _ _ _ _ _ _ xrow]; rfl
              have e6 : wr.cell? ⟨rx, 6, none⟩ = some (.int .i64 a5) := by rw [cell_of_row _ _ _ _ _ _ xrow]; rfl
              have e7 : wr.cell? ⟨rx, 7, none⟩ = some (.int .i64 a6) := by rw [cell_of_row _ _ _ _ _ _ xrow]; rfl
              have e8 : wr.cell? ⟨rx, 8, none⟩ = some (.int .i64 a7) := by rw [cell_of_row _ _ _ _ _ _ xrow]; rfl
              have e9 : wr.cell? ⟨rx, 9, none⟩ = some (.slice q9 k9 d9) := by rw [cell_of_row _ _ _ _ _ _ xrow]; rfl
              have e10 : wr.cell? ⟨rx, 10, none⟩ = some (.bool ov9) := by rw [cell_of_row _ _ _ _ _ _ xrow]; rfl
              have xz := lt_of_block xrow
              have mrow := hW.m
              clear hgz2 hgz
              go_wp2_with (refine wpList_store_row rfl 41 (.tmp 8) (.tmp 126) rfl gm #[.int .i64 pcF, .int .i64 a0, .int .i64 a1, .int .i64 a2, .int .i64 a3, .int .i64 a4, .int .i64 a5, .int .i64 a6, .int .i64 a7, .slice q9 k9 d9, .bool ov9] rfl rfl 41 #[.int .i64 (pp : Int), .int .i64 m0, .int .i64 m1, .int .i64 m2, .int .i64 m3, .int .i64 m4, .int .i64 m5, .int .i64 m6, .int .i64 m7, .slice qr k dr, .bool false] mrow info38 rfl (ones11 _ _ _ _ _ _ _ _ _ _ _ _ _) ?_)
              simp only [Act.put]
              go_roundw
              case rel => exact ⟨_, _, _, _, _, _, _, _, _, _, _, _, _, _, al + 1, pz + 1, _, by go_num, by go_num, hd_go HL0.out HGd.out HP.out HW.out hgs2 hMid HGt.out hrel9 _ _ _ _ _ _ _ _ HK9 mrow hW.o (by rw [nextS_m HO.out.2.2.1 HO.out.2.2.2]; exact hSr) (by rw [if_neg (by have := HO.out; omega)]) hW.b⟩
              case measure => simp [intOf]; omega
end Go.Proofs.Yteikdocpncdheaa
