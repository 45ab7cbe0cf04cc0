/-
  A run of a program that passes over nothing, by the document: as many ticks as its cost says.
-/
import Derived.Test.YteikdocpncdheaaCostr
import Derived.Test.YteikdocpncdheaaMid
import Derived.Test.YteikdocpncdheaaCrefy
import Derived.WalkSpells
namespace Go.Proofs.Yteikdocpncdheaa
open Go.ChangeShapes Go.WideShapes Go.ChangeAt Go.RowKit
attribute [local go_sem ↓] Go.wp_at_zero Go.wp_at_succ

theorem end_ph {l : List In} (hP : Prg l) {pc : Nat} (hpc : pc < l.length) (h0 : (gt l pc).1 = 0) {R : List Rp} (hC : Ch l pc pc R) (hF : Fl l pc R) : R = [] ∧ ph l l.length pc R = 1 := by
  have hn := (hP.ins pc hpc).2.1 h0
  cases R with
  | nil =>
    refine ⟨rfl, ?_⟩
    show Sm l 0 pc l.length = 1
    rw [← hn, Sm_one]
    exact topL_wt hF
  | cons r R =>
    obtain ⟨f, _, k2, _, _, _, _, k7, _⟩ := hC
    have := hP.nest.1 f (is_ar (.inl k2))
    have := inA_iff.1 k7
    omega
abbrev mrow (pc m0 m1 m2 m3 m4 m5 m6 m7 : Int) (q : Option Addr) (k d : Nat) (ov : Bool) : Array Value := #[.int .i64 pc, .int .i64 m0, .int .i64 m1, .int .i64 m2, .int .i64 m3, .int .i64 m4, .int .i64 m5, .int .i64 m6, .int .i64 m7, .slice q k d, .bool ov]
/-- the machine of a run, between two steps -/
def Rn (l : List In) (T gm : Nat) (w8 wx : World) (pc m0 m1 m2 m3 m4 m5 m6 m7 : Int) (q : Option Addr) (k d : Nat) (R : List Rp) (ov : Bool) (nn : Nat) : Prop :=
  wx.heap[gm]? = some (.cells #[.int .i64 pc, .int .i64 m0, .int .i64 m1, .int .i64 m2, .int .i64 m3, .int .i64 m4, .int .i64 m5, .int .i64 m6, .int .i64 m7, .slice q k d, .bool ov] 41 (0, 0)) ∧ Own eRp wx (gm + 1) 70 q d R ∧ R.length = k ∧ k ≤ 2 ∧ nn ≤ T ∧ (ov = false → ∃ p : Nat, pc = (p : Int) ∧ p < l.length ∧ Ch l p p R.reverse ∧ Fl l p R.reverse ∧ nn + ph l l.length p R.reverse = T) ∧ (ov = true → nn = T) ∧ Below gm w8 wx
theorem rn_go {l : List In} (hP : Prg l) (hW : l.all mayW = true) (hS : ∀ i, (gt l i).1 ≠ 7) {T gm : Nat} {w8 wr w9 : World} {pc : Nat} {m0 m1 m2 m3 m4 m5 m6 m7 : Int} {q : Option Addr} {k d : Nat} {R : List Rp} {nn : Nat} (hM : Rn l T gm w8 wr pc m0 m1 m2 m3 m4 m5 m6 m7 q k d R false nn)
    {xo xa xb xn : Int} (hg : gt l pc = (xo, xa, xb, xn)) {pcF : Int} {RF : List Rp} {ov9 : Bool} (hrel : StepRel pc R (xo, xa, xb, xn) pcF RF ov9) (b9 : Below wr.heap.size wr w9) (a0 a1 a2 a3 a4 a5 a6 a7 : Int) {q9 : Option Addr} {d9 k9 : Nat} (HK9 : RF.length = k9) (oR : Own eRp w9 (wr.heap.size + 3) 70 q9 d9 RF) :
    Rn l T gm w8 (w9.setRow gm #[.int .i64 pcF, .int .i64 a0, .int .i64 a1, .int .i64 a2, .int .i64 a3, .int .i64 a4, .int .i64 a5, .int .i64 a6, .int .i64 a7, .slice q9 k9 d9, .bool ov9]) pcF a0 a1 a2 a3 a4 a5 a6 a7 q9 k9 d9 RF ov9 (nn + 1) := by
  obtain ⟨h1, h2, h3, h4, h5, h6, h7, h8⟩ := hM
  obtain ⟨p, hp, hpl, hC, hF, hph⟩ := h6 rfl
  obtain rfl : pc = p := by omega
  have hgz := lt_of_block h1
  have hrow : w9.heap[gm]? = _ := (b9.block gm hgz).trans h1
  have hB : Below gm w8 (w9.setRow gm #[.int .i64 pcF, .int .i64 a0, .int .i64 a1, .int .i64 a2, .int .i64 a3, .int .i64 a4, .int .i64 a5, .int .i64 a6, .int .i64 a7, .slice q9 k9 d9, .bool ov9]) := below_setRow (h8.trans (b9.mono (by omega))) (Nat.le_refl _) _
  have oR' := own_mono oR (show gm + 1 ≤ wr.heap.size + 3 by omega)
  by_cases h0 : xo = 0
  · have h0' : (gt l pc).1 = 0 := by rw [hg]; exact h0
    rw [← hg] at hrel
    have hov := mlast h0' hrel
    obtain ⟨r1, r2⟩ := end_ph hP hpl h0' hC hF
    have hlen : k9 ≤ 2 := by
      rcases hrel with ⟨_, _, h⟩ | ⟨h, _⟩
      · have := normR_len (pc : Int) R.reverse
        rw [h, r1] at this
        simp at this
        rw [← HK9, this]
        simp
      · exact absurd h0' h
    exact ⟨setRow_heap _ _ _ _ _ _ hrow, own_row oR' (by omega) _, HK9, hlen, by omega, (fun h => by rw [hov] at h; cases h), fun _ => by omega, hB⟩
  · have h0' : (gt l pc).1 ≠ 0 := by rw [hg]; exact h0
    rw [← hg] at hrel
    obtain ⟨rfl, pc', rfl, k2, k3, k4, _⟩ := mstep hP hW hpl h0' hC hrel
    obtain ⟨pc2, e1, f1, _, f3⟩ := cstep hP hW hpl h0' hC hF hrel
    obtain rfl : pc' = pc2 := by omega
    have hl3 := body_two hP k2 k3
    simp at hl3
    have := f3 (hS pc)
    exact ⟨setRow_heap _ _ _ _ _ _ hrow, own_row oR' (by omega) _, HK9, by omega, by omega, fun _ => ⟨pc', rfl, k2, k3, f1, by omega⟩, (fun h => by cases h), hB⟩

theorem res17r {tmps : Array Value} {w : World} {a b d : Value} (h4 : tmps.getD 4 undef = a) (h5 : tmps.getD 5 undef = b) (h6 : tmps.getD 6 undef = d) : (results Try.f17 tmps).run Try.prog w = .ok (.tuple #[a, b, d]) w := by
  have k4 : tmps[4]?.getD undef = a := by simpa using h4
  have k5 : tmps[5]?.getD undef = b := by simpa using h5
  have k6 : tmps[6]?.getD undef = d := by simpa using h6
  simp [results, Try.results17, k4, k5, k6]
theorem info41m : (Try.prog.info? 41).map (·.size) = some 11 := by kernel_rfl
set_option maxRecDepth 100000 in
set_option maxHeartbeats 8000000 in
theorem run_any (p : Option Addr) (c : Nat) (l : List In) (w : World) (hr : Rd eIn w p c l) (n : Nat) (hN : l.length = n) (hk : okB l = true) (hW : l.all mayW = true) (hS : ∀ i, (gt l i).1 ≠ 7) (x : Int) :
    Calls Try.prog 17 #[.slice p n c, .int .i64 x] w fun e w' => (∃ v, e = .returned (.tuple #[.int .i64 v, .int .i64 ((tk l : Nat) : Int), .bool true])) ∧ Below w.heap.size w w' := by
  have hP := prg_of hk
  have hle := hP.le
  rw [hN] at hle
  have hT96 := (tk_of hP).tk_le
  have h1 := fun w' (hb : Below w.heap.size w w') => refCost_yes p c l w' (hr.below hb) n hN hk
  have HN : Hid (l.length = n) := hN
  have HP : Hid (Prg l) := hP
  have HT : Hid (tk l = Sm l 0 0 n) := by show _ = _; unfold tk; rw [hN]
  have hallB := hP.all
  generalize tk l = T at *
  generalize hGe : lgs l n = G at *
  clear hN hP hk hGe
  go_enter Try.func17, Try.ntmps17
  go_wp2_with (first
    | (go_at_call 14; refine (h1 _ (Below.refl _ _)).mono ?_; rintro e w1 ⟨⟨q1, d1, m1, rfl, e1, _⟩, b1⟩; have E1 : Hid (m1 = (spL l n).length) := e1; clear e1 h1)
    | (go_at_call 15; refine (newm_any _ _).mono ?_; rintro e w8 ⟨rfl, b8⟩))
  have gc8 : w8.heap[w1.heap.size]? = some (.cells #[.int .i64 (T : Int), .int .i64 (G : Int), .slice q1 m1 d1] 32 (0, 0)) := (b8.block w1.heap.size (by simp)).trans (heap_alloc_new w1 _)
  have B8 : Below w.heap.size w w8 := bel_call (bel_call b1 (Nat.le_refl _) ((Below.refl _ _).alloc (Nat.le_refl _) _)) (Nat.le_refl _) b8
  have M0 : Rn l T w8.heap.size w8 (w8.alloc (.cells #[.int .i64 0, .int .i64 x, .int .i64 0, .int .i64 0, .int .i64 0, .int .i64 0, .int .i64 0, .int .i64 0, .int .i64 0, .slice none 0 0, .bool false] 41)) 0 x 0 0 0 0 0 0 0 none 0 0 [] false 0 :=
    ⟨heap_at rfl, own_nil _ _ _, rfl, by omega, by omega, fun _ => ⟨0, rfl, by rw [HN.out]; omega, trivial, topL_self l 0, by show 0 + Sm l 0 0 l.length = T; rw [HN.out, HT.out]; omega⟩, (fun h => by cases h), (Below.refl _ _).alloc (Nat.le_refl _) _⟩
  have hrl := hr.below B8
  have hgc := lt_of_block gc8
  clear b1 b8 hr
  generalize hgm : w8.heap.size = gm at M0 hgc ⊢
  generalize w1.heap.size = gc at *
  generalize w8.alloc (.cells #[.int .i64 0, .int .i64 x, .int .i64 0, .int .i64 0, .int .i64 0, .int .i64 0, .int .i64 0, .int .i64 0, .int .i64 0, .slice none 0 0, .bool false] 41) = wa at M0 ⊢
  go_loopw [10] (fun t wx => ∃ (pc : Int) (m0 m1 m2 m3 m4 m5 m6 m7 : Int) (qr : Option Addr) (k dr : Nat) (R : List Rp) (ov : Bool) (nn : Nat), t = .int .i64 nn ∧ Rn l T gm w8 wx pc m0 m1 m2 m3 m4 m5 m6 m7 qr k dr R ov nn) (fun t _ => 10000 - (intOf t).toNat)
  case atStart => exact ⟨_, _, _, _, _, _, _, _, _, _, _, _, _, _, 0, rfl, M0⟩
  case round =>
    obtain ⟨pc, m0, m1', m2, m3, m4, m5, m6, m7, qr, k, dr, R, ov, nn, rfl, hMid⟩ := hrel
    clear M0
    have hMid' := hMid
    obtain ⟨hrow, oR, HKR, hk2, hnT, hAt, hOv, hBx⟩ := hMid'
    have hgz := lt_of_block hrow
    have grow : wr.heap[gc]? = _ := (hBx.block gc hgc).trans gc8
    obtain ⟨⟨k0, k1, k2⟩, _⟩ := cellT grow
    have gz := lt_of_block grow
    have n0 : wr.cell? ⟨gm, 0, none⟩ = some (.int .i64 pc) := by rw [cell_of_row _ _ _ _ _ _ hrow]; rfl
    have n1 : wr.cell? ⟨gm, 1, none⟩ = some (.int .i64 m0) := by rw [cell_of_row _ _ _ _ _ _ hrow]; rfl
    have n2 : wr.cell? ⟨gm, 2, none⟩ = some (.int .i64 m1') := by rw [cell_of_row _ _ _ _ _ _ hrow]; rfl
    have n3 : wr.cell? ⟨gm, 3, none⟩ = some (.int .i64 m2) := by rw [cell_of_row _ _ _ _ _ _ hrow]; rfl
    have n4 : wr.cell? ⟨gm, 4, none⟩ = some (.int .i64 m3) := by rw [cell_of_row _ _ _ _ _ _ hrow]; rfl
    have n5 : wr.cell? ⟨gm, 5, none⟩ = some (.int .i64 m4) := by rw [cell_of_row _ _ _ _ _ _ hrow]; rfl
    have n6 : wr.cell? ⟨gm, 6, none⟩ = some (.int .i64 m5) := by rw [cell_of_row _ _ _ _ _ _ hrow]; rfl
    have n7 : wr.cell? ⟨gm, 7, none⟩ = some (.int .i64 m6) := by rw [cell_of_row _ _ _ _ _ _ hrow]; rfl
    have n8 : wr.cell? ⟨gm, 8, none⟩ = some (.int .i64 m7) := by rw [cell_of_row _ _ _ _ _ _ hrow]; rfl
    have n9 : wr.cell? ⟨gm, 9, none⟩ = some (.slice qr k dr) := by rw [cell_of_row _ _ _ _ _ _ hrow]; rfl
    have n10 : wr.cell? ⟨gm, 10, none⟩ = some (.bool ov) := by rw [cell_of_row _ _ _ _ _ _ hrow]; rfl
    cases ov with
    | true =>
      have HE : Hid (nn = T) := hOv rfl
      clear hOv hAt hMid
      go_wp2
      refine bodyPost_ret (v := .tuple #[.int .i64 m0, .int .i64 (nn : Int), .bool true]) (res17r rfl rfl rfl) rfl ?_
      exact ⟨⟨m0, by rw [HE.out]⟩, B8.trans (hBx.mono (by have := B8.size; omega))⟩
    | false =>
      obtain ⟨pp, rfl, hpc, hC, hF, hph⟩ := hAt rfl
      obtain ⟨⟨xo, xa, xb, xn⟩, hg⟩ : ∃ x, gt l pp = x := ⟨_, rfl⟩
      have HG : Hid (gt l pp = (xo, xa, xb, xn)) := hg
      have hpm : pp < n := by rw [← HN.out]; exact hpc
      have hrx : Rd eIn wr p c l := hrl.below (by rw [hgm]; exact hBx)
      have hstep := step_lit p c l wr hrx n HN.out (by omega) hallB pp hpm m0 m1' m2 m3 m4 m5 m6 m7 qr dr k R (own_rd oR) HKR (by omega) (fun r hr => ch_bd hC r (List.mem_reverse.2 hr)) xo xa xb xn hg
      have dn : decide ((nn : Int) ≤ (T : Int)) = true := by simp; omega
      clear hg hph hAt hC hpc hOv hF
      go_wp2_with (first
        | (go_at_call 16; go_must (refine hstep.mono ?_; rintro e w9 ⟨⟨pcF, a0, a1, a2, a3, a4, a5, a6, a7, q9, d9, k9, RF, ov9, rfl, HK9, o9, hrel9⟩, b9⟩; have hz9 := b9.size; have hrow9 := (b9.block gm hgz).trans hrow; have hgz9 : gm < w9.heap.size := (by omega)))
        | (refine wpList_store_row rfl 41 (.tmp 9) (.tmp 33) rfl gm #[.int .i64 pcF, .int .i64 a0, .int .i64 a1, .int .i64 a2, .int .i64 a3, .int .i64 a4, .int .i64 a5, .int .i64 a6, .int .i64 a7, .slice q9 k9 d9, .bool ov9] rfl rfl 41 #[.int .i64 (pp : Int), .int .i64 m0, .int .i64 m1', .int .i64 m2, .int .i64 m3, .int .i64 m4, .int .i64 m5, .int .i64 m6, .int .i64 m7, .slice qr k dr, .bool false] hrow9 info41m rfl (ones11 _ _ _ _ _ _ _ _ _ _ _ _ _) ?_))
      go_roundw
      case rel => exact ⟨_, _, _, _, _, _, _, _, _, _, _, _, _, _, nn + 1, by go_num, rn_go HP.out hW hS hMid HG.out hrel9 b9 _ _ _ _ _ _ _ _ HK9 o9⟩
      case measure => simp [intOf]; omega
end Go.Proofs.Yteikdocpncdheaa
