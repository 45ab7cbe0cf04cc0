/-
  The law CostHolds: a machine's steps between.
-/
import Derived.Test.YteikdocpncdheaaHoldm
import Derived.Test.YteikdocpncdheaaMid
namespace Go.Proofs.Yteikdocpncdheaa
open Go.ChangeShapes Go.WideShapes Go.ChangeAt Go.RowKit
attribute [local go_sem ↓] Go.wp_at_zero Go.wp_at_succ

theorem end_phH {l : List In} (hP : Prg l) {pc : Nat} (hpc : pc < l.length) (h0 : (gt l pc).1 = 0) {R : List Rp} (hC : Ch l pc pc R) (hF : Fl l pc R) : R = [] ∧ ph l l.length pc R = 1 := by
  have hn := (hP.ins pc hpc).2.1 h0
  cases R with
  | nil =>
    refine ⟨rfl, ?_⟩
    show Sm l 0 pc l.length = 1
    rw [← hn, Sm_one]
    exact topL_wt hF
  | cons r R =>
    obtain ⟨f, _, k2, _, _, _, _, k7, _⟩ := hC
    have := hP.nest.1 f (is_ar (.inl k2))
    have := inA_iff.1 k7
    omega
theorem ph_pos {l : List In} (hP : Prg l) (hW : l.all mayW = true) {pc : Nat} (hpc : pc < l.length) {R RF : List Rp} {pcF : Int} {ov : Bool} (hC : Ch l pc pc R.reverse) (hF : Fl l pc R.reverse) (h : StepRel pc R (gt l pc) pcF RF ov) : 1 ≤ ph l l.length pc R.reverse := by
  by_cases h0 : (gt l pc).1 = 0
  · rw [(end_phH hP hpc h0 hC hF).2]; exact Nat.le_refl _
  · obtain ⟨_, _, _, h, _⟩ := cstep hP hW hpc h0 hC hF h
    omega
theorem frs_step {l : List In} (hP : Prg l) {pc : Nat} (hpc : pc < l.length) (h0 : (gt l pc).1 ≠ 0) (hm : isM l pc = false) {R RF : List Rp} {pcF : Int} {ov : Bool} (hC : Ch l pc pc R.reverse) (h : StepRel pc R (gt l pc) pcF RF ov) {pc' : Nat} (he : pcF = (pc' : Int)) : frs l pc' = frs l pc := by
  have h1 := (frs_no hm).1
  have hmay := may_iff.1 (hP.ins pc hpc).1
  unfold mayP at hmay
  rcases h with ⟨h, _⟩ | ⟨_, _, nx, hnx, h⟩
  · exact absurd h h0
  by_cases h8 : (gt l pc).1 = 8
  · rw [if_pos h8] at h
    obtain rfl : nx = (pc : Int) + 1 := by rcases hnx with rfl | ⟨h7, _⟩ <;> omega
    have hp1 := rch_pos hP (is_ar (.inl h8))
    have hr : (rch (gt l pc) : Int) = (gt l pc).2.2.1 := by unfold rch; rw [reach_8 h8]; omega
    unfold normR at h
    rw [if_neg (by simp only; omega)] at h
    simp only [Prod.mk.injEq] at h
    obtain rfl : pc' = pc + 1 := by omega
    exact h1
  · rw [if_neg h8] at h
    have key : ∃ nn : Nat, nx = (nn : Int) ∧ (nn = pc + 1 ∨ (gt l pc).1 = 7 ∧ nn = pc + rch (gt l pc) + 1) := by
      rcases hnx with rfl | ⟨h7, rfl⟩
      · exact ⟨pc + 1, by omega, .inl rfl⟩
      · have hr := reach_7 h7
        refine ⟨pc + rch (gt l pc) + 1, ?_, .inr ⟨h7, rfl⟩⟩
        unfold rch
        omega
    obtain ⟨nn, rfl, hnn⟩ := key
    have hw := ch_next hP hpc (nx := nn) (by rcases hnn with h | ⟨_, h⟩ <;> omega) (Nat.le_refl _) hC
    rw [norm_frs hP hw pc' (by rw [h]; exact he)]
    rcases hnn with rfl | ⟨h7, rfl⟩
    · exact h1
    · rw [frs_area hP (is_ar (.inr h7))]
      exact h1
/-- the machine of the law between two steps -/
def Hd (l : List In) (T gm gs : Nat) (w8 wx : World) (pc m0 m1 m2 m3 m4 m5 m6 m7 : Int) (q : Option Addr) (k d : Nat) (R : List Rp) (ov : Bool) (all pz : Nat) (S : List Int) : Prop :=
  wx.heap[gm]? = some (.cells #[.int .i64 pc, .int .i64 m0, .int .i64 m1, .int .i64 m2, .int .i64 m3, .int .i64 m4, .int .i64 m5, .int .i64 m6, .int .i64 m7, .slice q k d, .bool ov] 41 (0, 0)) ∧ Own eRp wx (gs + 1) 70 q d R ∧ R.length = k ∧ k ≤ 2 ∧ wx.heap[gs]? = some (.cells (cI S) 43 (0, 0)) ∧ S.length = 4 ∧ all ≤ T ∧ pz ≤ 9600 ∧ (ov = false → ∃ p : Nat, pc = (p : Int) ∧ p < l.length ∧ Ch l p p R.reverse ∧ Fl l p R.reverse ∧ all + ph l l.length p R.reverse ≤ T ∧ pz + ph l l.length p R.reverse ≤ Sm l 0 (frs l p) l.length ∧ S = svL l p) ∧ Below gm w8 wx
theorem nextS_len {S : List Int} (h : S.length = 4) (xo xa : Int) : (nextS S xo xa).length = 4 := by
  unfold nextS
  split
  · simpa using h
  · split <;> simpa using h
theorem hd_go {l l0 : List In} (hl : l = l0 ++ [E0]) (hG : Gd l0) (hP : Prg l) (hW : l.all mayW = true) {T gm gs : Nat} (hgs : gm < gs) {w8 wr wz : World} {pc : Nat} {m0 m1 m2 m3 m4 m5 m6 m7 : Int} {q : Option Addr} {k d : Nat} {R : List Rp} {all pz : Nat} {S : List Int} (hM : Hd l T gm gs w8 wr pc m0 m1 m2 m3 m4 m5 m6 m7 q k d R false all pz S)
    {xo xa xb xn : Int} (hg : gt l pc = (xo, xa, xb, xn)) {pcF : Int} {RF : List Rp} {ov9 : Bool} (hrel : StepRel pc R (xo, xa, xb, xn) pcF RF ov9) (a0 a1 a2 a3 a4 a5 a6 a7 : Int) {q9 : Option Addr} {d9 k9 : Nat} (HK9 : RF.length = k9) {old : Array Value} (hrow : wz.heap[gm]? = some (.cells old 41 (0, 0))) (oR : Own eRp wz (gs + 1) 70 q9 d9 RF) (hS : wz.heap[gs]? = some (.cells (cI (nextS S xo xa)) 43 (0, 0))) {pz' : Nat} (hpz : pz' = if xo = 11 ∨ xo = 0 then 0 else pz + 1) (bz : Below gm w8 wz) :
    Hd l T gm gs w8 (wz.setRow gm #[.int .i64 pcF, .int .i64 a0, .int .i64 a1, .int .i64 a2, .int .i64 a3, .int .i64 a4, .int .i64 a5, .int .i64 a6, .int .i64 a7, .slice q9 k9 d9, .bool ov9]) pcF a0 a1 a2 a3 a4 a5 a6 a7 q9 k9 d9 RF ov9 (all + 1) pz' (nextS S xo xa) := by
  obtain ⟨h1, h2, h3, h4, h5, h6, h7, h8, h9, h10⟩ := hM
  obtain ⟨p, hp, hpl, hC, hF, hph, hpc, hSe⟩ := h9 rfl
  obtain rfl : pc = p := by omega
  have hlen4 := nextS_len h6 xo xa
  have hrow' := setRow_heap _ _ _ #[.int .i64 pcF, .int .i64 a0, .int .i64 a1, .int .i64 a2, .int .i64 a3, .int .i64 a4, .int .i64 a5, .int .i64 a6, .int .i64 a7, .slice q9 k9 d9, .bool ov9] _ _ hrow
  have hS' : (wz.setRow gm #[.int .i64 pcF, .int .i64 a0, .int .i64 a1, .int .i64 a2, .int .i64 a3, .int .i64 a4, .int .i64 a5, .int .i64 a6, .int .i64 a7, .slice q9 k9 d9, .bool ov9]).heap[gs]? = _ := (setRow_other _ _ _ _ (by omega)).trans hS
  have hB := below_setRow bz (Nat.le_refl _) #[.int .i64 pcF, .int .i64 a0, .int .i64 a1, .int .i64 a2, .int .i64 a3, .int .i64 a4, .int .i64 a5, .int .i64 a6, .int .i64 a7, .slice q9 k9 d9, .bool ov9]
  have hpos := ph_pos hP hW hpl hC hF (by rw [hg]; exact hrel)
  have hle1 := piece_le hP hpl hC hpc
  have hlb := lgs_bd hP (Nat.le_refl l.length)
  have hpz6 : pz' ≤ 9600 := by rw [hpz]; split <;> omega
  by_cases h0 : xo = 0
  · have h0' : (gt l pc).1 = 0 := by rw [hg]; exact h0
    rw [← hg] at hrel
    have hov := mlast h0' hrel
    obtain ⟨r1, r2⟩ := end_phH hP hpl h0' hC hF
    have hlen : k9 ≤ 2 := by
      rcases hrel with ⟨_, _, h⟩ | ⟨h, _⟩
      · have := normR_len (pc : Int) R.reverse
        rw [h, r1] at this
        simp at this
        rw [← HK9, this]
        simp
      · exact absurd h0' h
    exact ⟨hrow', own_row oR (by omega) _, HK9, hlen, hS', hlen4, by omega, hpz6, (fun h => by rw [hov] at h; cases h), hB⟩
  · have h0' : (gt l pc).1 ≠ 0 := by rw [hg]; exact h0
    rw [← hg] at hrel
    obtain ⟨rfl, pc', rfl, k2, k3, k4, _⟩ := mstep hP hW hpl h0' hC hrel
    obtain ⟨pc2, e1, f1, f2, _⟩ := cstep hP hW hpl h0' hC hF hrel
    obtain rfl : pc' = pc2 := by omega
    have hl3 := body_two hP k2 k3
    simp at hl3
    have hsv : nextS S xo xa = svL l pc' := by
      subst hl
      have := sv_step hG hP hpl h0' hC hrel rfl k4
      rw [hg, ← hSe] at this
      exact this
    have hpiece : pz' + ph l l.length pc' RF.reverse ≤ Sm l 0 (frs l pc') l.length := by
      by_cases h11 : xo = 11
      · have h11' : (gt l pc).1 = 11 := by rw [hg]; exact h11
        have hR : R.reverse = [] := ch_none (hP.mark pc hpl h11').1 hP.le.2 hC
        have hm : isM l pc = true := by unfold isM; rw [h11']; rfl
        rcases hrel with ⟨h, _⟩ | ⟨_, _, nx, hnx, h⟩
        · exact absurd h h0'
        · rw [if_neg (by omega), hR] at h
          have e1 : nx = (pc' : Int) := congrArg Prod.fst h
          have e2 : [] = RF.reverse := congrArg Prod.snd h
          obtain rfl : pc' = pc + 1 := by rcases hnx with h | ⟨h, _⟩ <;> omega
          rw [← e2, hpz, if_pos (.inl h11), (frs_yes hm).1]
          show 0 + Sm l 0 (pc + 1) l.length ≤ _
          omega
      · have hm : isM l pc = false := by
          unfold isM
          rw [hg]
          simp [h11, h0]
        rw [frs_step hP hpl h0' hm hC hrel rfl, hpz, if_neg (by omega)]
        omega
    exact ⟨hrow', own_row oR (by omega) _, HK9, by omega, hS', hlen4, by omega, hpz6, fun _ => ⟨pc', rfl, k2, k3, f1, by omega, hpiece, hsv⟩, hB⟩
/-! ### the row of four, stepped -/
def incK (S : List Int) (k : Nat) : List Int := (S.take k).map inc1 ++ S.drop k
theorem incK_len (S : List Int) (k : Nat) : (incK S k).length = S.length := by simp [incK]; omega
theorem incK_zero (S : List Int) : incK S 0 = S := by simp [incK]
theorem incK_all {S : List Int} {k : Nat} (h : S.length = k) : incK S k = S.map inc1 := by subst h; simp [incK]
theorem incK_get {S : List Int} {k : Nat} (h : k < S.length) : (incK S k)[k]'(by rw [incK_len]; exact h) = S[k] := by
  simp only [incK]
  rw [List.getElem_append_right (by simp; omega)]
  simp only [List.getElem_drop]
  congr 1
  simp
  omega
theorem incK_next {S : List Int} {k : Nat} (h : k < S.length) : incK S (k + 1) = (incK S k).set k (inc1 S[k]) := by
  unfold incK
  have hl : ((S.take k).map inc1).length = k := by simp; omega
  rw [List.take_succ_eq_append_getElem h, List.map_append, List.append_assoc, List.set_append_right _ _ (by omega), hl, Nat.sub_self, List.drop_eq_getElem_cons h]
  rfl
theorem incK_stay {S : List Int} {k : Nat} (h : k < S.length) (hz : inc1 S[k] = S[k]) : incK S (k + 1) = incK S k := by
  rw [incK_next h, hz, ← incK_get h, List.set_getElem_self]
/-- a cell of the row -/
theorem row4 {w : World} {gs : Nat} {S : List Int} (h : w.heap[gs]? = some (.cells (cI S) 43 (0, 0))) {k : Nat} (hk : k < S.length) : w.cell? ⟨gs, k, none⟩ = some (.int .i64 S[k]) ∧ w.frozen? ⟨gs, k, none⟩ = false ∧ gs < w.heap.size ∧ ∀ v, (w.setCell ⟨gs, k, none⟩ (.int .i64 v)).heap[gs]? = some (.cells (cI (S.set k v)) 43 (0, 0)) := by
  refine ⟨by rw [cell_of_row _ _ _ _ _ _ h]; exact cI_get hk, frozen_of_row _ _ _ _ _ h, lt_of_block h, fun v => ?_⟩
  rw [setCell_eq_setRow _ gs k _ _ _ _ h, cI_set]
  exact setRow_heap _ _ _ _ _ _ h
end Go.Proofs.Yteikdocpncdheaa
