/-
  The law FormEnds: a machine's steps between.
-/
import Derived.Test.YteikdocpncdheaaSteps
import Derived.Test.YteikdocpncdheaaEndh
import Derived.Test.YteikdocpncdheaaNewm
namespace Go.Proofs.Yteikdocpncdheaa
open Go.ChangeShapes Go.WideShapes Go.ChangeAt Go.RowKit
attribute [local go_sem ↓] Go.wp_at_zero Go.wp_at_succ

theorem eight {m : List Int} (h : m.length = 8) : ∃ a b c d e f g i, m = [a, b, c, d, e, f, g, i] := by
  match m, h with
  | [a, b, c, d, e, f, g, i], _ => exact ⟨a, b, c, d, e, f, g, i, rfl⟩
theorem step_lit (p : Option Addr) (c : Nat) (l : List In) (w : World) (hr : Rd eIn w p c l) (n : Nat) (hN : l.length = n) (hn : n ≤ 24) (hal : l.all mayB = true) (pc : Nat) (hpc : pc < n) (m0 m1 m2 m3 m4 m5 m6 m7 : Int) (q : Option Addr) (d k : Nat) (R : List Rp) (hR : Rd eRp w q d R) (hk : R.length = k) (hk3 : k ≤ 1000) (hRb : ∀ r ∈ R, 0 ≤ r.2.2 ∧ r.2.2 ≤ 100) (xo xa xb xn : Int) (hg : gt l pc = (xo, xa, xb, xn)) :
    Calls Try.prog 16 #[.slice p n c, .agg #[.int .i64 (pc : Int), .int .i64 m0, .int .i64 m1, .int .i64 m2, .int .i64 m3, .int .i64 m4, .int .i64 m5, .int .i64 m6, .int .i64 m7, .slice q k d, .bool false]] w fun e w' => (∃ (pcF : Int) (a0 a1 a2 a3 a4 a5 a6 a7 : Int) (q9 : Option Addr) (d9 k9 : Nat) (RF : List Rp) (ov9 : Bool), e = .returned (.tuple #[.agg #[.int .i64 pcF, .int .i64 a0, .int .i64 a1, .int .i64 a2, .int .i64 a3, .int .i64 a4, .int .i64 a5, .int .i64 a6, .int .i64 a7, .slice q9 k9 d9, .bool ov9], .agg #[.int .i64 xo, .int .i64 xa, .int .i64 xb, .int .i64 xn], .bool true]) ∧ RF.length = k9 ∧ Own eRp w' (w.heap.size + 3) 70 q9 d9 RF ∧ StepRel pc R (xo, xa, xb, xn) pcF RF ov9) ∧ Below w.heap.size w w' := by
  refine (step_any p c l w hr n hN hn hal pc hpc [m0, m1, m2, m3, m4, m5, m6, m7] rfl q d k R hR hk hk3 hRb).mono ?_
  rw [hg]
  rintro e w' ⟨⟨pcF, mem, q9, d9, k9, RF, ov9, rfl, hm, h1, h2, h3⟩, hb⟩
  obtain ⟨a0, a1, a2, a3, a4, a5, a6, a7, rfl⟩ := eight hm
  exact ⟨⟨pcF, a0, a1, a2, a3, a4, a5, a6, a7, q9, d9, k9, RF, ov9, rfl, h1, h2, h3⟩, hb⟩
theorem ones11 (pc a b c d e f g h : Int) (q : Option Addr) (k dd : Nat) (ov : Bool) : (#[Value.int .i64 pc, .int .i64 a, .int .i64 b, .int .i64 c, .int .i64 d, .int .i64 e, .int .i64 f, .int .i64 g, .int .i64 h, .slice q k dd, .bool ov] : Array Value).all (·.oneCell') = true := mcell_one pc [a, b, c, d, e, f, g, h] q k dd ov
theorem mark_rf {pc : Nat} {R RF : List Rp} {xo xa xb xn pcF : Int} {ov : Bool} {k : Nat} (hR : R.reverse = []) (h : StepRel pc R (xo, xa, xb, xn) pcF RF ov) (hk : RF.length = k) (h0 : xo ≠ 0) (h8 : xo ≠ 8) : RF = [] ∧ k = 0 := by
  have : RF = [] := by
    rcases h with ⟨h, _⟩ | ⟨_, _, nx, _, h⟩
    · exact absurd h h0
    · rw [if_neg h8, hR] at h
      have := congrArg Prod.snd h
      simpa [normR] using this.symm
  subst this
  exact ⟨rfl, hk.symm⟩
theorem own_stays {α β : Type} {E : Elt α} {F : Elt β} {w w' : World} {base base2 : Nat} {e e2 : TypeId} {q p : Option Addr} {d c2 : Nat} {l : List α} {l2 : List β} (h : Own E w base e q d l) (hO : Own F w base2 e2 p c2 l2) (hne : e ≠ e2) (hs : Stays w w' p) : Own E w' base e q d l := by
  refine ⟨h.1, ?_⟩
  rcases h.2 with hn | ⟨g, cap, cur, h1, h2, h3, h4⟩
  · exact .inl hn
  · exact .inr ⟨g, cap, cur, h1, h2, (hs g (lt_of_block h3) (own_apart hO h3 hne)).trans h3, h4⟩
theorem lock9 {gm g9 : Nat} {wd w10 : World} {q9 qh : Option Addr} {d9 dh : Nat} {RF : List Rp} {H : List Int} {cs : Array Value} {Y : Obj} (oR : Own eRp wd (gm + 1) 70 q9 d9 RF) (oH : Own eI wd (gm + 1) 3 qh dh H) (hN : wd.heap[g9]? = some (.cells cs 41 (0, 0))) (hg : gm < wd.heap.size)
    (b10 : Below (gm + 1) (wd.alloc Y) w10) (st : Stays (wd.alloc Y) w10 qh) : Own eRp w10 (gm + 1) 70 q9 d9 RF ∧ w10.heap[g9]? = some (.cells cs 41 (0, 0)) ∧ Below (gm + 1) wd w10 := by
  have hN' : (wd.alloc Y).heap[g9]? = some (.cells cs 41 (0, 0)) := (Below.heap_alloc _ _ _ (lt_of_block hN)).trans hN
  refine ⟨own_stays (own_al oR Y) (own_al oH Y) (by decide) st, (st g9 (lt_of_block hN') (own_apart (own_al oH Y) hN' (by decide))).trans hN', ?_⟩
  exact Below.trans ((Below.refl _ _).alloc (by omega) _) b10
theorem rd_int1 {w : World} {vb : Nat} {A : Int} {t : TypeId} {fr : Nat × Nat} (h : w.heap[vb]? = some (.cells #[.int .i64 A] t fr)) : Rd eI w (some ⟨vb, 0, none⟩) 1 [A] := rd_block h 1 rfl rfl
/-- at a place of its way -/
def At (l : List In) (pc : Nat) (R : List Rp) (H : List Int) (nn : Nat) : Prop := pc < l.length ∧ Ch l pc pc R.reverse ∧ H = hA l pc ∧ (nn : Int) + phi l.length pc R.reverse ≤ 216
/-- the machine of the law, its Locks held, between two steps -/
def Mid (l : List In) (gm : Nat) (w8 wx : World) (pc : Int) (m0 m1 m2 m3 m4 m5 m6 m7 : Int) (q : Option Addr) (k d : Nat) (R : List Rp) (ov : Bool) (nn : Nat) (qh : Option Addr) (mh dh : Nat) (H : List Int) : Prop :=
  wx.heap[gm]? = some (.cells #[.int .i64 pc, .int .i64 m0, .int .i64 m1, .int .i64 m2, .int .i64 m3, .int .i64 m4, .int .i64 m5, .int .i64 m6, .int .i64 m7, .slice q k d, .bool ov] 41 (0, 0)) ∧ Own eRp wx (gm + 1) 70 q d R ∧ R.length = k ∧ k ≤ 2 ∧ Own eI wx (gm + 1) 3 qh dh H ∧ H.length = mh ∧ mh ≤ 2 ∧ nn ≤ 216 ∧ (ov = false → ∃ p : Nat, pc = (p : Int) ∧ At l p R H nn) ∧ Below gm w8 wx
theorem mid_go {l : List In} (hP : Prg l) (hW : l.all mayW = true) {gm : Nat} {w8 wr w9 wz : World} {pc : Nat} {m0 m1 m2 m3 m4 m5 m6 m7 : Int} {q : Option Addr} {k d : Nat} {R : List Rp} {nn : Nat} {qh : Option Addr} {mh dh : Nat} {H : List Int} (hM : Mid l gm w8 wr pc m0 m1 m2 m3 m4 m5 m6 m7 q k d R false nn qh mh dh H)
    {xo xa xb xn : Int} (hg : gt l pc = (xo, xa, xb, xn)) {pcF : Int} {RF : List Rp} {ov9 : Bool} (hrel : StepRel pc R (xo, xa, xb, xn) pcF RF ov9) (b9 : Below wr.heap.size wr w9) (a0 a1 a2 a3 a4 a5 a6 a7 : Int) {q9 : Option Addr} {d9 k9 : Nat} (HK9 : RF.length = k9)
    {qh' : Option Addr} {mh' dh' : Nat} {H' : List Int} (oR : Own eRp wz (gm + 1) 70 q9 d9 RF) (oH : Own eI wz (gm + 1) 3 qh' dh' H') (hH : H'.length = mh') (hm2 : mh' ≤ 2) (hHn : xo ≠ 0 → H' = hA l (pc + 1)) (bz : Below (gm + 1) w9 wz) :
    Mid l gm w8 (wz.setRow gm #[.int .i64 pcF, .int .i64 a0, .int .i64 a1, .int .i64 a2, .int .i64 a3, .int .i64 a4, .int .i64 a5, .int .i64 a6, .int .i64 a7, .slice q9 k9 d9, .bool ov9]) pcF a0 a1 a2 a3 a4 a5 a6 a7 q9 k9 d9 RF ov9 (nn + 1) qh' mh' dh' H' := by
  obtain ⟨h1, h2, h3, h4, h5, h6, h7, h8, h9, h10⟩ := hM
  obtain ⟨p, hp, hpl, hC, hHe, hphi⟩ := h9 rfl
  obtain rfl : pc = p := by omega
  have hgz := lt_of_block h1
  have hrow : wz.heap[gm]? = _ := (bz.block gm (by omega)).trans ((b9.block gm hgz).trans h1)
  have hB : Below gm w8 (wz.setRow gm #[.int .i64 pcF, .int .i64 a0, .int .i64 a1, .int .i64 a2, .int .i64 a3, .int .i64 a4, .int .i64 a5, .int .i64 a6, .int .i64 a7, .slice q9 k9 d9, .bool ov9]) := below_setRow (h10.trans ((b9.mono (by omega)).trans (bz.mono (by omega)))) (Nat.le_refl _) _
  have hl2 := body_two hP hpl hC
  have hpos := phi_pos hpl hP hC hl2
  by_cases h0 : xo = 0
  · have h0' : (gt l pc).1 = 0 := by rw [hg]; exact h0
    rw [← hg] at hrel
    have hov := mlast h0' hrel
    have hlen : k9 ≤ 2 := by
      rcases hrel with ⟨_, _, h⟩ | ⟨h, _⟩
      · have := normR_len (pc : Int) R.reverse
        rw [h] at this
        simp at this hl2
        omega
      · exact absurd h0' h
    exact ⟨setRow_heap _ _ _ _ _ _ hrow, own_row oR (by omega) _, HK9, hlen, own_row oH (by omega) _, hH, hm2, by omega, (fun h => by rw [hov] at h; cases h), hB⟩
  · have h0' : (gt l pc).1 ≠ 0 := by rw [hg]; exact h0
    rw [← hg] at hrel
    obtain ⟨rfl, pc', rfl, k2, k3, k4, k5⟩ := mstep hP hW hpl h0' hC hrel
    have hl3 := body_two hP k2 k3
    simp at hl3
    exact ⟨setRow_heap _ _ _ _ _ _ hrow, own_row oR (by omega) _, HK9, by omega, own_row oH (by omega) _, hH, hm2, by omega, fun _ => ⟨pc', rfl, k2, k3, by rw [hHn h0]; unfold hA; rw [k4], by omega⟩, hB⟩
end Go.Proofs.Yteikdocpncdheaa
