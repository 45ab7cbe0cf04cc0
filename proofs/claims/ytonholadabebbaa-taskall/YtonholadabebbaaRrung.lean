/-
  Run, by the document.
-/
import Derived.Test.YtonholadabebbaaPrun
import Derived.Test.YtonholadabebbaaCosty
namespace Go.Proofs.Ytonholadabebbaa
open Go.ChangeShapes Go.WideShapes Go.ChangeAt Go.RowKit
attribute [local go_sem ↓] Go.wp_at_zero Go.wp_at_succ

theorem res14r {tmps : Array Value} {w : World} {a b d : Value} (h4 : tmps.getD 4 undef = a) (h5 : tmps.getD 5 undef = b) (h6 : tmps.getD 6 undef = d) : (results Try.f15 tmps).run Try.prog w = .ok (.tuple #[a, b, d]) w := by
  have k4 : tmps[4]?.getD undef = a := by simpa using h4
  have k5 : tmps[5]?.getD undef = b := by simpa using h5
  have k6 : tmps[6]?.getD undef = d := by simpa using h6
  simp [results, Try.results15, k4, k5, k6]
/-- the machine of a run, between two steps -/
def Ew (l : List In) (x : Int) (T g : Nat) (w wr : World) (pc m0 m1 m2 m3 m4 m5 m6 m7 : Int) (q : Option Addr) (k d : Nat) (R : List Rp) (ov : Bool) (n : Nat) : Prop :=
  wr.heap[g]? = some (.cells #[.int .i64 pc, .int .i64 m0, .int .i64 m1, .int .i64 m2, .int .i64 m3, .int .i64 m4, .int .i64 m5, .int .i64 m6, .int .i64 m7, .slice q k d, .bool ov] 63 (0, 0)) ∧ Own eRp wr (g + 1) 79 q d R ∧ R.length = k ∧ RI l x T n pc [m0, m1, m2, m3, m4, m5, m6, m7] R ov ∧ Below g w wr
set_option maxRecDepth 100000 in
set_option maxHeartbeats 8000000 in
theorem rrun_yes (p : Option Addr) (c : Nat) (l : List In) (w : World) (hr : Rd eIn w p c l) (n : Nat) (hN : l.length = n) (hk : okB l = true) (x : Int) (hx0 : -9223372036854775808 ≤ x) (hx1 : x ≤ 9223372036854775807) (N : Nat) (v : Int) (hE : EndsAt l x N v) :
    Calls Try.prog 15 #[.slice p n c, .int .i64 x] w fun e w' => e = .returned (.tuple #[.int .i64 v, .int .i64 (N : Int), .bool true]) ∧ Below w.heap.size w w' := by
  have HP : Hid (Prg l) := prg_of hk
  have hle := HP.out.le
  rw [hN] at hle
  have hT := (tk_of HP.out).tk_le
  have HN : Hid (l.length = n) := hN
  have HE : Hid (EndsAt l x N v) := hE
  have M0 : Hid (RI l x (tk l) 0 0 [x, 0, 0, 0, 0, 0, 0, 0] [] false) := ri_start HP.out hx0 hx1
  have n1000 : n ≤ 1000 := by omega
  have h1 := fun w' (hb : Below w.heap.size w w') => refCost_yes p c l w' (hr.below hb) n hN hk
  generalize tk l = T at *
  generalize lgs l n = G at *
  clear hN hk hE hx0 hx1
  go_enter Try.func15, Try.ntmps15
  go_wp2_with (first
    | (go_at_call 22; refine (h1 _ (Below.refl _ _)).mono ?_; rintro e w1 ⟨⟨q1, d1, m1, rfl, e1, _⟩, b1⟩; clear e1 h1)
    | (go_at_call 24; refine (newm_any _ _).mono ?_; rintro e w8 ⟨rfl, b8⟩))
  have gc8 : w8.heap[w1.heap.size]? = some (.cells #[.int .i64 (T : Int), .int .i64 (G : Int), .slice q1 m1 d1] 53 (0, 0)) := (b8.block w1.heap.size (by simp)).trans (heap_alloc_new w1 _)
  have B8 : Below w.heap.size w w8 := bel_call (bel_call b1 (Nat.le_refl _) ((Below.refl _ _).alloc (Nat.le_refl _) _)) (Nat.le_refl _) b8
  have T0 : Ew l x T w8.heap.size w8 (w8.alloc (.cells #[.int .i64 0, .int .i64 x, .int .i64 0, .int .i64 0, .int .i64 0, .int .i64 0, .int .i64 0, .int .i64 0, .int .i64 0, .slice none 0 0, .bool false] 63)) 0 x 0 0 0 0 0 0 0 none 0 0 [] false 0 :=
    ⟨heap_at rfl, own_nil _ _ _, rfl, M0.out, (Below.refl _ _).alloc (Nat.le_refl _) _⟩
  have hrl := hr.below B8
  have hgc := lt_of_block gc8
  have hz8 := B8.size
  clear b1 b8 hr M0
  generalize hgm : w8.heap.size = g at T0 hgc hz8 ⊢
  generalize w1.heap.size = gc at *
  generalize w8.alloc (.cells #[.int .i64 0, .int .i64 x, .int .i64 0, .int .i64 0, .int .i64 0, .int .i64 0, .int .i64 0, .int .i64 0, .int .i64 0, .slice none 0 0, .bool false] 63) = wa at T0 ⊢
  have HG : Hid (w8.heap.size = g) := hgm
  clear hgm
  go_loopw [10] (fun t wr => ∃ (i : Nat) (pc m0 m1 m2 m3 m4 m5 m6 m7 : Int) (q : Option Addr) (k d : Nat) (R : List Rp) (ov : Bool), t = .int .i64 i ∧ Ew l x T g w8 wr pc m0 m1 m2 m3 m4 m5 m6 m7 q k d R ov i) (fun t _ => 10000 - (intOf t).toNat)
  case atStart => exact ⟨0, _, _, _, _, _, _, _, _, _, _, _, _, _, _, rfl, T0⟩
  case round =>
    obtain ⟨i, pc, m0, m1', m2, m3, m4, m5, m6, m7, q, k, d, R, ov, rfl, hT'⟩ := hrel
    clear T0
    obtain ⟨r6, oa, hk, hI, hB⟩ := hT'
    have grow : wr.heap[gc]? = _ := (hB.block gc hgc).trans gc8
    obtain ⟨⟨k0, k1, k2⟩, _⟩ := cellT grow
    have gz := lt_of_block grow
    have l6 := lt_of_block r6
    have n1 : wr.cell? ⟨g, 1, none⟩ = some (.int .i64 m0) := by rw [cell_of_row _ _ _ _ _ _ r6]; rfl
    have n10 : wr.cell? ⟨g, 10, none⟩ = some (.bool ov) := by rw [cell_of_row _ _ _ _ _ _ r6]; rfl
    have hi := hI.le
    cases ov with
    | true =>
      obtain ⟨rfl, rfl⟩ : i = N ∧ m0 = v := by
        have := ends_one (ri_end hI) HE.out
        simpa using this
      clear hI
      go_wp2
      refine bodyPost_ret (v := .tuple #[.int .i64 m0, .int .i64 (i : Int), .bool true]) (res14r rfl rfl rfl) rfl ?_
      exact ⟨rfl, B8.trans (hB.mono (by omega))⟩
    | false =>
      obtain ⟨⟨pcF, memF, RF, ovF, ⟨xo, xa, xb, xn⟩, ok⟩, hF⟩ : ∃ y, stepF l pc [m0, m1', m2, m3, m4, m5, m6, m7] R false = y := ⟨_, rfl⟩
      obtain ⟨hFl, hRl⟩ := stepF_len (by rfl) hF
      obtain ⟨a0, a1, a2, a3, a4, a5, a6, a7, rfl⟩ := eight hFl
      have HF : Hid (stepF l pc [m0, m1', m2, m3, m4, m5, m6, m7] R false = (pcF, [a0, a1, a2, a3, a4, a5, a6, a7], RF, ovF, (xo, xa, xb, xn), ok)) := hF
      obtain ⟨kF, hkF⟩ : ∃ kF, RF.length = kF := ⟨_, rfl⟩
      have HKF : Hid (RF.length = kF) := hkF
      have HK : Hid (R.length = k) := hk
      have hk3 : k ≤ 1000 := by have := hI.vi.rl; omega
      have HMB : Hid (∀ v ∈ [m0, m1', m2, m3, m4, m5, m6, m7], -9223372036854775808 ≤ v ∧ v ≤ 9223372036854775807) := hI.vi.mb
      have HRB : Hid (∀ r ∈ R, -9223372036854775808 ≤ r.2.2 ∧ r.2.2 ≤ 9223372036854775807) := hI.vi.rb
      have hrd := hrl.below (show Below w8.heap.size w8 wr by rw [HG.out]; exact hB)
      obtain ⟨rfl, hI2⟩ := ri_step HP.out hI hF
      have HI2 : Hid (RI l x T (i + 1) pcF [a0, a1, a2, a3, a4, a5, a6, a7] RF ovF) := hI2
      clear hF hFl hRl hkF hk hI hI2
      have dn : decide ((i : Int) ≤ (T : Int)) = true := by simp; omega
      go_wp2_with (first
        | (refine wpList_load_row rfl 63 (.tmp 9) rfl g rfl 63 #[.int .i64 pc, .int .i64 m0, .int .i64 m1', .int .i64 m2, .int .i64 m3, .int .i64 m4, .int .i64 m5, .int .i64 m6, .int .i64 m7, .slice q k d, .bool false] (0, 0) _ r6 Try.underlying63 rfl info38 ?_)
        | (go_at_call 25; refine (rstep_c p c l _ hrd n HN.out n1000 pc m0 m1' m2 m3 m4 m5 m6 m7 HMB.out q d k R (own_rd oa) HK.out hk3 HRB.out false pcF a0 a1 a2 a3 a4 a5 a6 a7 RF ovF xo xa xb xn true kF HF.out HKF.out).mono ?_; rintro e w9 ⟨⟨q9, d9, rfl, o9⟩, b9⟩
           have r69 := keepc b9 r6
           have B9 := hB.trans (b9.mono (by omega))
           have z9 := b9.size)
        | (refine wpList_store_row rfl 63 (.tmp 9) (.tmp 33) rfl g #[.int .i64 pcF, .int .i64 a0, .int .i64 a1, .int .i64 a2, .int .i64 a3, .int .i64 a4, .int .i64 a5, .int .i64 a6, .int .i64 a7, .slice q9 kF d9, .bool ovF] rfl rfl 63 _ r69 info38 rfl (row_ones _ _ _ _ _ _ _ _ _ _ _ _ _) ?_))
      go_roundw
      case rel => exact ⟨i + 1, _, _, _, _, _, _, _, _, _, _, _, _, _, _, by go_num, setRow_heap _ _ _ _ _ _ r69, own_row (own_mono o9 (by omega)) (by omega) _, HKF.out, HI2.out, below_setRow B9 (Nat.le_refl _) _⟩
      case measure => simp [intOf]; omega
theorem rrun_no (p : Option Addr) (c : Nat) (l : List In) (w : World) (hr : Rd eIn w p c l) (n : Nat) (hN : l.length = n) (hn : n ≤ 1000) (hk : okB l = false) (x : Int) :
    Calls Try.prog 15 #[.slice p n c, .int .i64 x] w fun e w' => e = .returned (.tuple #[.int .i64 0, .int .i64 0, .bool false]) ∧ Below w.heap.size w w' := by
  have h1 := fun w' (hb : Below w.heap.size w w') => refCost_no p c l w' (hr.below hb) n hN hn hk
  clear hr hN hk
  go_enter Try.func15, Try.ntmps15
  go_wp2_with (go_at_call 22; refine (h1 _ (Below.refl _ _)).mono ?_; rintro e w1 ⟨rfl, b1⟩)
  refine bodyPost_ret (v := .tuple #[.int .i64 0, .int .i64 0, .bool false]) (res14r rfl rfl rfl) rfl ?_
  exact ⟨rfl, b1.alloc b1.size _⟩
end Go.Proofs.Ytonholadabebbaa
