/-
  Put together:
  A run, by the program.
  Run, by the program.
  Has pure begun; runs at literals.
-/
import Derived.Test.YtboffjabffcddaaRunm
import Derived.Test.YtboffjabffcddaaVbegun
import Derived.WalkSpells
import Derived.Test.YtboffjabffcddaaShap
namespace Go.Proofs.Ytboffjabffcddaa
open Go.ChangeShapes Go.WideShapes Go.ChangeAt Go.RowKit
attribute [local go_sem ↓] Go.wp_at_zero Go.wp_at_succ

theorem row_ones (pc a0 a1 a2 a3 a4 a5 a6 a7 : Int) (q : Option Addr) (k d : Nat) (ov : Bool) : (#[Value.int .i64 pc, .int .i64 a0, .int .i64 a1, .int .i64 a2, .int .i64 a3, .int .i64 a4, .int .i64 a5, .int .i64 a6, .int .i64 a7, .slice q k d, .bool ov] : Array Value).all (·.oneCell') = true := mcell_one pc [a0, a1, a2, a3, a4, a5, a6, a7] q k d ov
/-- the machine of a run, between two steps -/
def Ev (l : List In) (x : Int) (T g : Nat) (w wr : World) (pc m0 m1 m2 m3 m4 m5 m6 m7 : Int) (q : Option Addr) (k d : Nat) (R : List Rp) (ov : Bool) (n : Nat) : Prop :=
  wr.heap[g]? = some (.cells #[.int .i64 pc, .int .i64 m0, .int .i64 m1, .int .i64 m2, .int .i64 m3, .int .i64 m4, .int .i64 m5, .int .i64 m6, .int .i64 m7, .slice q k d, .bool ov] 47 (0, 0)) ∧ wr.heap[g + 1]? = some (.cells #[.int .i64 0, .int .i64 0, .int .i64 0, .int .i64 0, .int .i64 0, .int .i64 0, .int .i64 0, .int .i64 0, .int .i64 0, .slice none 0 0, .bool false] 47 (0, 0)) ∧ Own eRp wr (g + 2) 73 q d R ∧ R.length = k ∧ RI l x T n pc [m0, m1, m2, m3, m4, m5, m6, m7] R ov ∧ Below g w wr
theorem ev_go {l : List In} {x : Int} {T g : Nat} {w w2 : World} {ca : Array Value} (r6 : w2.heap[g]? = some (.cells ca 47 (0, 0))) (r7 : w2.heap[g + 1]? = some (.cells #[.int .i64 0, .int .i64 0, .int .i64 0, .int .i64 0, .int .i64 0, .int .i64 0, .int .i64 0, .int .i64 0, .int .i64 0, .slice none 0 0, .bool false] 47 (0, 0))) {pcF a0 a1 a2 a3 a4 a5 a6 a7 : Int} {q9 : Option Addr} {kF d9 n : Nat} {ovF : Bool} {RF : List Rp} (o9 : Own eRp w2 (g + 2) 73 q9 d9 RF) (hk : RF.length = kF) (hv : RI l x T n pcF [a0, a1, a2, a3, a4, a5, a6, a7] RF ovF) (hb : Below g w w2) :
    Ev l x T g w (w2.setRow g #[.int .i64 pcF, .int .i64 a0, .int .i64 a1, .int .i64 a2, .int .i64 a3, .int .i64 a4, .int .i64 a5, .int .i64 a6, .int .i64 a7, .slice q9 kF d9, .bool ovF]) pcF a0 a1 a2 a3 a4 a5 a6 a7 q9 kF d9 RF ovF n :=
  ⟨setRow_heap _ _ _ _ _ _ r6, (setRow_other _ _ _ _ (by omega)).trans r7, own_row o9 (by omega) _, hk, hv, below_setRow hb (Nat.le_refl _) _⟩
theorem stepF_len {l : List In} {pc : Int} {mem : List Int} {R : List Rp} {ov : Bool} (hm : mem.length = 8) {pcF : Int} {memF : List Int} {RF : List Rp} {ovF : Bool} {y : In} {ok : Bool} (hF : stepF l pc mem R ov = (pcF, memF, RF, ovF, y, ok)) : memF.length = 8 ∧ RF.length ≤ R.length + 1 := by
  constructor
  · have h := congrArg (fun y => y.2.1.length) hF
    simp only at h
    rw [← h]
    unfold stepF
    split
    · simp only; rw [memA_len]; exact hm
    · exact hm
  · have h := congrArg (fun y => y.2.2.1.length) hF
    simp only at h
    rw [← h]
    unfold stepF
    split
    · simp only [List.length_reverse]
      refine Nat.le_trans (normR_len _ _) ?_
      simp only [List.length_reverse]
      exact repA_len _ _ _
    · simp
theorem stepF_over {l : List In} {pc : Int} {mem : List Int} {R : List Rp} : stepF l pc mem R true = (pc, mem, R, true, (0, 0, 0, 0), false) := by
  unfold stepF
  rw [if_neg (by simp [can])]
theorem res30 {tmps : Array Value} {w : World} {r : Nat} {cs : Array Value} {v : Value} (h4 : tmps.getD 4 undef = .pointer (some ⟨r, 0, none⟩)) (h5 : tmps.getD 5 undef = v) (g2 : w.heap[r]? = some (.cells cs 47 (0, 0))) (hs : cs.size = 11 := by rfl) :
    (results Try.f30 tmps).run Try.prog w = .ok (.tuple #[.agg cs, v]) w := by
  have e2 := run_loadVar_row (P := Try.prog) w r 47 47 _ (0, 0) _ g2 Try.underlying47 rfl (by rw [hs]; exact info38)
  have k4 : tmps[4]?.getD undef = .pointer (some ⟨r, 0, none⟩) := by simpa using h4
  have k5 : tmps[5]?.getD undef = v := by simpa using h5
  simp [results, Try.results30, k4, k5, asAddr, e2]
set_option maxRecDepth 100000 in
set_option maxHeartbeats 8000000 in
theorem ended_any (p : Option Addr) (c : Nat) (l : List In) (w : World) (hr : Rd eIn w p c l) (n : Nat) (hN : l.length = n) (hk : okB l = true) (x : Int) (hx0 : -9223372036854775808 ≤ x) (hx1 : x ≤ 9223372036854775807) (N : Nat) (v : Int) (hE : EndsAt l x N v) :
    Calls Try.prog 30 #[.slice p n c, .agg #[.int .i64 0, .int .i64 x, .int .i64 0, .int .i64 0, .int .i64 0, .int .i64 0, .int .i64 0, .int .i64 0, .int .i64 0, .slice none 0 0, .bool false]] w fun e w' => (∃ (pcF a1 a2 a3 a4 a5 a6 a7 : Int) (q : Option Addr) (k d : Nat), e = .returned (.tuple #[.agg #[.int .i64 pcF, .int .i64 v, .int .i64 a1, .int .i64 a2, .int .i64 a3, .int .i64 a4, .int .i64 a5, .int .i64 a6, .int .i64 a7, .slice q k d, .bool true], .int .i64 (N : Int)])) ∧ Below w.heap.size w w' := by
  have HP : Hid (Prg l) := prg_of hk
  have hle := HP.out.le
  rw [hN] at hle
  have hT := (tk_of HP.out).tk_le
  have HN : Hid (l.length = n) := hN
  have HE : Hid (EndsAt l x N v) := hE
  have M0 := ri_start HP.out hx0 hx1
  have n1000 : n ≤ 1000 := by omega
  generalize tk l = T at *
  clear hN hk hE hx0 hx1
  obtain ⟨g, hg⟩ : ∃ g, w.heap.size = g := ⟨_, rfl⟩
  have HG : Hid (w.heap.size = g) := hg
  have T0 : Ev l x T g w ((w.alloc (.cells #[.int .i64 0, .int .i64 x, .int .i64 0, .int .i64 0, .int .i64 0, .int .i64 0, .int .i64 0, .int .i64 0, .int .i64 0, .slice none 0 0, .bool false] 47)).alloc (.cells #[.int .i64 0, .int .i64 0, .int .i64 0, .int .i64 0, .int .i64 0, .int .i64 0, .int .i64 0, .int .i64 0, .int .i64 0, .slice none 0 0, .bool false] 47)) 0 x 0 0 0 0 0 0 0 none 0 0 [] false 0 :=
    ⟨up1 (heap_at hg), heap_at (by simp [hg]), own_nil _ _ _, rfl, M0, ((Below.refl _ _).alloc (by omega) _).alloc (by simp; omega) _⟩
  clear hg M0
  go_enter Try.func30, Try.ntmps30
  go_wp2
  rw [HG.out]
  generalize ((w.alloc (.cells #[.int .i64 0, .int .i64 x, .int .i64 0, .int .i64 0, .int .i64 0, .int .i64 0, .int .i64 0, .int .i64 0, .int .i64 0, .slice none 0 0, .bool false] 47)).alloc (.cells #[.int .i64 0, .int .i64 0, .int .i64 0, .int .i64 0, .int .i64 0, .int .i64 0, .int .i64 0, .int .i64 0, .int .i64 0, .slice none 0 0, .bool false] 47)) = wz at T0 ⊢
  go_loopw [6] (fun t wr => ∃ (i : Nat) (pc m0 m1 m2 m3 m4 m5 m6 m7 : Int) (q : Option Addr) (k d : Nat) (R : List Rp) (ov : Bool), t = .int .i64 i ∧ Ev l x T g w wr pc m0 m1 m2 m3 m4 m5 m6 m7 q k d R ov i) (fun t _ => 10000 - (intOf t).toNat)
  case atStart => exact ⟨0, _, _, _, _, _, _, _, _, _, _, _, _, _, _, rfl, T0⟩
  case round =>
    obtain ⟨i, pc, m0, m1, m2, m3, m4, m5, m6, m7, q, k, d, R, ov, rfl, hT'⟩ := hrel
    clear T0
    obtain ⟨r6, r7, oa, hk, hI, hB⟩ := hT'
    obtain ⟨⟨pcF, memF, RF, ovF, ⟨xo, xa, xb, xn⟩, ok⟩, hF⟩ : ∃ y, stepF l pc [m0, m1, m2, m3, m4, m5, m6, m7] R ov = y := ⟨_, rfl⟩
    obtain ⟨hFl, hRl⟩ := stepF_len (by rfl) hF
    obtain ⟨a0, a1, a2, a3, a4, a5, a6, a7, rfl⟩ := eight hFl
    have HF : Hid (stepF l pc [m0, m1, m2, m3, m4, m5, m6, m7] R ov = (pcF, [a0, a1, a2, a3, a4, a5, a6, a7], RF, ovF, (xo, xa, xb, xn), ok)) := hF
    obtain ⟨kF, hkF⟩ : ∃ kF, RF.length = kF := ⟨_, rfl⟩
    have HKF : Hid (RF.length = kF) := hkF
    have HK : Hid (R.length = k) := hk
    have hk3 : k ≤ 1000 := by have := hI.vi.rl; omega
    have hi := hI.le
    have HMB : Hid (∀ v ∈ [m0, m1, m2, m3, m4, m5, m6, m7], -9223372036854775808 ≤ v ∧ v ≤ 9223372036854775807) := hI.vi.mb
    have HRB : Hid (∀ r ∈ R, -9223372036854775808 ≤ r.2.2 ∧ r.2.2 ≤ 9223372036854775807) := hI.vi.rb
    have HI : Hid (RI l x T i pc [m0, m1, m2, m3, m4, m5, m6, m7] R ov) := hI
    have hrd := hr.below (show Below w.heap.size w wr by rw [HG.out]; exact hB)
    clear hF hFl hRl hkF hk hI
    have l6 := lt_of_block r6
    have l7 := lt_of_block r7
    cases ov with
    | false =>
      have hgo := ri_step HP.out HI.out HF.out
      obtain ⟨rfl, hI2⟩ := hgo
      have HI2 : Hid (RI l x T (i + 1) pcF [a0, a1, a2, a3, a4, a5, a6, a7] RF ovF) := hI2
      clear hI2
      go_wp2_with (first
        | (refine wpList_load_row rfl 47 (.tmp 3) rfl g rfl 47 #[.int .i64 pc, .int .i64 m0, .int .i64 m1, .int .i64 m2, .int .i64 m3, .int .i64 m4, .int .i64 m5, .int .i64 m6, .int .i64 m7, .slice q k d, .bool false] (0, 0) _ r6 Try.underlying47 rfl info38 ?_)
        | (go_at_call 24; refine (vstep_c p c l _ hrd n HN.out n1000 pc m0 m1 m2 m3 m4 m5 m6 m7 HMB.out q d k R (own_rd oa) HK.out hk3 HRB.out false pcF a0 a1 a2 a3 a4 a5 a6 a7 RF ovF xo xa xb xn true kF HF.out HKF.out).mono ?_; rintro e w9 ⟨⟨q9, d9, rfl, o9⟩, b9⟩
           have r69 := keepc b9 r6
           have r79 := keepc b9 r7
           have B9 := hB.trans (b9.mono (by omega))
           have z9 := b9.size
           have rA := up1 (x := .cells #[.int .i64 xo, .int .i64 xa, .int .i64 xb, .int .i64 xn] 34) (heap_at (w := w9) (o := .cells #[.int .i64 pcF, .int .i64 a0, .int .i64 a1, .int .i64 a2, .int .i64 a3, .int .i64 a4, .int .i64 a5, .int .i64 a6, .int .i64 a7, .slice q9 kF d9, .bool ovF] 47) rfl))
        | (refine wpList_load_row rfl 47 (.tmp 7) rfl w9.heap.size rfl 47 #[.int .i64 pcF, .int .i64 a0, .int .i64 a1, .int .i64 a2, .int .i64 a3, .int .i64 a4, .int .i64 a5, .int .i64 a6, .int .i64 a7, .slice q9 kF d9, .bool ovF] (0, 0) _ rA Try.underlying47 rfl info38 ?_)
        | (refine wpList_store_row rfl 47 (.tmp 3) (.tmp 23) rfl g #[.int .i64 pcF, .int .i64 a0, .int .i64 a1, .int .i64 a2, .int .i64 a3, .int .i64 a4, .int .i64 a5, .int .i64 a6, .int .i64 a7, .slice q9 kF d9, .bool ovF] rfl rfl 47 _ (up1 (up1 r69)) info38 rfl (row_ones _ _ _ _ _ _ _ _ _ _ _ _ _) ?_))
      go_roundw
      case rel => exact ⟨i + 1, _, _, _, _, _, _, _, _, _, _, _, _, _, _, by go_num, ev_go (up1 (up1 r69)) (up1 (up1 r79)) (own_al (own_al (own_mono o9 (by omega)) _) _) HKF.out HI2.out ((B9.alloc (by omega) _).alloc (by simp; omega) _)⟩
      case measure => simp [intOf]; omega
    | true =>
      have hv := HF.out
      rw [stepF_over] at hv
      simp only [Prod.mk.injEq, List.cons.injEq, and_true] at hv
      obtain ⟨rfl, ⟨rfl, rfl, rfl, rfl, rfl, rfl, rfl, rfl⟩, rfl, rfl, ⟨rfl, rfl, rfl, rfl⟩, rfl⟩ := hv
      obtain ⟨rfl, rfl⟩ : i = N ∧ m0 = v := by
        have := ends_one (ri_end HI.out) HE.out
        simpa using this
      go_wp2_with (first
        | (refine wpList_load_row rfl 47 (.tmp 3) rfl g rfl 47 #[.int .i64 pc, .int .i64 m0, .int .i64 m1, .int .i64 m2, .int .i64 m3, .int .i64 m4, .int .i64 m5, .int .i64 m6, .int .i64 m7, .slice q k d, .bool true] (0, 0) _ r6 Try.underlying47 rfl info38 ?_)
        | (go_at_call 24; refine (vstep_c p c l _ hrd n HN.out n1000 pc m0 m1 m2 m3 m4 m5 m6 m7 HMB.out q d k R (own_rd oa) HK.out hk3 HRB.out true pc m0 m1 m2 m3 m4 m5 m6 m7 R true 0 0 0 0 false k HF.out HK.out).mono ?_; rintro e w9 ⟨⟨q9, d9, rfl, o9⟩, b9⟩
           have r69 := keepc b9 r6
           have r79 := keepc b9 r7
           have B9 := hB.trans (b9.mono (by omega))
           have z9 := b9.size
           clear r6)
        | (refine wpList_load_row rfl 47 (.tmp 3) rfl g rfl 47 #[.int .i64 pc, .int .i64 m0, .int .i64 m1, .int .i64 m2, .int .i64 m3, .int .i64 m4, .int .i64 m5, .int .i64 m6, .int .i64 m7, .slice q k d, .bool true] (0, 0) _ (up1 (up1 r69)) Try.underlying47 rfl info38 ?_)
        | (refine wpList_store_row rfl 47 (.tmp 4) (.tmp 21) rfl (g + 1) #[.int .i64 pc, .int .i64 m0, .int .i64 m1, .int .i64 m2, .int .i64 m3, .int .i64 m4, .int .i64 m5, .int .i64 m6, .int .i64 m7, .slice q k d, .bool true] rfl rfl 47 _ (up1 (up1 r79)) info38 rfl (row_ones _ _ _ _ _ _ _ _ _ _ _ _ _) ?_))
      refine bodyPost_ret (v := .tuple #[.agg #[.int .i64 pc, .int .i64 m0, .int .i64 m1, .int .i64 m2, .int .i64 m3, .int .i64 m4, .int .i64 m5, .int .i64 m6, .int .i64 m7, .slice q k d, .bool true], .int .i64 (i : Int)]) (res30 rfl rfl (setRow_heap _ _ _ _ _ _ (up1 (up1 r79)))) rfl ?_
      exact ⟨⟨_, _, _, _, _, _, _, _, _, _, _, rfl⟩, below_setRow (by rw [HG.out]; exact (B9.alloc (by omega) _).alloc (by simp; omega) _) (by have := HG.out; omega) _⟩
end Go.Proofs.Ytboffjabffcddaa

namespace Go.Proofs.Ytboffjabffcddaa
open Go.ChangeShapes Go.WideShapes Go.ChangeAt Go.RowKit
attribute [local go_sem ↓] Go.wp_at_zero Go.wp_at_succ

theorem res13 {tmps : Array Value} {w : World} {a b d : Value} (h4 : tmps.getD 4 undef = a) (h5 : tmps.getD 5 undef = b) (h6 : tmps.getD 6 undef = d) : (results Try.f13 tmps).run Try.prog w = .ok (.tuple #[a, b, d]) w := by
  have k4 : tmps[4]?.getD undef = a := by simpa using h4
  have k5 : tmps[5]?.getD undef = b := by simpa using h5
  have k6 : tmps[6]?.getD undef = d := by simpa using h6
  simp [results, Try.results13, k4, k5, k6]
set_option maxRecDepth 100000 in
set_option maxHeartbeats 8000000 in
theorem prun_yes (p : Option Addr) (c : Nat) (l : List In) (w : World) (hr : Rd eIn w p c l) (n : Nat) (hN : l.length = n) (hn : n ≤ 1000) (hk : okB l = true) (x : Int) (hx0 : -9223372036854775808 ≤ x) (hx1 : x ≤ 9223372036854775807) (N : Nat) (v : Int) (hE : EndsAt l x N v) :
    Calls Try.prog 13 #[.slice p n c, .int .i64 x] w fun e w' => e = .returned (.tuple #[.int .i64 v, .int .i64 (N : Int), .bool true]) ∧ Below w.heap.size w w' := by
  have h1 := fun w' (hb : Below w.heap.size w w') => shape_any p c l w' (hr.below hb) n hN hn
  rw [hk] at h1
  have h2 := fun w' (hb : Below w.heap.size w w') => ended_any p c l w' (hr.below hb) n hN hk x hx0 hx1 N v hE
  clear hr hN hk hE
  go_enter Try.func13, Try.ntmps13
  go_wp2_with (first
    | (go_at_call 29; refine (h1 _ (Below.refl _ _)).mono ?_; rintro e w1 ⟨rfl, b1⟩)
    | (go_at_call 22; refine (vnew_any _ _).mono ?_; rintro e w2 ⟨rfl, b2⟩; have B2 := b1.trans (b2.mono b1.size))
    | (go_at_call 30; refine (h2 _ B2).mono ?_; rintro e w3 ⟨⟨pcF, a1, a2, a3, a4, a5, a6, a7, q, k, d, rfl⟩, b3⟩; have B3 := B2.trans (b3.mono B2.size)))
  refine bodyPost_ret (v := .tuple #[.int .i64 v, .int .i64 (N : Int), .bool true]) (res13 rfl rfl rfl) rfl ?_
  exact ⟨rfl, B3.alloc B3.size _⟩
theorem prun_no (p : Option Addr) (c : Nat) (l : List In) (w : World) (hr : Rd eIn w p c l) (n : Nat) (hN : l.length = n) (hn : n ≤ 1000) (hk : okB l = false) (x : Int) :
    Calls Try.prog 13 #[.slice p n c, .int .i64 x] w fun e w' => e = .returned (.tuple #[.int .i64 0, .int .i64 0, .bool false]) ∧ Below w.heap.size w w' := by
  have h1 := fun w' (hb : Below w.heap.size w w') => shape_any p c l w' (hr.below hb) n hN hn
  rw [hk] at h1
  clear hr hN hk
  go_enter Try.func13, Try.ntmps13
  go_wp2_with (go_at_call 29; refine (h1 _ (Below.refl _ _)).mono ?_; rintro e w1 ⟨rfl, b1⟩)
  refine bodyPost_ret (v := .tuple #[.int .i64 0, .int .i64 0, .bool false]) (res13 rfl rfl rfl) rfl ?_
  exact ⟨rfl, b1⟩
end Go.Proofs.Ytboffjabffcddaa

namespace Go.Proofs.Ytboffjabffcddaa
open Go.ChangeShapes Go.WideShapes Go.ChangeAt Go.RowKit
attribute [local go_sem ↓] Go.wp_at_zero Go.wp_at_succ

/-- a check by counting -/
def endsB (l : List In) (x : Int) (N : Nat) (v : Int) : Bool := (rnN l (st0 x) N).2.2.2 && (List.range N).all (fun k => !(rnN l (st0 x) k).2.2.2) && decide (v = (rnN l (st0 x) N).2.1.getD 0 0)
theorem endsB_ok {l : List In} {x : Int} {N : Nat} {v : Int} (h : endsB l x N v = true) : EndsAt l x N v := by
  unfold endsB at h
  simp only [Bool.and_eq_true, List.all_eq_true, decide_eq_true_eq] at h
  refine ⟨h.1.1, fun k hk => ?_, h.2⟩
  have := h.1.2 k (List.mem_range.2 hk)
  simpa using this
theorem rd_none {α : Type} {E : Elt α} (w : World) : Rd E w none 0 [] := ⟨Nat.le_refl _, .inl ⟨rfl, rfl, rfl⟩⟩
theorem prun_b1 (w : World) (b : Nat) (h : w.heap[b]? = some (.cells #[.int .i64 2, .int .i64 0, .int .i64 0, .int .i64 0, .int .i64 0, .int .i64 0, .int .i64 0, .int .i64 0] 34 (0, 0))) : Calls Try.prog 13 #[.slice (some ⟨b, 0, none⟩) 2 2, .int .i64 7] w fun e w' => e = .returned (.tuple #[.int .i64 14, .int .i64 2, .bool true]) ∧ Below w.heap.size w w' :=
  prun_yes _ 2 [(2, 0, 0, 0), (0, 0, 0, 0)] w (rd_ins h 2 rfl rfl) 2 rfl (by decide) (by kernel_rfl) 7 (by decide) (by decide) 2 14 (endsB_ok (by kernel_rfl))
theorem prun_b2 (w : World) : Calls Try.prog 13 #[.slice none 0 0, .int .i64 7] w fun e w' => e = .returned (.tuple #[.int .i64 0, .int .i64 0, .bool false]) ∧ Below w.heap.size w w' :=
  prun_no none 0 [] w (rd_none w) 0 rfl (by decide) (by kernel_rfl) 7
set_option maxRecDepth 100000 in
set_option maxHeartbeats 8000000 in
theorem begun9 (w : World) : Calls Try.prog 9 #[] w fun e w' => e = .returned (.bool true) ∧ Below w.heap.size w w' := by
  go_enter Try.func9, Try.ntmps9
  go_wp2_with (first
    | (go_at_call 13; (with_reducible (refine (prun_b1 _ _ (heap_at (by simp))).mono ?_)); rintro e w1 ⟨rfl, b1⟩; have B1 := ((Below.refl _ _).alloc (Nat.le_refl _) _).trans (b1.mono (by simp)))
    | (go_at_call 13; (with_reducible (refine (prun_b2 _).mono ?_)); rintro e w2 ⟨rfl, b2⟩; have B2 := B1.trans (b2.mono B1.size)))
  go_ret
  exact ⟨rfl, B2⟩
end Go.Proofs.Ytboffjabffcddaa
