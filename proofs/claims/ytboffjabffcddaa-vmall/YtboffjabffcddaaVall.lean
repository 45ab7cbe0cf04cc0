/-
  The law VmAll, walked.
-/
import Derived.Test.YtboffjabffcddaaVbegun
import Derived.Test.YtboffjabffcddaaMade
import Derived.Test.YtboffjabffcddaaLots
import Derived.WalkSpells
import Derived.Deep.MidRow
namespace Go.Proofs.Ytboffjabffcddaa
open Go.ChangeShapes Go.WideShapes Go.ChangeAt Go.RowKit
attribute [local go_sem ↓] Go.wp_at_zero Go.wp_at_succ

theorem rd_own8 {α : Type} {E : Elt α} {w : World} {p : Option Addr} {c : Nat} {l : List α} (h : Rd E w p c l) : ∀ b o, p = some ⟨b, o, none⟩ → l ≠ [] → b < w.heap.size := fun b o e hne => by
  obtain ⟨b', o', e', hlt, _⟩ := h.pos (List.length_pos_iff.2 hne)
  rw [e] at e'
  cases e'
  exact hlt
theorem rd_al {α : Type} {E : Elt α} {w : World} {p : Option Addr} {c : Nat} {l : List α} (h : Rd E w p c l) (ob : Obj) : Rd E (w.alloc ob) p c l := h.below ((Below.refl _ _).alloc (Nat.le_refl _) _)
theorem rng_below {w w' : World} {b o : Nat} {cs : List Value} (h : w.rangeAt b o cs) (hb : Below w.heap.size w w') (hlt : b < w.heap.size) : w'.rangeAt b o cs := fun j v hv => (hb.cell (p := ⟨b, o + j, none⟩) hlt).trans (h j v hv)
theorem rng_of {w : World} {b o : Nat} {row : Array Value} {t : TypeId} {fr : Nat × Nat} {cs : List Value} (h : w.heap[b]? = some (.cells row t fr)) (hc : ∀ j, j < cs.length → row[o + j]? = cs[j]?) : w.rangeAt b o cs := fun j v hv => by
  rw [cell_of_row _ _ _ _ _ _ h, hc j (List.getElem?_eq_some_iff.1 hv).1, hv]
set_option maxRecDepth 20000 in
/-- the machine at j of three -/
theorem three_at (w : World) (gm : Nat) (pc P2 m0 m1 m2 m3 m4 m5 m6 m7 V : Int) (q : Option Addr) (k d : Nat) (ov O2 : Bool) (R : List Rp) (h : w.heap[gm]? = some (.cells #[.int .i64 pc, .int .i64 m0, .int .i64 m1, .int .i64 m2, .int .i64 m3, .int .i64 m4, .int .i64 m5, .int .i64 m6, .int .i64 m7, .slice q k d, .bool ov, .int .i64 P2, .int .i64 m0, .int .i64 m1, .int .i64 m2, .int .i64 m3, .int .i64 m4, .int .i64 m5, .int .i64 m6, .int .i64 m7, .slice q k d, .bool O2, .int .i64 0, .int .i64 V, .int .i64 0, .int .i64 0, .int .i64 0, .int .i64 0, .int .i64 0, .int .i64 0, .int .i64 0, .slice none 0 0, .bool false] 47 (0, 0))) (hR : Rd eRp w q d R) (hk : R.length = k) (hk5 : k ≤ 5) (hmb : ∀ v ∈ [m0, m1, m2, m3, m4, m5, m6, m7], -9223372036854775808 ≤ v ∧ v ≤ 9223372036854775807) (hRb : ∀ r ∈ R, -9223372036854775808 ≤ r.2.2 ∧ r.2.2 ≤ 9223372036854775807) (hV0 : -9223372036854775808 ≤ V) (hV1 : V ≤ 9223372036854775807) (j : Nat) (hj : j < 3) :
    ∃ (sc s0 s1 s2 s3 s4 s5 s6 s7 : Int) (sq : Option Addr) (sk sd : Nat) (so : Bool) (S : List Rp), w.rangeAt gm (j * 11) [.int .i64 sc, .int .i64 s0, .int .i64 s1, .int .i64 s2, .int .i64 s3, .int .i64 s4, .int .i64 s5, .int .i64 s6, .int .i64 s7, .slice sq sk sd, .bool so] ∧ Rd eRp w sq sd S ∧ S.length = sk ∧ sk ≤ 5 ∧ (∀ v ∈ [s0, s1, s2, s3, s4, s5, s6, s7], -9223372036854775808 ≤ v ∧ v ≤ 9223372036854775807) ∧ ∀ r ∈ S, -9223372036854775808 ≤ r.2.2 ∧ r.2.2 ≤ 9223372036854775807 := by
  rcases (by omega : j = 0 ∨ j = 1 ∨ j = 2) with rfl | rfl | rfl
  · refine ⟨pc, m0, m1, m2, m3, m4, m5, m6, m7, q, k, d, ov, R, rng_of h (fun j hj => ?_), hR, hk, hk5, hmb, hRb⟩
    simp only [List.length_cons, List.length_nil] at hj
    rcases (by omega : j = 0 ∨ j = 1 ∨ j = 2 ∨ j = 3 ∨ j = 4 ∨ j = 5 ∨ j = 6 ∨ j = 7 ∨ j = 8 ∨ j = 9 ∨ j = 10) with rfl | rfl | rfl | rfl | rfl | rfl | rfl | rfl | rfl | rfl | rfl <;> rfl
  · refine ⟨P2, m0, m1, m2, m3, m4, m5, m6, m7, q, k, d, O2, R, rng_of h (fun j hj => ?_), hR, hk, hk5, hmb, hRb⟩
    simp only [List.length_cons, List.length_nil] at hj
    rcases (by omega : j = 0 ∨ j = 1 ∨ j = 2 ∨ j = 3 ∨ j = 4 ∨ j = 5 ∨ j = 6 ∨ j = 7 ∨ j = 8 ∨ j = 9 ∨ j = 10) with rfl | rfl | rfl | rfl | rfl | rfl | rfl | rfl | rfl | rfl | rfl <;> rfl
  · refine ⟨0, V, 0, 0, 0, 0, 0, 0, 0, none, 0, 0, false, [], rng_of h (fun j hj => ?_), rd_nil _, rfl, by omega, fun v hv => ?_, fun r hr => by cases hr⟩
    · simp only [List.length_cons, List.length_nil] at hj
      rcases (by omega : j = 0 ∨ j = 1 ∨ j = 2 ∨ j = 3 ∨ j = 4 ∨ j = 5 ∨ j = 6 ∨ j = 7 ∨ j = 8 ∨ j = 9 ∨ j = 10) with rfl | rfl | rfl | rfl | rfl | rfl | rfl | rfl | rfl | rfl | rfl <;> rfl
    · simp at hv
      rcases hv with rfl | rfl | rfl | rfl | rfl | rfl | rfl | rfl <;> omega
theorem stepF_len8 {l : List In} {pc : Int} {mem : List Int} {R : List Rp} {ov : Bool} (hm : mem.length = 8) {pcF : Int} {memF : List Int} {RF : List Rp} {ovF : Bool} {y : In} {ok : Bool} (hF : stepF l pc mem R ov = (pcF, memF, RF, ovF, y, ok)) : memF.length = 8 ∧ RF.length ≤ R.length + 1 := by
  constructor
  · have h := congrArg (fun y => y.2.1.length) hF
    simp only at h
    rw [← h]
    unfold stepF
    split
    · simp only; rw [memA_len]; exact hm
    · exact hm
  · have h := congrArg (fun y => y.2.2.1.length) hF
    simp only at h
    rw [← h]
    unfold stepF
    split
    · simp only [List.length_reverse]
      refine Nat.le_trans (normR_len _ _) ?_
      simp only [List.length_reverse]
      exact repA_len _ _ _
    · simp
set_option maxRecDepth 100000 in
set_option maxHeartbeats 8000000 in
theorem vall_walk (p : Option Addr) (c : Nat) (n : Nat) (zs : List Int) (pl : Option Addr) (cl nl : Nat) (l0 : List In) (w : World) (hp : Rd eBy w p c zs) (hn : zs.length = n) (hbz : ∀ x ∈ zs, 0 ≤ x ∧ x ≤ 255) (hm1 : n ≤ 9223372036854775807) (hl0 : Rd eIn w pl cl l0) (hnl : l0.length = nl) (hm2 : nl ≤ 9223372036854775807)
    (pc m0 m1 m2 m3 m4 m5 m6 m7 : Int) (hmb : ∀ v ∈ [m0, m1, m2, m3, m4, m5, m6, m7], -9223372036854775808 ≤ v ∧ v ≤ 9223372036854775807) (q : Option Addr) (k d : Nat) (ov : Bool) (R : List Rp) (hR : Rd eRp w q d R) (hk : R.length = k) (hkm : k ≤ 9223372036854775807) (hRb : ∀ r ∈ R, -9223372036854775808 ≤ r.2.2 ∧ r.2.2 ≤ 9223372036854775807) (V X : Int) (hV0 : -9223372036854775808 ≤ V) (hV1 : V ≤ 9223372036854775807) :
    Calls Try.prog 8 #[.slice p n c, .slice pl nl cl, .agg #[.int .i64 pc, .int .i64 m0, .int .i64 m1, .int .i64 m2, .int .i64 m3, .int .i64 m4, .int .i64 m5, .int .i64 m6, .int .i64 m7, .slice q k d, .bool ov], .int .i64 V, .int .i64 X] w fun e w' => e = .returned (.bool true) ∧ Below w.heap.size w w' := by
  have HN : Hid (zs.length = n) := hn
  have HL : Hid (l0.length = nl) := hnl
  have HK : Hid (R.length = k) := hk
  have HMB : Hid (∀ v ∈ [m0, m1, m2, m3, m4, m5, m6, m7], -9223372036854775808 ≤ v ∧ v ≤ 9223372036854775807) := hmb
  have HRB : Hid (∀ r ∈ R, -9223372036854775808 ≤ r.2.2 ∧ r.2.2 ≤ 9223372036854775807) := hRb
  obtain ⟨g, hg⟩ : ∃ g, w.heap.size = g := ⟨_, rfl⟩
  have HG : Hid (w.heap.size = g) := hg
  have B0 : Below w.heap.size w (w.alloc (.cells #[.int .i64 pc, .int .i64 m0, .int .i64 m1, .int .i64 m2, .int .i64 m3, .int .i64 m4, .int .i64 m5, .int .i64 m6, .int .i64 m7, .slice q k d, .bool ov] 47)) := (Below.refl _ _).alloc (Nat.le_refl _) _
  have R0 : (w.alloc (.cells #[.int .i64 pc, .int .i64 m0, .int .i64 m1, .int .i64 m2, .int .i64 m3, .int .i64 m4, .int .i64 m5, .int .i64 m6, .int .i64 m7, .slice q k d, .bool ov] 47)).heap[g]? = some (.cells #[.int .i64 pc, .int .i64 m0, .int .i64 m1, .int .i64 m2, .int .i64 m3, .int .i64 m4, .int .i64 m5, .int .i64 m6, .int .i64 m7, .slice q k d, .bool ov] 47 (0, 0)) := heap_at hg
  have z0 : (w.alloc (.cells #[.int .i64 pc, .int .i64 m0, .int .i64 m1, .int .i64 m2, .int .i64 m3, .int .i64 m4, .int .i64 m5, .int .i64 m6, .int .i64 m7, .slice q k d, .bool ov] 47)).heap.size = g + 1 := by simp [hg]
  clear hn hnl hk hmb hRb hg
  by_cases c1 : 80 < n
  · have d1 : decide ((80 : Int) < (n : Int)) = true := by simp; omega
    go_enter Try.func8, Try.ntmps8
    go_wp2_with (go_at_call 16; refine (begun_any _).mono ?_; rintro e w1 ⟨rfl, b1⟩)
    go_ret
    exact ⟨rfl, B0.trans (b1.mono (by rw [z0, HG.out]; omega))⟩
  have d1 : decide ((80 : Int) < (n : Int)) = false := by simp; omega
  by_cases c2 : 30 < nl
  · have d2 : decide ((30 : Int) < (nl : Int)) = true := by simp; omega
    go_enter Try.func8, Try.ntmps8
    go_wp2_with (go_at_call 16; refine (begun_any _).mono ?_; rintro e w1 ⟨rfl, b1⟩)
    go_ret
    exact ⟨rfl, B0.trans (b1.mono (by rw [z0, HG.out]; omega))⟩
  have d2 : decide ((30 : Int) < (nl : Int)) = false := by simp; omega
  by_cases c3 : 5 < k
  · have d3 : decide ((5 : Int) < (k : Int)) = true := by simp; omega
    go_enter Try.func8, Try.ntmps8
    go_wp2_with (go_at_call 16; refine (begun_any _).mono ?_; rintro e w1 ⟨rfl, b1⟩
                 have y9 : w1.cell? ⟨w.heap.size, 9, none⟩ = some (.slice q k d) := by rw [HG.out, cell_of_row _ _ _ _ _ _ (keepc b1 R0)]; rfl)
    go_ret
    exact ⟨rfl, B0.trans (b1.mono (by rw [z0, HG.out]; omega))⟩
  have d3 : decide ((5 : Int) < (k : Int)) = false := by simp; omega
  have h1000 : n ≤ 1000 := by omega
  go_enter Try.func8, Try.ntmps8
  go_wp2_with (first
    | (go_at_call 16; refine (begun_any _).mono ?_; rintro e w1 ⟨rfl, b1⟩
       have r1 := keepc b1 R0
       have y9 : w1.cell? ⟨w.heap.size, 9, none⟩ = some (.slice q k d) := by rw [HG.out, cell_of_row _ _ _ _ _ _ r1]; rfl
       have B1 := B0.trans (b1.mono (by rw [z0, HG.out]; omega))
       have z1 := b1.size
       rw [z0] at z1)
    | (go_at_call 17; refine (vnarrow V X _ hV0 hV1).mono ?_; rintro e w2 ⟨rfl, rfl⟩)
    | (go_at_call 18; refine (narrow_ex V X _).mono ?_; rintro e w2 ⟨rfl, rfl⟩)
    | (go_at_call 19; refine (vshift V X _ hV0 hV1).mono ?_; rintro e w2 ⟨rfl, rfl⟩)
    | (go_at_call 20; refine (shift_ex V X _ hV0 hV1).mono ?_; rintro e w2 ⟨rfl, rfl⟩)
    | (go_at_call 22; refine (vnew_any _ _).mono ?_; rintro e w3 ⟨rfl, b3⟩; have B3 := b3)
    | (go_at_call 23; refine (newm_any _ _).mono ?_; rintro e w4 ⟨rfl, b4⟩; have B4 := b3.trans (b4.mono b3.size))
    | (go_at_call 21; (with_reducible (refine (same_lit 0 V 0 0 0 0 0 0 0 none none 0 0 0 false [] _ (rd_nil _) (rd_nil _) rfl (by decide)).mono ?_)); rintro e w5 ⟨rfl, b5⟩
       have B5 := B4.trans (b5.mono B4.size)
       have r5 := keepc B5 r1
       have BB5 := B1.trans (B5.mono (by rw [HG.out]; omega))
       have hp5 := hp.below BB5
       have z5 := B5.size
       clear b3 B3 b4 B4 b5 y9)
    | (go_at_call 10; (with_reducible (refine (made_any p c zs _ n HN.out h1000 hp5 hbz).mono ?_)); rintro e w6 ⟨rfl, pk6, hb6, hs6⟩)
    | (go_at_call 12; (with_reducible (refine (wild_any w5.heap.size _ pk6).mono ?_)); (rintro e w7 ⟨p7, n7, c7, l7, rfl, ⟨o7, a7, e7, pk7, kp7⟩, g7, g7', _⟩)))
  have BB6 := BB5.trans (hb6.mono (by rw [HG.out]; omega))
  have BB7 : Below w.heap.size w w7 := BB6.trans (kp7.below (B := w.heap.size) (by rw [HG.out]; omega) (by rw [HG.out]; omega))
  have B57 : Below (g + 1) w5 w7 := (hb6.mono (by omega)).trans (kp7.below (B := g + 1) (by omega) (by omega))
  have r7 : w7.heap[g]? = _ := (B57.block g (by omega)).trans r5
  have hRw : Rws (w7.alloc (Obj.cells #[Value.slice p7 n7 c7, Value.slice pl nl cl] 22)) w7.heap.size [l7, l0] :=
    Rws.two (heap_alloc_new _ _) ((own_rd o7).below ((Below.refl _ _).alloc (Nat.le_refl _) _)) e7 ((rd_under hl0 BB7 (rd_own8 hl0)).below ((Below.refl _ _).alloc (Nat.le_refl _) _)) HL.out
  have hR8 : Rd eRp (w7.alloc (Obj.cells #[Value.slice p7 n7 c7, Value.slice pl nl cl] 22)) q d R := (rd_under hR BB7 (rd_own8 hR)).below ((Below.refl _ _).alloc (Nat.le_refl _) _)
  have r8 := up1 (x := Obj.cells #[Value.slice p7 n7 c7, Value.slice pl nl cl] 22) r7
  have BB8 : Below w.heap.size w (w7.alloc (Obj.cells #[Value.slice p7 n7 c7, Value.slice pl nl cl] 22)) := BB7.alloc BB7.size _
  have hAll : ∀ l ∈ [l7, l0], l.length ≤ 30 := by
    intro l hl
    simp at hl
    rcases hl with rfl | rfl
    · omega
    · rw [HL.out]; omega
  have hP2 : [l7, l0].length = 2 := rfl
  have z7 := BB7.size
  generalize [l7, l0] = P at *
  generalize (w7.alloc (Obj.cells #[Value.slice p7 n7 c7, Value.slice pl nl cl] 22)) = w8 at *
  generalize w7.heap.size = b8 at *
  clear hR hl0 hp hp5 r5 r7 r1 R0 z0 z1 z5 hb6 hs6 pk6 o7 e7 a7 pk7 kp7 g7 g7' B57 BB6 BB7 BB5 B5 B1 B0 b1 z7
  go_loopw [12] (fun i wr => ∃ kk : Nat, kk ≤ 2 ∧ i = .int .i64 kk ∧ Below w8.heap.size w8 wr) (fun i _ => 2 - (intOf i).toNat)
  case atStart => exact ⟨0, by omega, rfl, Below.refl _ _⟩
  case round =>
    obtain ⟨kk, hkk, rfl, hbw⟩ := hrel
    by_cases hlt : kk < 2
    · have hkP : kk < P.length := by omega
      obtain ⟨ql, dl, hcell, hrd⟩ := (hRw.below hbw).2 kk hkP
      have hbb := (hRw.below hbw).1
      have hl30 := hAll _ (List.getElem_mem hkP)
      generalize P[kk] = l at *
      obtain ⟨m, hm⟩ : ∃ m, l.length = m := ⟨_, rfl⟩
      have HM : Hid (l.length = m) := hm
      rw [hm] at hcell hl30
      have r9 := keepc hbw r8
      have hR9 := hR8.below hbw
      have BBr := BB8.trans (hbw.mono BB8.size)
      clear hm hRw hAll hP2 r8 hR8
      go_wp2
      have lg := lt_of_block r9
      have HG9 : wr.heap[w.heap.size]? = some (.cells #[.int .i64 pc, .int .i64 m0, .int .i64 m1, .int .i64 m2, .int .i64 m3, .int .i64 m4, .int .i64 m5, .int .i64 m6, .int .i64 m7, .slice q k d, .bool ov] 47 (0, 0)) := by rw [HG.out]; exact r9
      refine wp_region_held_drew (S := fun w' => Below wr.heap.size wr w') (by kernel_rfl) (Below.refl _ _).drew (fun hHeld => ?_)
      refine wpAnyH_take (i := 0) (oi := _) (v := .agg #[.int .i64 pc, .int .i64 m0, .int .i64 m1, .int .i64 m2, .int .i64 m3, .int .i64 m4, .int .i64 m5, .int .i64 m6, .int .i64 m7, .slice q k d, .bool ov]) rfl (by kernel_rfl) (by kernel_rfl) (by kernel_rfl) (fun _ _ _ h => h) (Or.inl ⟨by rfl, fun w' hSw => load_yields 47 (.tmp 7) rfl w.heap.size rfl (run_loadVar_row w' w.heap.size 47 47 _ (0, 0) _ ((hSw.block w.heap.size (by rw [HG.out]; exact lg)).trans HG9) Try.underlying47 rfl info38)⟩) hHeld ?_
      try simp only [Act.put, List.getElem_toArray, List.getElem_cons_zero, List.setIfInBounds_toArray, List.set_cons_zero, List.set_cons_succ]
      refine wpAnyH_take (i := 1) (oi := _) (v := .agg #[.int .i64 pc, .int .i64 m0, .int .i64 m1, .int .i64 m2, .int .i64 m3, .int .i64 m4, .int .i64 m5, .int .i64 m6, .int .i64 m7, .slice q k d, .bool ov]) rfl (by kernel_rfl) (by kernel_rfl) (by kernel_rfl) (fun _ _ _ h => h) (Or.inl ⟨by rfl, fun w' hSw => load_yields 47 (.tmp 7) rfl w.heap.size rfl (run_loadVar_row w' w.heap.size 47 47 _ (0, 0) _ ((hSw.block w.heap.size (by rw [HG.out]; exact lg)).trans HG9) Try.underlying47 rfl info38)⟩) hHeld ?_
      try simp only [Act.put, List.getElem_toArray, List.getElem_cons_succ, List.getElem_cons_zero, List.setIfInBounds_toArray, List.set_cons_zero, List.set_cons_succ]
      refine wpAnyH_take (i := 2) (oi := _) (v := ?_) rfl (by kernel_rfl) (by kernel_rfl) (by kernel_rfl) (fun _ _ _ h => h) (Or.inl ⟨by rfl, ?_⟩) hHeld ?_
      rotate_left
      · intro w' hSw
        (go_simp <;> with_reducible rfl)
      try simp only [Act.put, List.getElem_toArray, List.getElem_cons_succ, List.getElem_cons_zero, List.setIfInBounds_toArray, List.set_cons_zero, List.set_cons_succ]
      refine wpAnyH_ready (rs := [3]) (by kernel_rfl) (by simp) ?_
      refine AllReadyH.cons (o := _) rfl (fun K hK => ?_) AllReadyH.nil
      go_simp
      go_at_call 23; refine (newm_any _ _).mono ?_; rintro e w9 ⟨rfl, b9'⟩
      have b9 : Below wr.heap.size wr w9 := (Below.refl _ _).drew.trans b9'
      refine hK.out _ _ b9 (fun _ => ?_)
      refine wpAnyH_weaken (S' := fun w' => Below w9.heap.size w9 w') (fun w' h => bel_call b9 (Nat.le_refl _) h) _ _ _ _ ?_
      clear hHeld hK K
      have hHeld : Below w9.heap.size w9 w9 := Below.refl _ _
      try simp only [Act.put, List.getElem_toArray, List.getElem_cons_succ, List.getElem_cons_zero, List.setIfInBounds_toArray, List.set_cons_zero, List.set_cons_succ]
      refine wpAnyH_ready (rs := [4]) (by kernel_rfl) (by simp) ?_
      refine AllReadyH.cons (o := _) rfl (fun K hK => ?_) AllReadyH.nil
      go_simp
      refine hK.out _ _ ((Below.refl _ _).alloc (Nat.le_refl _) _) (fun hHeld => ?_)
      clear hK K
      try simp only [Act.put, List.getElem_toArray, List.getElem_cons_succ, List.getElem_cons_zero, List.setIfInBounds_toArray, List.set_cons_zero, List.set_cons_succ]
      refine wpAnyH_take (i := 5) (oi := _) (v := ?_) rfl (by kernel_rfl) (by kernel_rfl) (by kernel_rfl) (fun _ _ _ h => h) (Or.inl ⟨by rfl, ?_⟩) hHeld ?_
      rotate_left
      · intro w' hSw
        (go_simp <;> with_reducible rfl)
      try simp only [Act.put, List.getElem_toArray, List.getElem_cons_succ, List.getElem_cons_zero, List.setIfInBounds_toArray, List.set_cons_zero, List.set_cons_succ]
      refine wpAnyH_done (by kernel_rfl) ?_ _
      have R10 : (w9.alloc (.cells #[.int .i64 pc, .int .i64 m0, .int .i64 m1, .int .i64 m2, .int .i64 m3, .int .i64 m4, .int .i64 m5, .int .i64 m6, .int .i64 m7, .slice q k d, .bool ov, .int .i64 pc, .int .i64 m0, .int .i64 m1, .int .i64 m2, .int .i64 m3, .int .i64 m4, .int .i64 m5, .int .i64 m6, .int .i64 m7, .slice q k d, .bool ov, .int .i64 0, .int .i64 V, .int .i64 0, .int .i64 0, .int .i64 0, .int .i64 0, .int .i64 0, .int .i64 0, .int .i64 0, .slice none 0 0, .bool false] 47)).heap[w9.heap.size]? = some (.cells #[.int .i64 pc, .int .i64 m0, .int .i64 m1, .int .i64 m2, .int .i64 m3, .int .i64 m4, .int .i64 m5, .int .i64 m6, .int .i64 m7, .slice q k d, .bool ov, .int .i64 pc, .int .i64 m0, .int .i64 m1, .int .i64 m2, .int .i64 m3, .int .i64 m4, .int .i64 m5, .int .i64 m6, .int .i64 m7, .slice q k d, .bool ov, .int .i64 0, .int .i64 V, .int .i64 0, .int .i64 0, .int .i64 0, .int .i64 0, .int .i64 0, .int .i64 0, .int .i64 0, .slice none 0 0, .bool false] 47 (0, 0)) := heap_at rfl
      have z9 := b9.size
      have b10 : Below wr.heap.size wr (w9.alloc (.cells #[.int .i64 pc, .int .i64 m0, .int .i64 m1, .int .i64 m2, .int .i64 m3, .int .i64 m4, .int .i64 m5, .int .i64 m6, .int .i64 m7, .slice q k d, .bool ov, .int .i64 pc, .int .i64 m0, .int .i64 m1, .int .i64 m2, .int .i64 m3, .int .i64 m4, .int .i64 m5, .int .i64 m6, .int .i64 m7, .slice q k d, .bool ov, .int .i64 0, .int .i64 V, .int .i64 0, .int .i64 0, .int .i64 0, .int .i64 0, .int .i64 0, .int .i64 0, .int .i64 0, .slice none 0 0, .bool false] 47)) := b9.alloc z9 _
      have z10 : (w9.alloc (.cells #[.int .i64 pc, .int .i64 m0, .int .i64 m1, .int .i64 m2, .int .i64 m3, .int .i64 m4, .int .i64 m5, .int .i64 m6, .int .i64 m7, .slice q k d, .bool ov, .int .i64 pc, .int .i64 m0, .int .i64 m1, .int .i64 m2, .int .i64 m3, .int .i64 m4, .int .i64 m5, .int .i64 m6, .int .i64 m7, .slice q k d, .bool ov, .int .i64 0, .int .i64 V, .int .i64 0, .int .i64 0, .int .i64 0, .int .i64 0, .int .i64 0, .int .i64 0, .int .i64 0, .slice none 0 0, .bool false] 47)).heap.size = w9.heap.size + 1 := by simp
      generalize (w9.alloc (.cells #[.int .i64 pc, .int .i64 m0, .int .i64 m1, .int .i64 m2, .int .i64 m3, .int .i64 m4, .int .i64 m5, .int .i64 m6, .int .i64 m7, .slice q k d, .bool ov, .int .i64 pc, .int .i64 m0, .int .i64 m1, .int .i64 m2, .int .i64 m3, .int .i64 m4, .int .i64 m5, .int .i64 m6, .int .i64 m7, .slice q k d, .bool ov, .int .i64 0, .int .i64 V, .int .i64 0, .int .i64 0, .int .i64 0, .int .i64 0, .int .i64 0, .int .i64 0, .int .i64 0, .slice none 0 0, .bool false] 47)) = w10 at *
      generalize w9.heap.size = gm at *
      clear b9' b9 hHeld
      have r10 : w10.heap[w.heap.size]? = _ := keepc b10 HG9
      have y0 : w10.cell? ⟨w.heap.size, 0, none⟩ = some (.int .i64 pc) := by rw [cell_of_row _ _ _ _ _ _ r10]; rfl
      have y11 : w10.cell? ⟨gm, 11, none⟩ = some (.int .i64 pc) := by rw [cell_of_row _ _ _ _ _ _ R10]; rfl
      have y21 : w10.cell? ⟨gm, 21, none⟩ = some (.bool ov) := by rw [cell_of_row _ _ _ _ _ _ R10]; rfl
      have f11 : w10.frozen? ⟨gm, 11, none⟩ = false := frozen_of_row _ _ _ _ _ R10
      have f21 : w10.frozen? ⟨gm, 21, none⟩ = false := frozen_of_row _ _ _ _ _ R10
      by_cases hm0 : m = 0
      · have hd0 : decide ((0 : Int) < (m : Int)) = false := decide_eq_false (by omega)
        have hd1 : decide (0 < m) = false := decide_eq_false (by omega)
        clear y0 y11 y21 f11 f21 r10 z10 hm0
        go_wp2
        have HRZ : Hid (w10.heap[gm]? = some (.cells #[.int .i64 pc, .int .i64 m0, .int .i64 m1, .int .i64 m2, .int .i64 m3, .int .i64 m4, .int .i64 m5, .int .i64 m6, .int .i64 m7, .slice q k d, .bool ov, .int .i64 pc, .int .i64 m0, .int .i64 m1, .int .i64 m2, .int .i64 m3, .int .i64 m4, .int .i64 m5, .int .i64 m6, .int .i64 m7, .slice q k d, .bool ov, .int .i64 0, .int .i64 V, .int .i64 0, .int .i64 0, .int .i64 0, .int .i64 0, .int .i64 0, .int .i64 0, .int .i64 0, .slice none 0 0, .bool false] 47 (0, 0))) := R10
        clear R10
        obtain ⟨wo, hwo⟩ : ∃ wo : World, wo = wr := ⟨_, rfl⟩
        subst hwo
        go_loopw [15] (fun t wr => ∃ j : Nat, j ≤ 3 ∧ t = .int .i64 j ∧ Below w10.heap.size w10 wr) (fun t _ => 3 - (intOf t).toNat)
        case atStart => exact ⟨0, by omega, rfl, Below.refl _ _⟩
        case round =>
          obtain ⟨j, hj, rfl, hbx⟩ := hrel
          have hBx : Below wo.heap.size wo wr := b10.trans (hbx.mono b10.size)
          by_cases hj3 : j < 3
          · have rx := keepc hbx HRZ.out
            have lx := lt_of_block rx
            obtain ⟨sc, s0, s1, s2, s3, s4, s5, s6, s7, sq, sk, sd, so, S, rng, hS, hsk, hsk5, hsb, hSb⟩ := three_at wr gm pc pc m0 m1 m2 m3 m4 m5 m6 m7 V q k d ov ov R rx (hR9.below hBx) HK.out (by omega) HMB.out HRB.out hV0 hV1 j hj3
            obtain ⟨⟨pcF, memF, RF, ovF, ⟨xo, xa, xb, xn⟩, ok⟩, hF⟩ : ∃ y, stepF l sc [s0, s1, s2, s3, s4, s5, s6, s7] S so = y := ⟨_, rfl⟩
            obtain ⟨hFl, hRl⟩ := stepF_len8 (by rfl) hF
            obtain ⟨a0, a1, a2, a3, a4, a5, a6, a7, rfl⟩ := eight hFl
            have HF : Hid (stepF l sc [s0, s1, s2, s3, s4, s5, s6, s7] S so = (pcF, [a0, a1, a2, a3, a4, a5, a6, a7], RF, ovF, (xo, xa, xb, xn), ok)) := hF
            obtain ⟨kF, hkF⟩ : ∃ kF, RF.length = kF := ⟨_, rfl⟩
            have HKF : Hid (RF.length = kF) := hkF
            have HSK : Hid (S.length = sk) := hsk
            have HSB : Hid (∀ v ∈ [s0, s1, s2, s3, s4, s5, s6, s7], -9223372036854775808 ≤ v ∧ v ≤ 9223372036854775807) := hsb
            have HSR : Hid (∀ r ∈ S, -9223372036854775808 ≤ r.2.2 ∧ r.2.2 ≤ 9223372036854775807) := hSb
            have hkF3 : kF ≤ 1001 := by omega
            have hrdx := hrd.below hBx
            have dj : decide ((j : Int) < 3) = true := decide_eq_true (by omega)
            have dj2 : decide (j < 3) = true := decide_eq_true hj3
            have hoo : (ok == ok) = true := by simp
            have hx1 : (xo == xo) = true := by simp
            have hx2 : (xa == xa) = true := by simp
            have hx3 : (xb == xb) = true := by simp
            have hx4 : (xn == xn) = true := by simp
            clear hF hFl hRl hkF hsk hsb hSb rx
            go_wp2_with (first
              | (refine wpList_load_mid rfl 47 (.tmp 108) rfl gm (j * 11) rfl [.int .i64 sc, .int .i64 s0, .int .i64 s1, .int .i64 s2, .int .i64 s3, .int .i64 s4, .int .i64 s5, .int .i64 s6, .int .i64 s7, .slice sq sk sd, .bool so] _ rng Try.underlying47 rfl info38 ?_)
              | (go_at_call 24; (with_reducible (refine (vstep_c ql dl l _ hrdx m HM.out (by omega) sc s0 s1 s2 s3 s4 s5 s6 s7 HSB.out sq sd sk S hS HSK.out (by omega) HSR.out so pcF a0 a1 a2 a3 a4 a5 a6 a7 RF ovF xo xa xb xn ok kF HF.out HKF.out).mono ?_)); rintro e wA ⟨⟨q9, d9, rfl, o9⟩, bA⟩
                 have rngA := rng_below rng bA lx
                 have hrdA := hrdx.below bA
                 have hSA := hS.below bA
                 have zA := bA.size)
              | (refine wpList_load_mid rfl 47 (.tmp 118) rfl gm (j * 11) rfl [.int .i64 sc, .int .i64 s0, .int .i64 s1, .int .i64 s2, .int .i64 s3, .int .i64 s4, .int .i64 s5, .int .i64 s6, .int .i64 s7, .slice sq sk sd, .bool so] _ (World.rangeAt_alloc (World.rangeAt_alloc rngA _) _) Try.underlying47 rfl info38 ?_)
              | (go_at_call 25; (refine (rstep_c ql dl l _ (rd_al (rd_al hrdA _) _) m HM.out (by omega) sc s0 s1 s2 s3 s4 s5 s6 s7 HSB.out sq sd sk S (rd_al (rd_al hSA _) _) HSK.out (by omega) HSR.out so pcF a0 a1 a2 a3 a4 a5 a6 a7 RF ovF xo xa xb xn ok kF HF.out HKF.out).mono ?_); rintro e wB ⟨⟨q10, d10, rfl, o10⟩, bB⟩
                 have rA := keepc bB (up1 (heap_at (w := wA) rfl))
                 have rX := keepc bB (heap_at (w := wA.alloc _) (k := wA.heap.size + 1) (by simp))
                 have oA := own_below (own_al (own_al o9 _) _) bB
                 have BB : Below wr.heap.size wr wB := ((bA.alloc zA _).alloc (by simp; omega) _).trans (bB.mono (by simp; omega))
                 have zB := BB.size)
              | (refine wpList_load_row rfl 47 (.tmp 16) rfl wA.heap.size rfl 47 #[.int .i64 pcF, .int .i64 a0, .int .i64 a1, .int .i64 a2, .int .i64 a3, .int .i64 a4, .int .i64 a5, .int .i64 a6, .int .i64 a7, .slice q9 kF d9, .bool ovF] (0, 0) _ (up1 (up1 rA)) Try.underlying47 rfl info38 ?_)
              | (refine wpList_load_row rfl 47 (.tmp 19) rfl wB.heap.size rfl 47 #[.int .i64 pcF, .int .i64 a0, .int .i64 a1, .int .i64 a2, .int .i64 a3, .int .i64 a4, .int .i64 a5, .int .i64 a6, .int .i64 a7, .slice q10 kF d10, .bool ovF] (0, 0) _ (up1 (heap_at (w := wB) rfl)) Try.underlying47 rfl info38 ?_)
              | (go_at_call 21; (with_reducible (refine (same_lit pcF a0 a1 a2 a3 a4 a5 a6 a7 q9 q10 kF d9 d10 ovF RF _ (own_rd (own_al (own_al oA _) _)) (own_rd (own_al (own_al o10 _) _)) HKF.out hkF3).mono ?_)); rintro e wC ⟨rfl, bC⟩
                 have rXC := keepc bC (up1 (up1 rX))
                 have rYC := keepc bC (heap_at (w := wB.alloc _) (k := wB.heap.size + 1) (by simp))
                 have lXC := lt_of_block rXC
                 have lYC := lt_of_block rYC
                 have cx0 : wC.cell? ⟨wA.heap.size + 1, 0, none⟩ = some (.int .i64 xo) := by rw [cell_of_row _ _ _ _ _ _ rXC]; rfl
                 have cx1 : wC.cell? ⟨wA.heap.size + 1, 1, none⟩ = some (.int .i64 xa) := by rw [cell_of_row _ _ _ _ _ _ rXC]; rfl
                 have cx2 : wC.cell? ⟨wA.heap.size + 1, 2, none⟩ = some (.int .i64 xb) := by rw [cell_of_row _ _ _ _ _ _ rXC]; rfl
                 have cx3 : wC.cell? ⟨wA.heap.size + 1, 3, none⟩ = some (.int .i64 xn) := by rw [cell_of_row _ _ _ _ _ _ rXC]; rfl
                 have cy0 : wC.cell? ⟨wB.heap.size + 1, 0, none⟩ = some (.int .i64 xo) := by rw [cell_of_row _ _ _ _ _ _ rYC]; rfl
                 have cy1 : wC.cell? ⟨wB.heap.size + 1, 1, none⟩ = some (.int .i64 xa) := by rw [cell_of_row _ _ _ _ _ _ rYC]; rfl
                 have cy2 : wC.cell? ⟨wB.heap.size + 1, 2, none⟩ = some (.int .i64 xb) := by rw [cell_of_row _ _ _ _ _ _ rYC]; rfl
                 have cy3 : wC.cell? ⟨wB.heap.size + 1, 3, none⟩ = some (.int .i64 xn) := by rw [cell_of_row _ _ _ _ _ _ rYC]; rfl
                 have BC : Below wr.heap.size wr wC := ((BB.alloc zB _).alloc (by simp; omega) _).trans (bC.mono (by simp; omega))))
            go_roundw
            case rel => exact ⟨j + 1, by omega, by go_num, hbx.trans (BC.mono hbx.size)⟩
            case measure => simp [intOf]; omega
          · have dj : decide ((j : Int) < 3) = false := decide_eq_false (by omega)
            have dj2 : decide (j < 3) = false := decide_eq_false hj3
            go_wp2
            go_roundw
            case rel => exact ⟨kk + 1, by omega, by go_num, hbw.trans (hBx.mono hbw.size)⟩
            case measure => simp [intOf]; omega
      · have hd0 : decide ((0 : Int) < (m : Int)) = true := decide_eq_true (by omega)
        have hd1 : decide (0 < m) = true := decide_eq_true (by omega)
        have hmi : ((m : Int) == 0) = false := by simp; omega
        obtain ⟨A, hA⟩ : ∃ A, pc.tmod (m : Int) = A := ⟨_, rfl⟩
        obtain ⟨P2, hP2⟩ : ∃ P2, (wrap64 (A + (m : Int))).tmod (m : Int) = P2 := ⟨_, rfl⟩
        go_wp2
        have e11 := heap_setCell_same w10 gm 11 _ _ (.int .i64 P2) R10
        have e21 := heap_setCell_same (w10.setCell ⟨gm, 11, none⟩ (.int .i64 P2)) gm 21 _ _ (.bool false) e11
        have RZ : ((w10.setCell ⟨gm, 11, none⟩ (.int .i64 P2)).setCell ⟨gm, 21, none⟩ (.bool false)).heap[gm]? = some (.cells #[.int .i64 pc, .int .i64 m0, .int .i64 m1, .int .i64 m2, .int .i64 m3, .int .i64 m4, .int .i64 m5, .int .i64 m6, .int .i64 m7, .slice q k d, .bool ov, .int .i64 P2, .int .i64 m0, .int .i64 m1, .int .i64 m2, .int .i64 m3, .int .i64 m4, .int .i64 m5, .int .i64 m6, .int .i64 m7, .slice q k d, .bool false, .int .i64 0, .int .i64 V, .int .i64 0, .int .i64 0, .int .i64 0, .int .i64 0, .int .i64 0, .int .i64 0, .int .i64 0, .slice none 0 0, .bool false] 47 (0, 0)) := e21
        have BZ : Below wr.heap.size wr ((w10.setCell ⟨gm, 11, none⟩ (.int .i64 P2)).setCell ⟨gm, 21, none⟩ (.bool false)) := (b10.setCell z9 _).setCell z9 _
        clear hA hP2 e11 e21 y0 y11 y21 f11 f21 r10 R10 z10
        generalize ((w10.setCell ⟨gm, 11, none⟩ (.int .i64 P2)).setCell ⟨gm, 21, none⟩ (.bool false)) = wz at RZ BZ ⊢
        have HRZ : Hid (wz.heap[gm]? = some (.cells #[.int .i64 pc, .int .i64 m0, .int .i64 m1, .int .i64 m2, .int .i64 m3, .int .i64 m4, .int .i64 m5, .int .i64 m6, .int .i64 m7, .slice q k d, .bool ov, .int .i64 P2, .int .i64 m0, .int .i64 m1, .int .i64 m2, .int .i64 m3, .int .i64 m4, .int .i64 m5, .int .i64 m6, .int .i64 m7, .slice q k d, .bool false, .int .i64 0, .int .i64 V, .int .i64 0, .int .i64 0, .int .i64 0, .int .i64 0, .int .i64 0, .int .i64 0, .int .i64 0, .slice none 0 0, .bool false] 47 (0, 0))) := RZ
        clear RZ
        obtain ⟨wo, hwo⟩ : ∃ wo : World, wo = wr := ⟨_, rfl⟩
        subst hwo
        go_loopw [15] (fun t wr => ∃ j : Nat, j ≤ 3 ∧ t = .int .i64 j ∧ Below wz.heap.size wz wr) (fun t _ => 3 - (intOf t).toNat)
        case atStart => exact ⟨0, by omega, rfl, Below.refl _ _⟩
        case round =>
          obtain ⟨j, hj, rfl, hbx⟩ := hrel
          have hBx : Below wo.heap.size wo wr := BZ.trans (hbx.mono BZ.size)
          by_cases hj3 : j < 3
          · have rx := keepc hbx HRZ.out
            have lx := lt_of_block rx
            obtain ⟨sc, s0, s1, s2, s3, s4, s5, s6, s7, sq, sk, sd, so, S, rng, hS, hsk, hsk5, hsb, hSb⟩ := three_at wr gm pc P2 m0 m1 m2 m3 m4 m5 m6 m7 V q k d ov false R rx (hR9.below hBx) HK.out (by omega) HMB.out HRB.out hV0 hV1 j hj3
            obtain ⟨⟨pcF, memF, RF, ovF, ⟨xo, xa, xb, xn⟩, ok⟩, hF⟩ : ∃ y, stepF l sc [s0, s1, s2, s3, s4, s5, s6, s7] S so = y := ⟨_, rfl⟩
            obtain ⟨hFl, hRl⟩ := stepF_len8 (by rfl) hF
            obtain ⟨a0, a1, a2, a3, a4, a5, a6, a7, rfl⟩ := eight hFl
            have HF : Hid (stepF l sc [s0, s1, s2, s3, s4, s5, s6, s7] S so = (pcF, [a0, a1, a2, a3, a4, a5, a6, a7], RF, ovF, (xo, xa, xb, xn), ok)) := hF
            obtain ⟨kF, hkF⟩ : ∃ kF, RF.length = kF := ⟨_, rfl⟩
            have HKF : Hid (RF.length = kF) := hkF
            have HSK : Hid (S.length = sk) := hsk
            have HSB : Hid (∀ v ∈ [s0, s1, s2, s3, s4, s5, s6, s7], -9223372036854775808 ≤ v ∧ v ≤ 9223372036854775807) := hsb
            have HSR : Hid (∀ r ∈ S, -9223372036854775808 ≤ r.2.2 ∧ r.2.2 ≤ 9223372036854775807) := hSb
            have hkF3 : kF ≤ 1001 := by omega
            have hrdx := hrd.below hBx
            have dj : decide ((j : Int) < 3) = true := decide_eq_true (by omega)
            have dj2 : decide (j < 3) = true := decide_eq_true hj3
            have hoo : (ok == ok) = true := by simp
            have hx1 : (xo == xo) = true := by simp
            have hx2 : (xa == xa) = true := by simp
            have hx3 : (xb == xb) = true := by simp
            have hx4 : (xn == xn) = true := by simp
            clear hF hFl hRl hkF hsk hsb hSb rx
            go_wp2_with (first
              | (refine wpList_load_mid rfl 47 (.tmp 108) rfl gm (j * 11) rfl [.int .i64 sc, .int .i64 s0, .int .i64 s1, .int .i64 s2, .int .i64 s3, .int .i64 s4, .int .i64 s5, .int .i64 s6, .int .i64 s7, .slice sq sk sd, .bool so] _ rng Try.underlying47 rfl info38 ?_)
              | (go_at_call 24; (with_reducible (refine (vstep_c ql dl l _ hrdx m HM.out (by omega) sc s0 s1 s2 s3 s4 s5 s6 s7 HSB.out sq sd sk S hS HSK.out (by omega) HSR.out so pcF a0 a1 a2 a3 a4 a5 a6 a7 RF ovF xo xa xb xn ok kF HF.out HKF.out).mono ?_)); rintro e wA ⟨⟨q9, d9, rfl, o9⟩, bA⟩
                 have rngA := rng_below rng bA lx
                 have hrdA := hrdx.below bA
                 have hSA := hS.below bA
                 have zA := bA.size)
              | (refine wpList_load_mid rfl 47 (.tmp 118) rfl gm (j * 11) rfl [.int .i64 sc, .int .i64 s0, .int .i64 s1, .int .i64 s2, .int .i64 s3, .int .i64 s4, .int .i64 s5, .int .i64 s6, .int .i64 s7, .slice sq sk sd, .bool so] _ (World.rangeAt_alloc (World.rangeAt_alloc rngA _) _) Try.underlying47 rfl info38 ?_)
              | (go_at_call 25; (refine (rstep_c ql dl l _ (rd_al (rd_al hrdA _) _) m HM.out (by omega) sc s0 s1 s2 s3 s4 s5 s6 s7 HSB.out sq sd sk S (rd_al (rd_al hSA _) _) HSK.out (by omega) HSR.out so pcF a0 a1 a2 a3 a4 a5 a6 a7 RF ovF xo xa xb xn ok kF HF.out HKF.out).mono ?_); rintro e wB ⟨⟨q10, d10, rfl, o10⟩, bB⟩
                 have rA := keepc bB (up1 (heap_at (w := wA) rfl))
                 have rX := keepc bB (heap_at (w := wA.alloc _) (k := wA.heap.size + 1) (by simp))
                 have oA := own_below (own_al (own_al o9 _) _) bB
                 have BB : Below wr.heap.size wr wB := ((bA.alloc zA _).alloc (by simp; omega) _).trans (bB.mono (by simp; omega))
                 have zB := BB.size)
              | (refine wpList_load_row rfl 47 (.tmp 16) rfl wA.heap.size rfl 47 #[.int .i64 pcF, .int .i64 a0, .int .i64 a1, .int .i64 a2, .int .i64 a3, .int .i64 a4, .int .i64 a5, .int .i64 a6, .int .i64 a7, .slice q9 kF d9, .bool ovF] (0, 0) _ (up1 (up1 rA)) Try.underlying47 rfl info38 ?_)
              | (refine wpList_load_row rfl 47 (.tmp 19) rfl wB.heap.size rfl 47 #[.int .i64 pcF, .int .i64 a0, .int .i64 a1, .int .i64 a2, .int .i64 a3, .int .i64 a4, .int .i64 a5, .int .i64 a6, .int .i64 a7, .slice q10 kF d10, .bool ovF] (0, 0) _ (up1 (heap_at (w := wB) rfl)) Try.underlying47 rfl info38 ?_)
              | (go_at_call 21; (with_reducible (refine (same_lit pcF a0 a1 a2 a3 a4 a5 a6 a7 q9 q10 kF d9 d10 ovF RF _ (own_rd (own_al (own_al oA _) _)) (own_rd (own_al (own_al o10 _) _)) HKF.out hkF3).mono ?_)); rintro e wC ⟨rfl, bC⟩
                 have rXC := keepc bC (up1 (up1 rX))
                 have rYC := keepc bC (heap_at (w := wB.alloc _) (k := wB.heap.size + 1) (by simp))
                 have lXC := lt_of_block rXC
                 have lYC := lt_of_block rYC
                 have cx0 : wC.cell? ⟨wA.heap.size + 1, 0, none⟩ = some (.int .i64 xo) := by rw [cell_of_row _ _ _ _ _ _ rXC]; rfl
                 have cx1 : wC.cell? ⟨wA.heap.size + 1, 1, none⟩ = some (.int .i64 xa) := by rw [cell_of_row _ _ _ _ _ _ rXC]; rfl
                 have cx2 : wC.cell? ⟨wA.heap.size + 1, 2, none⟩ = some (.int .i64 xb) := by rw [cell_of_row _ _ _ _ _ _ rXC]; rfl
                 have cx3 : wC.cell? ⟨wA.heap.size + 1, 3, none⟩ = some (.int .i64 xn) := by rw [cell_of_row _ _ _ _ _ _ rXC]; rfl
                 have cy0 : wC.cell? ⟨wB.heap.size + 1, 0, none⟩ = some (.int .i64 xo) := by rw [cell_of_row _ _ _ _ _ _ rYC]; rfl
                 have cy1 : wC.cell? ⟨wB.heap.size + 1, 1, none⟩ = some (.int .i64 xa) := by rw [cell_of_row _ _ _ _ _ _ rYC]; rfl
                 have cy2 : wC.cell? ⟨wB.heap.size + 1, 2, none⟩ = some (.int .i64 xb) := by rw [cell_of_row _ _ _ _ _ _ rYC]; rfl
                 have cy3 : wC.cell? ⟨wB.heap.size + 1, 3, none⟩ = some (.int .i64 xn) := by rw [cell_of_row _ _ _ _ _ _ rYC]; rfl
                 have BC : Below wr.heap.size wr wC := ((BB.alloc zB _).alloc (by simp; omega) _).trans (bC.mono (by simp; omega))))
            go_roundw
            case rel => exact ⟨j + 1, by omega, by go_num, hbx.trans (BC.mono hbx.size)⟩
            case measure => simp [intOf]; omega
          · have dj : decide ((j : Int) < 3) = false := decide_eq_false (by omega)
            have dj2 : decide (j < 3) = false := decide_eq_false hj3
            go_wp2
            go_roundw
            case rel => exact ⟨kk + 1, by omega, by go_num, hbw.trans (hBx.mono hbw.size)⟩
            case measure => simp [intOf]; omega
    · have t1 : decide ((kk : Int) < 2) = false := decide_eq_false (by omega)
      have t2 : decide (kk < 2) = false := decide_eq_false (by omega)
      go_wp2
      go_ret
      exact ⟨rfl, BB8.trans (hbw.mono BB8.size)⟩
theorem vall_any (p : Option Addr) (c : Nat) (n : Nat) (zs : List Int) (pl : Option Addr) (cl nl : Nat) (l0 : List In) (w : World) (hp : Rd eBy w p c zs) (hn : zs.length = n) (hbz : ∀ x ∈ zs, 0 ≤ x ∧ x ≤ 255) (hm1 : n ≤ 9223372036854775807) (hl0 : Rd eIn w pl cl l0) (hnl : l0.length = nl) (hm2 : nl ≤ 9223372036854775807)
    (pc : Int) (mem : List Int) (hm : mem.length = 8) (hmb : ∀ v ∈ mem, -9223372036854775808 ≤ v ∧ v ≤ 9223372036854775807) (q : Option Addr) (k d : Nat) (ov : Bool) (R : List Rp) (hR : Rd eRp w q d R) (hk : R.length = k) (hkm : k ≤ 9223372036854775807) (hRb : ∀ r ∈ R, -9223372036854775808 ≤ r.2.2 ∧ r.2.2 ≤ 9223372036854775807) (V X : Int) (hV0 : -9223372036854775808 ≤ V) (hV1 : V ≤ 9223372036854775807) :
    Calls Try.prog 8 #[.slice p n c, .slice pl nl cl, .agg (mcell pc mem q k d ov), .int .i64 V, .int .i64 X] w fun e w' => e = .returned (.bool true) ∧ Below w.heap.size w w' := by
  obtain ⟨m0, m1, m2, m3, m4, m5, m6, m7, rfl⟩ := eight hm
  exact vall_walk p c n zs pl cl nl l0 w hp hn hbz hm1 hl0 hnl hm2 pc m0 m1 m2 m3 m4 m5 m6 m7 hmb q k d ov R hR hk hkm hRb V X hV0 hV1
end Go.Proofs.Ytboffjabffcddaa
