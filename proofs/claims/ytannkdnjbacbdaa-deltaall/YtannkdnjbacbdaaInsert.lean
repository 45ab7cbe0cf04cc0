/-
  What slices.Insert of one element does with a row of timers that the call owns, by its own Go text.
-/
import Derived.Test.YtannkdnjbacbdaaSlices
namespace Go.Proofs.Ytannkdnjbacbdaa
open Go.ChangeShapes Go.WideShapes Go.ChangeAt Go.RowKit
attribute [local go_sem ↓] Go.wp_at_zero Go.wp_at_succ

/-- l with x at place i. -/
def insT (l : List Tm) (i : Nat) (x : Tm) : List Tm := l.take i ++ x :: l.drop i
theorem insT_length (l : List Tm) (i : Nat) (x : Tm) (h : i ≤ l.length) : (insT l i x).length = l.length + 1 := by simp [insT]; omega
theorem fl_insT (l : List Tm) (i : Nat) (x : Tm) : fl (insT l i x) = fl (l.take i) ++ (fl [x] ++ fl (l.drop i)) := by
  simp [insT, fl_append, fl]

theorem insert_end (p : Option Addr) (c : Nat) (l : List Tm) (base : Nat) (w : World) (hown : Own w base 50 p c l) (hbase : base ≤ w.heap.size) (hl : l.length ≤ 100) (vb : Nat) (x : Tm)
    (hv : w.heap[vb]? = some (.cells #[.int .i64 x.1, .int .i64 x.2] 50 (0, 0))) :
    Calls Try.prog 20 #[.slice p l.length c, .int .i64 l.length, .slice (some ⟨vb, 0, none⟩) 1 1] w fun e w' => ∃ p' c', e = .returned (.slice p' (l.length + 1) c') ∧ Own w' base 50 p' c' (insT l l.length x) ∧ Below base w w' := by
  have hcap := own_cap hown
  obtain ⟨i, hi, hz0, hz1, hz2⟩ := info_parts Try.info50
  obtain ⟨v', w1, hrun, h2, h3, h4, h5⟩ := run_append_own_at (P := Try.prog) w base 24 24 50 i _ 2 16 Try.underlying24 hi hz0 hz1 hz2 rfl (by omega) (.slice p l.length c) l.length (fl l) hown ⟨vb, 0, none⟩ 1 1 (fl [x]) rfl
      (World.news_of_block hv) (fl_one [x]) (by simp only [maxLen]; omega) (by omega) hbase
  obtain ⟨g, cap, rfl, _, _⟩ := World.ownsRow.form h2 (by omega)
  have hlo := World.ownsRow.lt hown
  have hB : Below base w w1 := (Below.refl _ _).grown h3 hbase (fun k hk => (hlo k hk).1)
  have hO : Own w1 base 50 (some ⟨g, 0, none⟩) cap (insT l l.length x) := by
    have : fl l ++ fl [x] = fl (insT l l.length x) := by rw [fl_insT]; simp [fl]
    rw [this] at h2
    unfold Own
    rw [insT_length _ _ _ (Nat.le_refl _)]
    exact h2
  go_enter Try.func20, Try.ntmps20
  cases p with
  | none =>
    obtain ⟨q1, q2⟩ : l = [] ∧ c = 0 := by
      rcases (own_rd hown).at_ with ⟨_, h1, h2⟩ | ⟨b, o, s, h, _, _⟩
      · exact ⟨h1, h2⟩
      · cases h
    subst q1 q2
    go_wp2_with (at_builtin; refine Lib.wpList_append_run _ rfl _ _ 24 24 rfl _ _ rfl rfl _ _ hrun ?_)
    go_ret
    exact ⟨_, _, rfl, hO, hB⟩
  | some a =>
    obtain ⟨ab, ao, asp⟩ := a
    go_wp2_with (at_builtin; refine Lib.wpList_append_run _ rfl _ _ 24 24 rfl _ _ rfl rfl _ _ hrun ?_)
    all_goals (go_ret; exact ⟨_, _, rfl, hO, hB⟩)

set_option maxHeartbeats 4000000 in
theorem insert_room (g c : Nat) (l : List Tm) (base : Nat) (w : World) (hown : Own w base 50 (some ⟨g, 0, none⟩) c l) (hl : l.length ≤ 100) (i : Nat) (hin : i < l.length) (hroom : l.length + 1 ≤ c) (vb : Nat) (x : Tm)
    (hv : w.heap[vb]? = some (.cells #[.int .i64 x.1, .int .i64 x.2] 50 (0, 0))) (hne : vb ≠ g) :
    Calls Try.prog 20 #[.slice (some ⟨g, 0, none⟩) l.length c, .int .i64 i, .slice (some ⟨vb, 0, none⟩) 1 1] w fun e w' => ∃ p' c', e = .returned (.slice p' (l.length + 1) c') ∧ Own w' base 50 p' c' (insT l i x) ∧ Below base w w' := by
  obtain ⟨g', cur, e', h2, h3, h4, h5, h6, h7⟩ := own_open hown (by omega)
  simp only [Option.some.injEq, Addr.mk.injEq, and_true] at e'
  subst e'
  have hov : ∀ lb cb o, (callFunc 27 #[.slice (some ⟨vb, 0, none⟩) 1 1, .slice (some ⟨g, o, none⟩) lb cb]).run Try.prog w = .ok (.value (.bool false)) w := fun lb cb o => by
    rw [run_callFunc_extern Try.func27 (by kernel_rfl) (by kernel_rfl) (by kernel_rfl) (e := Extern.SlicesOverlaps.overlaps #[24, 24] #[4]) (by kernel_rfl),
      Lib.run_overlaps_apart w 24 4 50 Try.underlying24 2 Try.sizeOf50 ⟨vb, 0, none⟩ ⟨g, o, none⟩ 1 1 lb cb hne 50 50 2 cur.length (by simp [World.shape?, hv]) (by simp [World.shape?, h4]) (by omega) (by simp [World.frozen?, hv]) (by simp [World.frozen?, hv])]
    rfl
  have hdl : (fl (l.drop i)).length = (l.length - i) * 2 := by rw [fl_length, List.length_drop]
  obtain ⟨R1, hR1⟩ : ∃ R1, R1 = splice cur ((i + 1) * 2) (fl (l.drop i)) := ⟨_, rfl⟩
  obtain ⟨R2, hR2⟩ : ∃ R2, R2 = splice R1 (i * 2) (fl [x]) := ⟨_, rfl⟩
  have hR1l : R1.length = c * 2 := by rw [hR1, splice_len _ _ _ (by rw [hdl]; omega), h6]
  have hR2l : R2.length = c * 2 := by rw [hR2, splice_len _ _ _ (by rw [fl_length]; simp; omega), hR1l]
  have hrow : R2.take ((l.length + 1) * 2) = fl (insT l i x) := by
    have e1 : R1.take ((l.length + 1) * 2) = cur.take ((i + 1) * 2) ++ fl (l.drop i) := by
      rw [hR1, show (l.length + 1) * 2 = (i + 1) * 2 + (fl (l.drop i)).length by rw [hdl]; omega, splice_take_len _ _ _ (by omega)]
    have e0 : cur.take (i * 2) = fl (l.take i) := by
      rw [← fl_take, ← h7, List.take_take, Nat.min_eq_left (by omega)]
    have e2 : R1.take (i * 2) = fl (l.take i) := by rw [hR1, splice_take_low _ _ _ _ (by omega) (by omega), e0]
    have e3 : (R1.drop (i * 2 + (fl [x]).length)).take ((l.length - i) * 2) = fl (l.drop i) := by
      rw [fl_length]
      have : (R1.take ((l.length + 1) * 2)).drop (i * 2 + 1 * 2) = fl (l.drop i) := by
        rw [e1, List.drop_append]
        simp
        rw [show i * 2 + 2 - min ((i + 1) * 2) cur.length = 0 by omega, List.drop_zero]
        simp; omega
      rw [List.drop_take] at this
      rw [← this]
      simp only [List.length_cons, List.length_nil]
      congr 1; omega
    rw [hR2, fl_insT, ← e3]
    unfold splice
    rw [e2, ← List.append_assoc, ← List.append_assoc, List.take_append]
    have hlen : (fl (l.take i) ++ fl [x]).length = (i + 1) * 2 := by simp [fl_length]; omega
    rw [List.take_of_length_le (by rw [hlen]; omega), hlen]
    congr 2; omega
  have hcp1 : ∀ ty dc sc, (Builtin.copy_ #[24, 24] ty #[.slice (some ⟨g, (i + 1) * 2, none⟩) (l.length - i) dc, .slice (some ⟨g, i * 2, none⟩) (l.length + 1 - i) sc]).run Try.prog w.drew = .ok (goInt (l.length - i)) (w.drew.setRow g R1.toArray) := fun ty dc sc => by
    have := run_copy2 (P := Try.prog) w.drew 24 24 ty 50 g ((i + 1) * 2) (l.length - i) dc ⟨g, i * 2, none⟩ (l.length + 1 - i) sc cur 50 (fl (l.drop i)) Try.underlying24 Try.size50 h4 (by rw [hdl]; simp only [Nat.min_def]; split <;> omega)
      (fun j v hj => by
        rw [add_plain]
        rw [← fl_drop, List.getElem?_drop] at hj
        have := World.ownsRow.cells hown (g := g) rfl _ v hj
        rwa [add_plain, Nat.zero_add] at this)
      (by rw [hdl]; omega) (fl_one _)
    rw [this, hR1]
    congr 2
    simp only [Nat.min_def]; split <;> omega
  have hg1 : (w.drew.setRow g R1.toArray).heap[g]? = some (.cells R1.toArray 50 (0, 0)) := setRow_heap w.drew g _ _ 50 _ h4
  have hv1 : (w.drew.setRow g R1.toArray).heap[vb]? = some (.cells #[.int .i64 x.1, .int .i64 x.2] 50 (0, 0)) := by rw [setRow_other w.drew g vb _ hne]; exact hv
  have hcp2 : ∀ ty dc, (Builtin.copy_ #[24, 24] ty #[.slice (some ⟨g, i * 2, none⟩) (l.length + 1 - i) dc, .slice (some ⟨vb, 0, none⟩) 1 1]).run Try.prog (w.drew.setRow g R1.toArray) = .ok (goInt 1) ((w.drew.setRow g R1.toArray).setRow g R2.toArray) := fun ty dc => by
    have hm : Nat.min 1 (l.length + 1 - i) = 1 := by simp only [Nat.min_def]; split <;> omega
    have := run_copy2 (P := Try.prog) (w.drew.setRow g R1.toArray) 24 24 ty 50 g (i * 2) (l.length + 1 - i) dc ⟨vb, 0, none⟩ 1 1 R1 50 (fl [x]) Try.underlying24 Try.size50 hg1 (by rw [hm]; rfl)
      (World.news_of_block hv1) (by rw [fl_length]; simp; omega) (fl_one _)
    rw [this, hR2, hm]; rfl
  have hB : Below base w ((w.drew.setRow g R1.toArray).setRow g R2.toArray) := below_setRow (below_setRow (Below.refl _ _).drew h2 _) h2 _
  have hO : Own ((w.drew.setRow g R1.toArray).setRow g R2.toArray) base 50 (some ⟨g, 0, none⟩) c (insT l i x) :=
    own_shut h2 (setRow_heap _ g _ _ 50 _ hg1) h5 hR2l (by rw [insT_length _ _ _ (by omega)]; exact hroom) (by rw [insT_length _ _ _ (by omega)]; exact hrow)
  have q1 : ¬ ((i : Int) = (l.length : Int)) := by omega
  have q2 : ¬ (c = i + 1) := by omega
  have q3 : ¬ (c = i) := by omega
  have q4 : ¬ (c = 0) := by omega
  have q5 : ((i : Int) + 1).toNat = i + 1 := by omega
  have q6 : ((l.length : Int) + 1).toNat = l.length + 1 := by omega
  have q8 : IntKind.i64.wrap ((i : Int) + 1) = (i : Int) + 1 := by rw [IntKind.wrap_i64]; omega
  have q9 : (0 : Int) ≤ (i : Int) + 1 := by omega
  have q10 : (i : Int) + 1 ≤ (l.length : Int) + 1 := by omega
  have q11 : (i : Int) ≤ (l.length : Int) + 1 := by omega
  have q12 : i ≤ l.length := by omega
  have q7 : c ≤ 9223372036854775807 := by simp only [maxLen] at h5; omega
  generalize hW1 : w.drew.setRow g R1.toArray = W1 at hcp1 hcp2 hB hO
  generalize hW2 : W1.setRow g R2.toArray = W2 at hcp2 hB hO
  clear hR1 hR2 hrow hR1l hR2l hg1 hv1 h4 h6 h7 hW1 hW2
  go_enter Try.func20, Try.ntmps20
  go_wp2_with (simp only [hov])
  go_region_law (refine step_copy_run rfl _ _ 24 24 rfl _ _ (by simp [Act.eval, Act.put]) (by simp [Act.eval, Act.put]) (hcp1 _ _ _) ?_)
  go_wp2_with (at_builtin; refine wpList_copy_run _ rfl _ _ 24 24 rfl _ _ rfl rfl (hcp2 _ _) ?_)
  go_ret
  exact ⟨_, _, rfl, hO, hB⟩

set_option maxHeartbeats 4000000 in
theorem insert_grow (g c : Nat) (l : List Tm) (base : Nat) (w : World) (hown : Own w base 50 (some ⟨g, 0, none⟩) c l) (hbase : base ≤ w.heap.size) (hl : l.length ≤ 100) (i : Nat) (hin : i < l.length) (hroom : c < l.length + 1) (vb : Nat) (x : Tm)
    (hv : w.heap[vb]? = some (.cells #[.int .i64 x.1, .int .i64 x.2] 50 (0, 0))) :
    Calls Try.prog 20 #[.slice (some ⟨g, 0, none⟩) l.length c, .int .i64 i, .slice (some ⟨vb, 0, none⟩) 1 1] w fun e w' => ∃ p' c', e = .returned (.slice p' (l.length + 1) c') ∧ Own w' base 50 p' c' (insT l i x) ∧ Below base w w' := by
  have hcap := own_cap hown
  obtain ⟨g', cur, e', h2, h3, h4, h5, h6, h7⟩ := own_open hown (by omega)
  simp only [Option.some.injEq, Addr.mk.injEq, and_true] at e'
  subst e'
  obtain ⟨i0, hi, hz0, hz1, hz2⟩ := info_parts Try.info50
  have hcells : ∀ j v, (fl l)[j]? = some v → w.cell? ⟨g, j, none⟩ = some v := fun j v hj => by
    have := World.ownsRow.cells hown (g := g) rfl j v hj
    rwa [add_plain, Nat.zero_add] at this
  have hold : (Builtin.firstCells i0.size i (.slice (some ⟨g, 0, none⟩) i c)).run Try.prog w.drew = .ok (fl (l.take i)).toArray w.drew := by
    rw [hz1]
    refine run_firstCells_some w.drew 2 i ⟨g, 0, none⟩ i c (fl (l.take i)) (by rw [fl_length, List.length_take, Nat.min_eq_left (by omega)]) (fun j v hj => ?_)
    rw [add_plain, Nat.zero_add]
    rw [← fl_take, List.getElem?_take] at hj
    split at hj
    · exact hcells j v hj
    · cases hj
  have hz1' : 0 < i0.size := by omega
  have hrun0 : ∀ ty, _ := fun ty => Lib.run_append_grow_zeros (P := Try.prog) w 24 3 ty 50 i0 _ .i64 .i64 Try.underlying24 Try.underlying3 hi hz0 (some ⟨g, 0, none⟩) i c (fl (l.take i)) hold (l.length + 1 - i) (by omega) hz1' (by omega) (by omega) (by rw [hz2]; omega)
    (growslice_fits (by omega) (by rw [hz2]; omega))
  rw [show i + (l.length + 1 - i) = l.length + 1 by omega] at hrun0
  obtain ⟨cap', hcap'⟩ : ∃ cap', cap' = grownCap w (l.length + 1) c 50 := ⟨_, rfl⟩
  have hge := grownCap_ge w (l.length + 1) c 50
  have hle := grownCap_le_maxLen w (l.length + 1) c 50 (by simp only [maxLen]; omega)
  rw [← hcap'] at hrun0 hge hle
  obtain ⟨Z0, hZ0⟩ : ∃ Z0 : List Value, Z0 = ((fl (l.take i)).toArray ++ Builtin.zeroCells (Value.agg #[.int .i64 0, .int .i64 0]).cells (l.length + 1 - i) ++ Builtin.zeroCells (Value.agg #[.int .i64 0, .int .i64 0]).cells (cap' - (l.length + 1))).toList := ⟨_, rfl⟩
  have hZl : Z0.length = cap' * 2 := by
    rw [hZ0]
    simp [fl_length, size_zeroCells, Value.cells]
    omega
  have hZt : Z0.take (i * 2) = fl (l.take i) := by
    rw [hZ0]
    simp only [Array.toList_append, List.append_assoc]
    have : (fl (l.take i)).length = i * 2 := by rw [fl_length, List.length_take, Nat.min_eq_left (by omega)]
    rw [← this]
    exact List.take_left
  have hW0 : (w.drew.alloc (.cells Z0.toArray 50)).heap[w.heap.size]? = some (.cells Z0.toArray 50 (0, 0)) := heap_alloc_new w.drew _
  have hrun : ∀ ty, (Builtin.append_ #[24, 3] ty #[.slice (some ⟨g, 0, none⟩) i c, .int .i64 ((l.length : Int) + 1 - (i : Int))]).run Try.prog w = .ok (.slice (some ⟨w.heap.size, 0, none⟩) (l.length + 1) cap') (w.drew.alloc (.cells Z0.toArray 50)) := fun ty => by
    rw [show (l.length : Int) + 1 - (i : Int) = ((l.length + 1 - i : Nat) : Int) by omega, hrun0 ty, hZ0]
  obtain ⟨R1, hR1⟩ : ∃ R1, R1 = splice Z0 (i * 2) (fl [x]) := ⟨_, rfl⟩
  obtain ⟨R2, hR2⟩ : ∃ R2, R2 = splice R1 ((i + 1) * 2) (fl (l.drop i)) := ⟨_, rfl⟩
  have hdl : (fl (l.drop i)).length = (l.length - i) * 2 := by rw [fl_length, List.length_drop]
  have hR1l : R1.length = cap' * 2 := by rw [hR1, splice_len _ _ _ (by rw [fl_length]; simp; omega), hZl]
  have hR2l : R2.length = cap' * 2 := by rw [hR2, splice_len _ _ _ (by rw [hdl]; omega), hR1l]
  have hrow : R2.take ((l.length + 1) * 2) = fl (insT l i x) := by
    rw [hR2, show (l.length + 1) * 2 = (i + 1) * 2 + (fl (l.drop i)).length by rw [hdl]; omega, splice_take_len _ _ _ (by omega), hR1,
      show (i + 1) * 2 = i * 2 + (fl [x]).length by rw [fl_length]; simp; omega, splice_take_len _ _ _ (by omega), hZt, fl_insT, List.append_assoc]
  obtain ⟨W0, hW0e⟩ : ∃ W0, W0 = w.drew.alloc (.cells Z0.toArray 50) := ⟨_, rfl⟩
  rw [← hW0e] at hW0 hrun
  have hWold : ∀ b, b < w.heap.size → W0.heap[b]? = w.heap[b]? := fun b hb => by rw [hW0e]; exact Below.heap_alloc w.drew _ b hb
  have hvlt : vb < w.heap.size := (Array.getElem?_eq_some_iff.1 hv).1
  have hcp1 : ∀ ty dc dl, dl = l.length + 1 - i → (Builtin.copy_ #[24, 24] ty #[.slice (some ⟨w.heap.size, i * 2, none⟩) dl dc, .slice (some ⟨vb, 0, none⟩) 1 1]).run Try.prog W0 = .ok (goInt 1) (W0.setRow w.heap.size R1.toArray) := fun ty dc dl hd => by
    subst hd
    have hm : Nat.min 1 (l.length + 1 - i) = 1 := by simp only [Nat.min_def]; split <;> omega
    have := run_copy2 (P := Try.prog) W0 24 24 ty 50 w.heap.size (i * 2) (l.length + 1 - i) dc ⟨vb, 0, none⟩ 1 1 Z0 50 (fl [x]) Try.underlying24 Try.size50 hW0 (by rw [hm]; rfl)
      (World.news_of_block (by rw [hWold vb hvlt]; exact hv)) (by rw [fl_length]; simp; omega) (fl_one _)
    rw [this, hR1, hm]; rfl
  obtain ⟨W1, hW1e⟩ : ∃ W1, W1 = W0.setRow w.heap.size R1.toArray := ⟨_, rfl⟩
  rw [← hW1e] at hcp1
  have hW1 : W1.heap[w.heap.size]? = some (.cells R1.toArray 50 (0, 0)) := by rw [hW1e]; exact setRow_heap W0 _ _ _ 50 _ hW0
  have hWold1 : ∀ b, b < w.heap.size → W1.heap[b]? = w.heap[b]? := fun b hb => by rw [hW1e, setRow_other _ _ _ _ (by omega)]; exact hWold b hb
  have hcp2 : ∀ ty dc sc dl sl, dl = l.length - i → sl = l.length - i → (Builtin.copy_ #[24, 24] ty #[.slice (some ⟨w.heap.size, (i + 1) * 2, none⟩) dl dc, .slice (some ⟨g, i * 2, none⟩) sl sc]).run Try.prog W1.drew = .ok (goInt (l.length - i)) (W1.drew.setRow w.heap.size R2.toArray) := fun ty dc sc dl sl hd hs => by
    subst hd hs
    have := run_copy2 (P := Try.prog) W1.drew 24 24 ty 50 w.heap.size ((i + 1) * 2) (l.length - i) dc ⟨g, i * 2, none⟩ (l.length - i) sc R1 50 (fl (l.drop i)) Try.underlying24 Try.size50 hW1 (by rw [hdl]; simp only [Nat.min_def]; split <;> omega)
      (fun j v hj => by
        rw [add_plain]
        rw [← fl_drop, List.getElem?_drop] at hj
        show W1.cell? ⟨g, i * 2 + j, none⟩ = some v
        rw [World.cell?_of_block (w := w) (a := ⟨g, i * 2 + j, none⟩) (hWold1 g h3)]
        exact hcells _ v hj)
      (by rw [hdl]; omega) (fl_one _)
    rw [this, hR2]
    congr 2
    simp only [Nat.min_def]; split <;> omega
  have hB1 : Below base w W1 := by rw [hW1e, hW0e]; exact below_setRow ((Below.refl _ _).drew.alloc hbase _) hbase _
  have hB : Below base w (W1.drew.setRow w.heap.size R2.toArray) := below_setRow hB1.drew hbase _
  have hO : Own (W1.drew.setRow w.heap.size R2.toArray) base 50 (some ⟨w.heap.size, 0, none⟩) cap' (insT l i x) :=
    own_shut hbase (setRow_heap W1.drew _ _ _ 50 _ hW1) hle hR2l (by rw [insT_length _ _ _ (by omega)]; exact hge) (by rw [insT_length _ _ _ (by omega)]; exact hrow)
  generalize hW2 : W1.drew.setRow w.heap.size R2.toArray = W2 at hcp2 hB hO
  generalize hG : w.heap.size = G at hrun hcp1 hcp2 hO
  have q1 : ¬ ((i : Int) = (l.length : Int)) := by omega
  have q2 : ¬ (cap' = i + 1) := by omega
  have q3 : ¬ (c = i) := by omega
  have q3' : ¬ (cap' = i) := by omega
  have q4 : ¬ (c = 0) := by omega
  have q5 : ((i : Int) + 1).toNat = i + 1 := by omega
  have q6 : ((l.length : Int) + 1).toNat = l.length + 1 := by omega
  have q8 : IntKind.i64.wrap ((i : Int) + 1) = (i : Int) + 1 := by rw [IntKind.wrap_i64]; omega
  have q9 : (0 : Int) ≤ (i : Int) + 1 := by omega
  have q10 : (i : Int) + 1 ≤ (l.length : Int) + 1 := by omega
  have q11 : (i : Int) ≤ (l.length : Int) + 1 := by omega
  have q12 : i ≤ l.length := by omega
  have q13 : i ≤ c := by omega
  have q7 : c ≤ 9223372036854775807 := by simp only [maxLen] at h5; omega
  have q14 : cap' ≤ 9223372036854775807 := by simp only [maxLen] at hle; omega
  clear hR1 hR2 hrow hR1l hR2l h4 h6 h7 hW1 hW2 hW1e hW0e hW0 hWold hWold1 hZ0 hZl hZt hrun0 hold hcap' hi hz0 hz1 hz2 hz1' hdl hcells hB1
  go_enter Try.func20, Try.ntmps20
  go_wp2_with (first | (at_builtin; refine Lib.wpList_append_run _ rfl _ _ 24 3 rfl _ _ rfl rfl _ _ (hrun _) ?_) | (at_builtin; refine wpList_copy_run _ rfl _ _ 24 24 rfl _ _ rfl rfl (hcp1 _ _ _ (by omega)) ?_))
  go_region_law (refine step_copy_run rfl _ _ 24 24 rfl _ _ (by simp [Act.eval, Act.put]) (by simp [Act.eval, Act.put]) (hcp2 _ _ _ _ _ (by omega) (by omega)) ?_)
  go_wp2
  go_ret
  exact ⟨_, _, rfl, hO, hB⟩

/-- Whatever room there is. -/
theorem insert_any (p : Option Addr) (c : Nat) (l : List Tm) (base : Nat) (w : World) (hown : Own w base 50 p c l) (hbase : base ≤ w.heap.size) (hl : l.length ≤ 100) (i : Nat) (hin : i ≤ l.length) (vb : Nat) (x : Tm)
    (hv : w.heap[vb]? = some (.cells #[.int .i64 x.1, .int .i64 x.2] 50 (0, 0))) (hne : ∀ g, p = some ⟨g, 0, none⟩ → vb ≠ g) :
    Calls Try.prog 20 #[.slice p l.length c, .int .i64 i, .slice (some ⟨vb, 0, none⟩) 1 1] w fun e w' => ∃ p' c', e = .returned (.slice p' (l.length + 1) c') ∧ Own w' base 50 p' c' (insT l i x) ∧ Below base w w' := by
  have hcap := own_cap hown
  by_cases hi : i = l.length
  · subst hi; exact insert_end p c l base w hown hbase hl vb x hv
  · obtain ⟨g, cur, rfl, _⟩ := own_open hown (by omega)
    by_cases hr : l.length + 1 ≤ c
    · exact insert_room g c l base w hown hl i (by omega) hr vb x hv (hne g rfl)
    · exact insert_grow g c l base w hown hbase hl i (by omega) (by omega) vb x hv
end Go.Proofs.Ytannkdnjbacbdaa
