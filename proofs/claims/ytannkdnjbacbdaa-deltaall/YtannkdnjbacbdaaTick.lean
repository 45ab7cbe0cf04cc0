/-
  What Tick of package delta does with a row of timers that may be: a new row of those that are left, and whose are due.
-/
import Derived.Test.YtannkdnjbacbdaaDrop
namespace Go.Proofs.Ytannkdnjbacbdaa
open Go.ChangeShapes Go.WideShapes Go.ChangeAt Go.RowKit
attribute [local go_sem ↓] Go.wp_at_zero Go.wp_at_succ

set_option maxHeartbeats 4000000 in
theorem delete_sharp (g c : Nat) (l : List Tm) (base : Nat) (w : World) (hown : Own w base 50 (some ⟨g, 0, none⟩) c l) (i j : Nat) (hij : i < j) (hj : j ≤ l.length) :
    Calls Try.prog 23 #[.slice (some ⟨g, 0, none⟩) l.length c, .int .i64 i, .int .i64 j] w fun e w' => e = .returned (.slice (some ⟨g, 0, none⟩) (l.take i ++ l.drop j).length c) ∧ Own w' base 50 (some ⟨g, 0, none⟩) c (l.take i ++ l.drop j) ∧ Below base w w' ∧ ∀ k, k ≠ g → w'.heap[k]? = w.heap[k]? := by
  have hcap := own_cap hown
  obtain ⟨g', cur, e', h2, h3, h4, h5, h6, h7⟩ := own_open hown (by omega)
  simp only [Option.some.injEq, Addr.mk.injEq, and_true] at e'
  subst e'
  obtain ⟨i0, hi, hz0, hz1, hz2⟩ := info_parts Try.info50
  have hcells : ∀ j v, (fl l)[j]? = some v → w.cell? ⟨g, j, none⟩ = some v := fun j v hj => by
    have := World.ownsRow.cells hown (g := g) rfl j v hj
    rwa [add_plain, Nat.zero_add] at this
  obtain ⟨m, hm⟩ : ∃ m, m = (l.take i ++ l.drop j).length := ⟨_, rfl⟩
  have hm' : m = i + (l.length - j) := by rw [hm]; simp; omega
  obtain ⟨R1, hR1⟩ : ∃ R1, R1 = splice cur (i * 2) (fl (l.drop j)) := ⟨_, rfl⟩
  have hdl : (fl (l.drop j)).length = (l.length - j) * 2 := by rw [fl_length, List.length_drop]
  have hR1l : R1.length = c * 2 := by rw [hR1, splice_len _ _ _ (by rw [hdl]; omega), h6]
  have hR1t : R1.take (m * 2) = fl (l.take i ++ l.drop j) := by
    rw [hR1, show m * 2 = i * 2 + (fl (l.drop j)).length by rw [hdl]; omega, splice_take_len _ _ _ (by omega), fl_append]
    congr 1
    rw [← fl_take, ← h7, List.take_take, Nat.min_eq_left (by omega)]
  have hap : ∀ ty ad sl sc, (¬ c = j → ad = ⟨g, j * 2, none⟩) → sl = l.length - j → (Builtin.append_ #[24, 24] ty #[.slice (some ⟨g, 0, none⟩) i c, .slice (some ad) sl sc]).run Try.prog w.drew = .ok (.slice (some ⟨g, 0, none⟩) m c) (w.drew.setRow g R1.toArray) := fun ty ad sl sc had hsl => by
    subst hsl
    have := run_append_room (P := Try.prog) w.drew 24 ty 50 i0 Try.underlying24 hi g i c cur.toArray h4 ad (l.length - j) sc (fl (l.drop j)) (by rw [hdl, hz1])
      (fun k v hk => by
        by_cases hcj : c = j
        · rw [List.drop_eq_nil_of_le (by omega)] at hk
          simp [fl] at hk
        · rw [had hcj, add_plain]
          rw [← fl_drop, List.getElem?_drop] at hk
          exact hcells _ v hk)
      (fl_one _) (by omega) (by rw [hz1, hdl]; simp; omega)
    rw [this, hR1, hm']
    simp [splice, hz1]
  have hg1 : (w.drew.setRow g R1.toArray).heap[g]? = some (.cells R1.toArray 50 (0, 0)) := setRow_heap w.drew g _ _ 50 _ h4
  have hcl0 : ∀ ty c', ∃ zs : List Value, zs.length = (l.length - m) * 2 ∧ _ := fun ty c' => run_clear2 (P := Try.prog) (w.drew.setRow g R1.toArray) 24 50 ty _ Try.underlying24 Try.zeroValue50 rfl (by decide) g (m * 2) (l.length - m) c' (by omega) R1 50 hg1 (by omega)
  have hcl : ∀ ty c' n', n' = l.length - m → ∃ W2, (Builtin.clear_ #[24] ty #[.slice (some ⟨g, m * 2, none⟩) n' c']).run Try.prog (w.drew.setRow g R1.toArray) = .ok (.tuple #[]) W2 ∧ Own W2 base 50 (some ⟨g, 0, none⟩) c (l.take i ++ l.drop j) ∧ Below base w W2 ∧ ∀ k, k ≠ g → W2.heap[k]? = w.heap[k]? := fun ty c' n' hn => by
    subst hn
    obtain ⟨zs, hzl, hrun⟩ := hcl0 ty c'
    refine ⟨_, hrun, ?_, below_setRow (below_setRow (Below.refl _ _).drew h2 _) h2 _, fun k hk => by rw [setRow_other _ g k _ hk, setRow_other _ g k _ hk]; rfl⟩
    refine own_shut h2 (setRow_heap _ g _ _ 50 _ hg1) h5 (by rw [splice_len _ _ _ (by rw [hzl]; omega), hR1l]) (by omega) ?_
    rw [← hm, splice_take_low _ _ _ _ (Nat.le_refl _) (by omega), hR1t]
  clear hcl0
  generalize hW1 : w.drew.setRow g R1.toArray = W1 at hap hcl
  have q1 : ¬ ((i : Int) = (j : Int)) := by omega
  have q2 : ¬ (c = i) := by omega
  have q3 : ¬ (c = m) := by omega
  have q4 : ¬ (c = 0) := by omega
  have q5 : m < l.length := by omega
  have q6 : m ≤ c := by omega
  have q7 : c ≤ 9223372036854775807 := by simp only [maxLen] at h5; omega
  have q8 : i ≤ c := by omega
  have q9 : j ≤ c := by omega
  have q10 : i ≤ l.length := by omega
  have q11 : ¬ (l.length = i) := by omega
  rw [← hm]
  clear hR1 hR1t hR1l h4 h6 h7 hW1 hg1 hdl hcells hi hz0 hz1 hz2 hm hm'
  by_cases hcj : c = j
  · subst hcj
    obtain rfl : c = l.length := by omega
    have hap1 : ∀ ty, (Builtin.append_ #[24, 24] ty #[.slice (some ⟨g, 0, none⟩) i l.length, .slice (some ⟨g, 0, none⟩) 0 0]).run Try.prog w.drew = .ok (.slice (some ⟨g, 0, none⟩) m l.length) W1 := fun ty => hap ty _ _ _ (fun h => absurd rfl h) (by omega)
    clear hap
    obtain ⟨W2, hc2, hO, hB, hK⟩ := hcl 0 (l.length - m) (l.length - m) rfl
    clear hcl
    go_enter Try.func23, Try.ntmps23
    go_wp2
    go_region_law (refine step_append_run rfl _ _ 24 24 rfl _ _ (by simp [Act.eval, Act.put]) (by simp [Act.eval, Act.put]) (hap1 _) ?_)
    go_wp2
    go_ret
    exact ⟨rfl, hO, hB, hK⟩
  · have hap1 : ∀ ty, (Builtin.append_ #[24, 24] ty #[.slice (some ⟨g, 0, none⟩) i c, .slice (some ⟨g, j * 2, none⟩) (l.length - j) (c - j)]).run Try.prog w.drew = .ok (.slice (some ⟨g, 0, none⟩) m c) W1 := fun ty => hap ty _ _ _ (fun h => rfl) rfl
    clear hap
    obtain ⟨W2, hc2, hO, hB, hK⟩ := hcl 0 (c - m) (l.length - m) rfl
    clear hcl
    go_enter Try.func23, Try.ntmps23
    go_wp2
    go_region_law (refine step_append_run rfl _ _ 24 24 rfl _ _ (by simp [Act.eval, Act.put]) (by simp [Act.eval, Act.put]) (hap1 _) ?_)
    go_wp2
    go_ret
    exact ⟨rfl, hO, hB, hK⟩

set_option maxHeartbeats 1000000 in
theorem keys_sharp (p : Option Addr) (c : Nat) (l : List Tm) (w : World) (hr : Rd w p c l) (hl : l.length ≤ 100) :
    Calls Try.prog 26 #[.slice p l.length c] w fun e w' => ∃ p' c', e = .returned (.slice p' l.length c') ∧ RdI w' p' c' (l.map (·.2)) ∧ Below w.heap.size w w' ∧ ∀ b o s, p' = some ⟨b, o, s⟩ → w.heap.size ≤ b := by
  obtain ⟨i0, hi, hz0, hz1, hz2⟩ := info_parts Try.info3
  go_enter Try.func26, Try.ntmps26
  go_wp2_with (at_make; refine wpList_make_own _ rfl _ _ 33 rfl w.heap.size 3 i0 _ 1 Try.underlying33 hi hz0 hz1 _ _ _ l.length rfl rfl rfl (by rw [hz2]; omega) (by simp only [maxLen]; omega) (Nat.le_refl _) ?_; intro w1 hown1 hgrow1)
  have hb1 : Below w.heap.size w w1 := (Below.refl _ _).grown hgrow1 (Nat.le_refl _) (fun k hk => by cases hk)
  go_loopw [3, 11] (fun o i wr => ∃ (k : Nat) (p' : Option Addr) (c' : Nat), k ≤ l.length ∧ i = .int .i64 k ∧ o = .slice p' k c' ∧ wr.ownsRow w.heap.size 3 1 (.slice p' k c') k (((l.take k).map (·.2)).map (Value.int .i64)) ∧ Below w.heap.size w wr) (fun _ i _ => l.length - (intOf i).toNat)
  case atStart => exact ⟨0, _, _, Nat.zero_le _, rfl, rfl, hown1, hb1⟩
  case round =>
    obtain ⟨k, p', c', hk, rfl, rfl, hown, hbw⟩ := hrel
    clear hown1 hb1 hgrow1
    have hsz := hbw.size
    by_cases hlt : k < l.length
    · obtain ⟨b, o, rfl, hb, hc1, hc2⟩ := (hr.below hbw).cells k hlt
      have HT : Hid (((l.take (k + 1)).map (·.2)).map (Value.int .i64) = ((l.take k).map (·.2)).map (Value.int .i64) ++ [Value.int .i64 l[k].2]) := by
        show _ = _
        rw [List.take_succ_eq_append_getElem hlt, List.map_append, List.map_append]; rfl
      generalize hX : ((l.take k).map (·.2)).map (Value.int .i64) = XS at *
      generalize l[k].1 = xa at *
      generalize l[k].2 = xk at *
      clear hX
      have hown2 : ∀ x y, ((wr.alloc x).alloc y).ownsRow w.heap.size 3 1 (.slice p' k c') k XS := fun x y => (hown.alloc x).alloc y
      go_wp2_with (at_builtin; refine wpList_append_lies _ rfl _ _ 33 rfl w.heap.size 3 i0 _ 1 8 Try.underlying33 hi hz0 hz1 hz2 rfl (by omega) (.slice p' k c') k XS rfl (hown2 _ _) ⟨wr.heap.size + 1, 0, none⟩ 1 1 [.int .i64 xk] rfl rfl (World.news_of_block (cs := #[.int .i64 xk]) (t := 3) (fr := (0, 0)) (heap_two _ _ _)) (by simp [Value.oneCell']) (by omega) (by simp only [maxLen]; omega) (by omega) (by simp; omega) _ rfl ?_; intro g cap w2 hown3 hgrow hat hlt2)
      have hlo := World.ownsRow.lt hown
      go_roundw
      case rel =>
        refine ⟨k + 1, _, _, by omega, by go_num, rfl, by rw [HT.out]; exact hown3, ?_⟩
        exact ((hbw.alloc hsz _).alloc (by simp; omega) _).grown hgrow (by simp; omega) (fun j hj => (hlo j hj).1)
      case measure => simp [intOf]; omega
    · have hkn : k = l.length := by omega
      subst hkn
      rw [List.take_length] at hown
      have hR := rdI_own (ks := l.map (·.2)) (by simp) hown
      go_wp2
      go_ret
      exact ⟨_, _, rfl, hR, hbw, fun b o s e => (World.ownsRow.lt hown b (by rw [e]; rfl)).1⟩

theorem delete_t (p : Option Addr) (c : Nat) (l : List Tm) (base : Nat) (w : World) (N : Nat) (hN : l.length = N) (hown : Own w base 50 p c l) (hl : N ≤ 100) (j : Nat) (hj : j ≤ N) :
    Calls Try.prog 23 #[.slice p N c, .int .i64 0, .int .i64 j] w fun e w' => e = .returned (.slice p (l.drop j).length c) ∧ Own w' base 50 p c (l.drop j) ∧ Below base w w' ∧ w.heap.size ≤ w'.heap.size ∧ ∀ k, (∀ g, p = some ⟨g, 0, none⟩ → k ≠ g) → w'.heap[k]? = w.heap[k]? := by
  subst hN
  by_cases h : j = 0
  · subst h
    exact (delete_none p c l base w hown hl 0 hj).mono (by rintro e w' ⟨rfl, rfl⟩; exact ⟨rfl, hown, Below.refl _ _, Nat.le_refl _, fun _ _ => rfl⟩)
  · obtain ⟨g, rfl⟩ := own_head hown (by omega)
    exact (delete_sharp g c l base w hown 0 j (by omega) hj).mono (by
      rintro e w' ⟨rfl, h1, h2, h3⟩
      rw [List.take_zero, List.nil_append] at h1 ⊢
      exact ⟨rfl, h1, h2, h2.size, fun k hk => h3 k (hk g rfl)⟩)

theorem RdI.of_block {w w' : World} {p : Option Addr} {c : Nat} {ks : List Int} (h : RdI w p c ks) (hb : ∀ b o s, p = some ⟨b, o, s⟩ → w'.heap[b]? = w.heap[b]?) : RdI w' p c ks := by
  refine ⟨h.cap, ?_⟩
  rcases h.at_ with h0 | ⟨b, o, s, rfl, hs, hc⟩
  · exact .inl h0
  · exact .inr ⟨b, o, s, rfl, hs, fun j hj => (World.cell?_of_block (w := w) (a := ⟨b, o + j, none⟩) (hb b o s rfl)).trans (hc j hj)⟩

theorem Rd.take {w : World} {p : Option Addr} {c : Nat} {l : List Tm} (h : Rd w p c l) (n : Nat) (hn : n ≤ l.length) : Rd w p c (l.take n) := by
  refine ⟨by have := h.cap; simp; omega, ?_⟩
  rcases h.at_ with ⟨h1, h2, h3⟩ | ⟨b, o, s, rfl, hs, hc⟩
  · exact .inl ⟨h1, by simp [h2], h3⟩
  · refine .inr ⟨b, o, s, rfl, fun hl => hs (fun e => hl (by simp [e])), fun j v hj => ?_⟩
    rw [← fl_take, List.getElem?_take] at hj
    split at hj
    · exact hc j v hj
    · cases hj

theorem keys_t (p : Option Addr) (c : Nat) (l : List Tm) (w : World) (n : Nat) (hr : Rd w p c l) (hl : l.length ≤ 100) (hn : n ≤ l.length) :
    Calls Try.prog 26 #[.slice p n c] w fun e w' => ∃ p' c', e = .returned (.slice p' n c') ∧ RdI w' p' c' ((l.take n).map (·.2)) ∧ Below w.heap.size w w' ∧ ∀ b o s, p' = some ⟨b, o, s⟩ → w.heap.size ≤ b := by
  have hlen : (l.take n).length = n := by simp; omega
  have := keys_sharp p c (l.take n) w (hr.take n hn) (by omega)
  rw [hlen] at this
  exact this

/-- what a tick leaves, ahead of what is due -/
def decT (l : List Tm) : List Tm := subAt l (waitT l) 1
def dueT (l : List Tm) : Nat := waitT (decT l)
def restT (l : List Tm) : List Tm := (decT l).drop (dueT l)
theorem decT_length (l : List Tm) : (decT l).length = l.length := subAt_length _ _ _
theorem dueT_le (l : List Tm) : dueT l ≤ l.length := by have := waitT_le (decT l); rw [decT_length] at this; exact this
theorem waitT_next : ∀ (l : List Tm) (h : waitT l < l.length), l[waitT l].1 ≠ 0
  | x :: r, h => by
    by_cases hx : x.1 = 0
    · have e : waitT (x :: r) = waitT r + 1 := by simp [waitT, hx]
      have h' : waitT r < r.length := by rw [e] at h; simpa using h
      have := waitT_next r h'
      simp only [e, List.getElem_cons_succ]
      exact this
    · have e : waitT (x :: r) = 0 := by simp [waitT, hx]
      simp only [e, List.getElem_cons_zero]
      exact hx

/-- The pair of a row and of keys. -/
def Ticked (w w' : World) (e : Ending) (l : List Tm) (ks : List Int) : Prop :=
  ∃ p c p' c', e = .returned (.tuple #[.slice p l.length c, .slice p' ks.length c']) ∧ Rd w' p c l ∧ RdI w' p' c' ks ∧ Below w.heap.size w w'
theorem ret_ticked {p p' : Option Addr} {n m n' m' c c' : Nat} (h : n = m ∧ n' = m') : Ending.returned (.tuple #[.slice p n c, .slice p' n' c']) = .returned (.tuple #[.slice p m c, .slice p' m' c']) := by rw [h.1, h.2]

theorem waiting_n (p : Option Addr) (c : Nat) (l : List Tm) (w : World) (N m : Nat) (hN : l.length = N) (hm : waitT l = m) (hr : Rd w p c l) (hl : N ≤ 100) :
    Calls Try.prog 24 #[.slice p N c] w fun e w' => e = .returned (.int .i64 m) ∧ Below w.heap.size w w' := by
  subst hN hm; exact waiting_any p c l w hr hl

theorem due_len (l : List Tm) : ((l.take (dueT l)).map (·.2)).length = dueT l := by have := dueT_le l; simp; omega
theorem tick_end1 {w w4 wd wk : World} {P1 pk : Option Addr} {c1 ck n : Nat} {l : List Tm} (hn : n = l.length - dueT l) (hbw4 : Below w.heap.size w w4) (hod : Own wd w.heap.size 50 P1 c1 ((decT l).drop (dueT l))) (hbd : Below w.heap.size w4.drew wd) (hrk : RdI wk pk ck ((l.take (dueT l)).map (·.2))) (hbk : Below wd.heap.size wd wk) :
    Ticked w wk (.returned (.tuple #[.slice P1 n c1, .slice pk (dueT l) ck])) (restT l) ((l.take (dueT l)).map (·.2)) :=
  ⟨P1, c1, pk, ck, ret_ticked ⟨by rw [hn, restT, List.length_drop, decT_length], (due_len l).symm⟩, own_rd (own_below hod hbk), hrk, bel_call (hbw4.drew.trans hbd) (Nat.le_refl _) hbk⟩
theorem tick_end2 {w w4 wd wk : World} {P1 pk : Option Addr} {c1 ck n : Nat} {l : List Tm} (hn : n = l.length - dueT l) (hbw4 : Below w.heap.size w w4) (ho4 : Own w4 w.heap.size 50 P1 c1 (decT l)) (hod : Own wd w.heap.size 50 P1 c1 ((decT l).drop (dueT l))) (hbd : Below w.heap.size wk wd)
    (hkd : ∀ k, (∀ g, P1 = some ⟨g, 0, none⟩ → k ≠ g) → wd.heap[k]? = wk.heap[k]?) (hrk : RdI wk pk ck ((l.take (dueT l)).map (·.2))) (hbk : Below w4.drew.heap.size w4.drew wk) (hpk : ∀ b o s, pk = some ⟨b, o, s⟩ → w4.drew.heap.size ≤ b) :
    Ticked w wd (.returned (.tuple #[.slice P1 n c1, .slice pk (dueT l) ck])) (restT l) ((l.take (dueT l)).map (·.2)) :=
  ⟨P1, c1, pk, ck, ret_ticked ⟨by rw [hn, restT, List.length_drop, decT_length], (due_len l).symm⟩, own_rd hod, hrk.of_block (fun b o s e => hkd b (fun g' hg' => by
    have h1 := hpk b o s e
    have h2 := (World.ownsRow.lt ho4 g' (by rw [hg']; rfl)).2
    have h3 : w4.drew.heap.size = w4.heap.size := rfl
    omega)), (bel_call hbw4.drew (Nat.le_refl _) hbk).trans hbd⟩

set_option maxHeartbeats 4000000 in
theorem tick_some (p : Option Addr) (c : Nat) (l : List Tm) (w : World) (hr : Rd w p c l) (hl : l.length ≤ 100) (hB : Bd l) (hpn : p ≠ none) :
    Calls Try.prog 12 #[.slice p l.length c] w fun e w' => Ticked w w' e (restT l) ((l.take (dueT l)).map (·.2)) := by
  have hcap := hr.cap
  have hdl := decT_length l
  have hdu := dueT_le l
  have hkl : ((l.take (dueT l)).map (·.2)).length = dueT l := by simp; omega
  have hwl := waitT_le l
  have HR : Hid (restT l = (decT l).drop (dueT l)) := (rfl : restT l = _)
  have HW : Hid (waitT (decT l) = dueT l) := (rfl : waitT (decT l) = _)
  have hq0 : (0 : Int) ≤ (dueT l : Int) := by omega
  have hq1 : (dueT l : Int) ≤ (c : Int) := by omega
  have hq2 : dueT l ≤ c := by omega
  by_cases hA : waitT l < l.length
  · have hx := waitT_next l hA
    have hm := mem_le_sum l hB.low (waitT l) hA
    have hsum := hB.sum
    have HD : Hid (decT l = l.set (waitT l) (l[waitT l].1 - 1, l[waitT l].2)) := subAt_set l (waitT l) hA 1
    have hx1 : 1 ≤ l[waitT l].1 := by omega
    have hx2 : l[waitT l].1 ≤ 4611686018427387904 := by omega
    have hA' : decide ((waitT l : Int) < (l.length : Int)) = true := by simp; omega
    clear hx hm
    go_enter Try.func12, Try.ntmps12
    go_wp2_with (first
      | (go_at_call 16; refine (clone_any _ _ _ _ hr hl).mono ?_; rintro e w1 ⟨p1, c1, rfl, ho1, hb1⟩; obtain ⟨g, rfl⟩ := own_head ho1 (by omega))
      | (go_at_call 24; refine (waiting_n _ _ (decT l) _ l.length (dueT l) hdl HW.out (own_rd ho3) hl).mono ?_; rintro e w4 ⟨rfl, hb4⟩; have ho4 := own_below ho3 hb4)
      | (go_at_call 24; refine (waiting_n _ _ l _ l.length (waitT l) rfl rfl (own_rd ho1) hl).mono ?_; rintro e w2 ⟨rfl, hb2⟩; have ho2 := own_below ho1 hb2; have hbw := bel_call hb1 (Nat.le_refl _) hb2; obtain ⟨hc2, hf2, hg2, hz2⟩ := own_cells ho2 (waitT l) hA; have ho3 := own_setAt ho2 (waitT l) hA (l[waitT l].1 - 1); rw [← HD.out] at ho3)
      | (go_at_call 25; refine (sub_in _ _ _ (by omega) (by omega) (by omega)).mono ?_; rintro e w3 ⟨rfl, rfl⟩))
    have hbw4 : Below w.heap.size w w4 := bel_call (hbw.setCell hg2 _) (Nat.le_refl _) hb4
    clear hb4 ho3 hbw hb2 ho2 ho1 hb1 hc2 hf2 hz2 hx1 hx2 hA'
    clear hkl HR HW
    go_region_with ((first
      | (go_at_call 23; refine (delete_t _ _ (decT l) w.heap.size _ l.length hdl (by first | exact own_below (w := w4.drew) ho4 hbk | exact ho4) hl (dueT l) hdu).mono ?_; rintro e wd ⟨rfl, hod, hbd, hzd, hkd⟩)
      | (go_at_call 26; refine (keys_t _ _ l _ (dueT l) (by first | exact hr.below (hbw4.drew.trans hbd) | exact hr.below hbw4.drew) hl hdu).mono ?_; rintro e wk ⟨pk, ck, rfl, hrk, hbk, hpk⟩)))
    all_goals
      go_wp2
      go_ret2
      first
        | exact tick_end1 (by first | rfl | rw [List.length_drop, decT_length]) hbw4 hod hbd hrk hbk
        | exact tick_end2 (by first | rfl | rw [List.length_drop, decT_length]) hbw4 ho4 hod hbd hkd hrk hbk hpk
  · have HD : Hid (decT l = l) := (by
      have e : waitT l = l.length := by omega
      unfold decT
      rw [e]
      apply List.ext_getElem (by simp [subAt])
      intro i h1 h2
      simp only [subAt, List.getElem_modify]
      rw [if_neg (by omega)] : decT l = l)
    have hA' : decide ((waitT l : Int) < (l.length : Int)) = false := by simp; omega
    have HW2 : Hid (waitT l = dueT l) := (by rw [← HW.out, HD.out] : waitT l = dueT l)
    go_enter Try.func12, Try.ntmps12
    go_wp2_with (first
      | (go_at_call 16; refine (clone_any _ _ _ _ hr hl).mono ?_; rintro e w1 ⟨p1, c1, rfl, ho1, hb1⟩)
      | (go_at_call 24; refine (waiting_n _ _ l _ l.length (dueT l) rfl HW2.out (own_rd ho2) hl).mono ?_; rintro e w4 ⟨rfl, hb4⟩; have ho4 : Own w4 w.heap.size 50 p1 c1 (decT l) := by rw [HD.out]; exact own_below ho2 hb4)
      | (go_at_call 24; refine (waiting_n _ _ l _ l.length (waitT l) rfl rfl (own_rd ho1) hl).mono ?_; rintro e w2 ⟨rfl, hb2⟩; have ho2 := own_below ho1 hb2; have hbw := bel_call hb1 (Nat.le_refl _) hb2))
    have hbw4 : Below w.heap.size w w4 := bel_call hbw (Nat.le_refl _) hb4
    clear hb4 hbw hb2 ho2 ho1 hb1 hA' HD HW2
    clear hkl HR HW
    cases p with
    | none => exact absurd rfl hpn
    | some a =>
      obtain ⟨ab, ao, asp⟩ := a
      go_region_with ((first
        | (go_at_call 23; refine (delete_t _ _ (decT l) w.heap.size _ l.length hdl (by first | exact own_below (w := w4.drew) ho4 hbk | exact ho4) hl (dueT l) hdu).mono ?_; rintro e wd ⟨rfl, hod, hbd, hzd, hkd⟩)
        | (go_at_call 26; refine (keys_t _ _ l _ (dueT l) (by first | exact hr.below (hbw4.drew.trans hbd) | exact hr.below hbw4.drew) hl hdu).mono ?_; rintro e wk ⟨pk, ck, rfl, hrk, hbk, hpk⟩)))
      all_goals
        go_wp2
        go_ret2
        first
          | exact tick_end1 (by first | rfl | rw [List.length_drop, decT_length]) hbw4 hod hbd hrk hbk
          | exact tick_end2 (by first | rfl | rw [List.length_drop, decT_length]) hbw4 ho4 hod hbd hkd hrk hbk hpk

theorem delete_0 (p1 : Option Addr) (c1 base : Nat) (w : World) (hown : Own w base 50 p1 c1 []) : Calls Try.prog 23 #[.slice p1 0 c1, .int .i64 0, .int .i64 0] w fun e w' => e = .returned (.slice p1 0 c1) ∧ w' = w :=
  delete_none p1 c1 [] base w hown (by simp) 0 (by simp)
theorem keys_0 (w : World) : Calls Try.prog 26 #[.slice none 0 0] w fun e w' => ∃ p' c', e = .returned (.slice p' 0 c') ∧ RdI w' p' c' [] ∧ Below w.heap.size w w' :=
  (keys_sharp none 0 [] w (Rd.nil w) (by simp)).mono (by rintro e w' ⟨p', c', rfl, h1, h2, _⟩; exact ⟨p', c', rfl, h1, h2⟩)
theorem clone_0 (w : World) : Calls Try.prog 16 #[.slice none 0 0] w fun e w' => ∃ p' c', e = .returned (.slice p' 0 c') ∧ Own w' w.heap.size 50 p' c' [] ∧ Below w.heap.size w w' :=
  clone_any none 0 [] w (Rd.nil w) (by simp)
theorem waiting_0 (p1 : Option Addr) (c1 : Nat) (w : World) (hr : Rd w p1 c1 []) : Calls Try.prog 24 #[.slice p1 0 c1] w fun e w' => e = .returned (.int .i64 0) ∧ Below w.heap.size w w' :=
  waiting_any p1 c1 [] w hr (by simp)

theorem tick_nil (w : World) : Calls Try.prog 12 #[.slice none 0 0] w fun e w' => Ticked w w' e [] [] := by
  go_enter Try.func12, Try.ntmps12
  go_wp2_with (first
    | (go_at_call 16; refine (clone_0 _).mono ?_; rintro e w1 ⟨p1, c1, rfl, ho1, hb1⟩)
    | (go_at_call 24; refine (waiting_0 _ _ _ (own_rd ho2)).mono ?_; rintro e w4 ⟨rfl, hb4⟩; have ho4 := own_below ho2 hb4; have hbw4 := bel_call hbw (Nat.le_refl _) hb4)
    | (go_at_call 24; refine (waiting_0 _ _ _ (own_rd ho1)).mono ?_; rintro e w2 ⟨rfl, hb2⟩; have ho2 := own_below ho1 hb2; have hbw := bel_call hb1 (Nat.le_refl _) hb2))
  go_region_with ((first
    | (go_at_call 23; refine (delete_0 _ _ w.heap.size _ (by first | exact own_below (w := w4.drew) ho4 hbk | exact ho4)).mono ?_; rintro e wd ⟨rfl, rfl⟩)
    | (go_at_call 26; refine (keys_0 _).mono ?_; rintro e wk ⟨pk, ck, rfl, hrk, hbk⟩)))
  all_goals
    go_wp2
    go_ret2
    exact ⟨p1, c1, pk, ck, rfl, own_rd (own_below (w := w4.drew) ho4 hbk), hrk, bel_call hbw4.drew (Nat.le_refl _) hbk⟩

theorem delta_tick (p : Option Addr) (c : Nat) (l : List Tm) (w : World) (hr : Rd w p c l) (hl : l.length ≤ 100) (hB : Bd l) :
    Calls Try.prog 12 #[.slice p l.length c] w fun e w' => Ticked w w' e (restT l) ((l.take (dueT l)).map (·.2)) := by
  by_cases hp : p = none
  · subst hp
    obtain ⟨rfl, rfl⟩ : l = [] ∧ c = 0 := by
      rcases hr.at_ with ⟨_, h1, h2⟩ | ⟨b, o, s, h, _, _⟩
      · exact ⟨h1, h2⟩
      · cases h
    exact tick_nil w
  · exact tick_some p c l w hr hl hB hp
end Go.Proofs.Ytannkdnjbacbdaa
