/-
  What slices.Delete does with the first of a row that the call owns, and slices.Clone with a row, by their own Go text.
-/
import Derived.Test.YtfghondhonflaaaMaps
import Derived.Lib.SlicesDelete
namespace Go.Proofs.Ytfghondhonflaaa
open Go.ChangeShapes Go.WideShapes Go.ChangeAt Go.RowKit
attribute [local go_sem ↓] Go.wp_at_zero Go.wp_at_succ

theorem own_open {α : Type} {E : Elt α} {w : World} {base : Nat} {e : TypeId} {p : Option Addr} {c : Nat} {l : List α} (h : Own E w base e p c l) (hc : 0 < l.length) :
    ∃ g cur, p = some ⟨g, 0, none⟩ ∧ base ≤ g ∧ w.heap[g]? = some (.cells (cur : List Value).toArray e (0, 0)) ∧ c ≤ maxLen ∧ cur.length = c * E.k ∧ cur.take (l.length * E.k) = fl E l := by
  rcases h.2 with ⟨h1, h2⟩ | ⟨g, cap, cur, h1, h2, h3, h4, h5, h6, h7⟩
  · omega
  · simp only [Value.slice.injEq, true_and] at h1
    obtain ⟨rfl, rfl⟩ := h1
    exact ⟨g, cur.toList, rfl, h2, by simpa using h3, h5, by simpa using h6, h7⟩
theorem own_shut {α : Type} {E : Elt α} {w : World} {base : Nat} {e : TypeId} {g c : Nat} {l : List α} {cur : List Value} (hb : base ≤ g) (hg : w.heap[g]? = some (.cells cur.toArray e (0, 0))) (hm : c ≤ maxLen) (hs : cur.length = c * E.k) (hl : l.length ≤ c) (ht : cur.take (l.length * E.k) = fl E l) :
    Own E w base e (some ⟨g, 0, none⟩) c l := ⟨fl_length E l, .inr ⟨g, c, cur.toArray, rfl, hb, hg, hl, hm, by simpa using hs, by simpa using ht⟩⟩
theorem kp_setRow {g : Nat} {w0 w : World} (h : Kp g w0 w) (cs : Array Value) : Kp g w0 (w.setRow g cs) :=
  h.trans ⟨rfl, rfl, rfl, by simp [World.setRow], fun k _ hk => setRow_other w g k cs (by intro e; subst e; exact hk rfl)⟩
theorem splice_take_len {α : Type} (L : List α) (o : Nat) (cs : List α) (h : o ≤ L.length) : (splice L o cs).take (o + cs.length) = L.take o ++ cs := by
  unfold splice
  rw [← List.append_assoc, List.take_append_of_le_length (by simp; omega)]
  apply List.take_of_length_le
  simp; omega
theorem splice_len {α : Type} (L : List α) (o : Nat) (cs : List α) (h : o + cs.length ≤ L.length) : (splice L o cs).length = L.length := length_splice L o cs h
theorem splice_take_low {α : Type} (L : List α) (o : Nat) (cs : List α) (k : Nat) (h : k ≤ o) (ho : o ≤ L.length) : (splice L o cs).take k = L.take k := by
  unfold splice
  rw [List.take_append_of_le_length (by simp; omega), List.take_take, Nat.min_eq_left h]
theorem fl_cons (x : Int) (r : List Int) : fl eI (x :: r) = .int .i64 x :: fl eI r := rfl
theorem flI_length (l : List Int) : (fl eI l).length = l.length := by rw [fl_length]; exact Nat.mul_one _

set_option maxHeartbeats 4000000 in
theorem deleteL (g c : Nat) (x : Int) (r : List Int) (base : Nat) (w : World) (hown : Own eI w base 2 (some ⟨g, 0, none⟩) c (x :: r)) (n : Nat) (hn : r.length = n) (hn9 : n ≤ 1000) :
    Calls Try.prog 18 #[.slice (some ⟨g, 0, none⟩) (n + 1) c, .int .i64 0, .int .i64 1] w fun e w' => e = .returned (.slice (some ⟨g, 0, none⟩) n c) ∧ Own eI w' base 2 (some ⟨g, 0, none⟩) c r ∧ Kp g w w' := by
  have hcap := own_cap hown
  simp only [List.length_cons] at hcap
  obtain ⟨g', cur, e', h2, h4, h5, h6, h7⟩ := own_open hown (by simp)
  simp only [Option.some.injEq, Addr.mk.injEq, and_true] at e'
  subst e'
  obtain ⟨i0, hi, hz0, hz1, hz2⟩ := info_parts Try.info2
  have hk1 : eI.k = 1 := rfl
  rw [hk1, Nat.mul_one] at h6 h7
  simp only [List.length_cons, fl_cons] at h7
  have hcells : ∀ j v, (fl eI r)[j]? = some v → w.cell? ⟨g, 1 + j, none⟩ = some v := fun j v hj => by
    have := World.ownsRow.cells hown (g := g) rfl (j + 1) v (by rw [fl_cons]; simpa using hj)
    rwa [add_plain, Nat.zero_add, Nat.add_comm] at this
  have hrl : (fl eI r).length = n := by rw [flI_length]; exact hn
  have hcn : n + 1 ≤ c := by omega
  obtain ⟨R1, hR1⟩ : ∃ R1, R1 = splice cur 0 (fl eI r) := ⟨_, rfl⟩
  have hR1l : R1.length = c := by rw [hR1, splice_len _ _ _ (by rw [hrl]; omega), h6]
  have hR1t : R1.take n = fl eI r := by
    have := splice_take_len cur 0 (fl eI r) (by omega)
    rw [hrl, Nat.zero_add] at this
    rw [hR1, this]
    simp
  have hap : ∀ ty ad sl sc, (¬ c = 1 → ad = ⟨g, 1, none⟩) → sl = n → (Builtin.append_ #[22, 22] ty #[.slice (some ⟨g, 0, none⟩) 0 c, .slice (some ad) sl sc]).run Try.prog w.drew = .ok (.slice (some ⟨g, 0, none⟩) n c) (w.drew.setRow g R1.toArray) := fun ty ad sl sc had hsl => by
    subst hsl
    have := run_append_room (P := Try.prog) (w := w.drew) 22 ty 2 i0 Try.underlying22 hi g 0 c cur.toArray h4 ad sl sc (fl eI r) (by rw [hrl, hz1, Nat.mul_one])
      (fun k v hk => by
        by_cases hcj : c = 1
        · have : (fl eI r) = [] := List.eq_nil_of_length_eq_zero (by omega)
          rw [this] at hk
          simp at hk
        · rw [had hcj, add_plain]
          exact hcells _ v hk)
      (fl_one eI _) (by omega) (by rw [hz1, hrl]; simp; omega)
    rw [this, hR1]
    simp [splice, hz1]
  have hg1 : (w.drew.setRow g R1.toArray).heap[g]? = some (.cells R1.toArray 2 (0, 0)) := setRow_heap w.drew g _ _ 2 _ h4
  have hcl : ∀ ty c', ∃ W2, (Builtin.clear_ #[22] ty #[.slice (some ⟨g, n, none⟩) 1 c']).run Try.prog (w.drew.setRow g R1.toArray) = .ok (.tuple #[]) W2 ∧ Own eI W2 base 2 (some ⟨g, 0, none⟩) c r ∧ Kp g w W2 := fun ty c' => by
    have hst := run_storeCells_at Try.prog g n 2 [.int .i64 0] 0 R1.toArray _ hg1 (by simp; omega) (by simp [Value.oneCell'])
    refine ⟨(w.drew.setRow g R1.toArray).setRow g (splice R1 n [Value.int .i64 0]).toArray, ?_, own_shut h2 (setRow_heap _ g _ _ 2 _ hg1) h5 (by rw [splice_len _ _ _ (by simp; omega), hR1l]; exact (Nat.mul_one c).symm) (by omega) ?_, kp_setRow (kp_setRow (Kp.refl g w).drew _) _⟩
    · have hz9 : (Builtin.zeroCells #[Value.int .i64 0] 1).toList = [.int .i64 0] := by kernel_rfl
      simp only [Nat.add_zero, List.length_cons, List.length_nil, Nat.zero_add] at hst
      simp [Builtin.clear_, run_underlying Try.underlying22, Value.cells, hz9, hst, splice]
    · rw [hk1, Nat.mul_one, hn, splice_take_low _ _ _ _ (Nat.le_refl _) (by omega), hR1t]
  generalize hW1 : w.drew.setRow g R1.toArray = W1 at hap hcl
  have q2 : ¬ (c = 0) := by omega
  have q3 : ¬ (c = n) := by omega
  have q6 : n ≤ c := by omega
  have q7 : c ≤ 9223372036854775807 := by simp only [maxLen] at h5; omega
  have q8 : 1 ≤ c := by omega
  have q9 : n + 1 ≤ c := by omega
  have q10 : (1 : Int) ≤ (n : Int) + 1 := by omega
  clear hR1 hR1t hR1l h4 h6 h7 hW1 hg1 hcells hi hz0 hz1 hz2 hrl hn hown hcap
  by_cases hcj : c = 1
  · obtain rfl : n = 0 := by omega
    subst hcj
    have hap1 : ∀ ty, (Builtin.append_ #[22, 22] ty #[.slice (some ⟨g, 0, none⟩) 0 1, .slice (some ⟨g, 0, none⟩) 0 0]).run Try.prog w.drew = .ok (.slice (some ⟨g, 0, none⟩) 0 1) W1 := fun ty => hap ty _ _ _ (fun h => absurd rfl h) rfl
    clear hap
    obtain ⟨W2, hc2, hO, hB⟩ := hcl 0 1
    clear hcl
    go_enter Try.func18, Try.ntmps18
    go_wp2
    go_region_law (refine step_append_run rfl _ _ 22 22 rfl _ _ (by simp [Act.eval, Act.put]) (by simp [Act.eval, Act.put]) (hap1 _) ?_)
    go_wp2
    go_ret
    exact ⟨rfl, hO, hB⟩
  · have hap1 : ∀ ty, (Builtin.append_ #[22, 22] ty #[.slice (some ⟨g, 0, none⟩) 0 c, .slice (some ⟨g, 1, none⟩) n (c - 1)]).run Try.prog w.drew = .ok (.slice (some ⟨g, 0, none⟩) n c) W1 := fun ty => hap ty _ _ _ (fun h => rfl) rfl
    clear hap
    obtain ⟨W2, hc2, hO, hB⟩ := hcl 0 (c - n)
    clear hcl
    go_enter Try.func18, Try.ntmps18
    go_wp2
    go_region_law (refine step_append_run rfl _ _ 22 22 rfl _ _ (by simp [Act.eval, Act.put]) (by simp [Act.eval, Act.put]) (hap1 _) ?_)
    go_wp2
    go_ret
    exact ⟨rfl, hO, hB⟩
theorem cloneL (q : Option Addr) (d k : Nat) (l : List Int) (w : World) (hR : Rd eI w q d l) (hk : l.length = k) (hk3 : k ≤ 1000) :
    Calls Try.prog 20 #[.slice q k d] w fun e w' => ∃ (q9 : Option Addr) (d9 : Nat), e = .returned (.slice q9 k d9) ∧ Own eI w' w.heap.size 2 q9 d9 l ∧ Below w.heap.size w w' := by
  have hnil : ∀ (w : World) (a : Option Addr) (n c : Nat), (binOp .eql 22 (.slice a n c) (.slice none 0 0)).run Try.prog w = .ok (.bool a.isNone) w := fun w a n c => Lib.run_eql_slice_nil w 22 2 a n c 0 0 Try.underlying22
  have HK : Hid (l.length = k) := hk
  cases q with
  | none =>
    obtain ⟨rfl, rfl⟩ : l = [] ∧ d = 0 := by
      rcases hR.at_ with ⟨_, h1, h2⟩ | ⟨b, o, s, h, _, _⟩
      · exact ⟨h1, h2⟩
      · cases h
    obtain rfl : k = 0 := hk.symm
    clear hk
    go_enter Try.func20, Try.ntmps20
    go_wp2
    go_ret
    exact ⟨_, _, rfl, own_nil _ _ _, Below.refl _ _⟩
  | some a =>
    clear hk
    go_enter Try.func20, Try.ntmps20
    go_wp2_with (first
      | (at_builtin; refine wpList_app tL _ rfl _ _ rfl w.heap.size _ _ [] 0 rfl rfl (own_blockg (by simp) (by omega) rfl 0 rfl (by decide)) (some a) d l k HK.out rfl (hR.below ((Below.refl _ _).alloc (Nat.le_refl _) _)) (by omega) (by simp) k (by omega) ?_; intro p5 c5 w5 o5 b5 st5))
    go_ret
    exact ⟨_, _, rfl, by simpa using o5, ((Below.refl _ _).alloc (Nat.le_refl _) _).trans b5⟩

set_option maxHeartbeats 4000000 in
theorem deleteI (g c : Nat) (x : Int) (r : List Int) (base : Nat) (w : World) (hown : Own eI w base 3 (some ⟨g, 0, none⟩) c (x :: r)) (n : Nat) (hn : r.length = n) (hn9 : n ≤ 1000) :
    Calls Try.prog 17 #[.slice (some ⟨g, 0, none⟩) (n + 1) c, .int .i64 0, .int .i64 1] w fun e w' => e = .returned (.slice (some ⟨g, 0, none⟩) n c) ∧ Own eI w' base 3 (some ⟨g, 0, none⟩) c r ∧ Kp g w w' := by
  have hcap := own_cap hown
  simp only [List.length_cons] at hcap
  obtain ⟨g', cur, e', h2, h4, h5, h6, h7⟩ := own_open hown (by simp)
  simp only [Option.some.injEq, Addr.mk.injEq, and_true] at e'
  subst e'
  obtain ⟨i0, hi, hz0, hz1, hz2⟩ := info_parts Try.info3
  have hk1 : eI.k = 1 := rfl
  rw [hk1, Nat.mul_one] at h6 h7
  simp only [List.length_cons, fl_cons] at h7
  have hcells : ∀ j v, (fl eI r)[j]? = some v → w.cell? ⟨g, 1 + j, none⟩ = some v := fun j v hj => by
    have := World.ownsRow.cells hown (g := g) rfl (j + 1) v (by rw [fl_cons]; simpa using hj)
    rwa [add_plain, Nat.zero_add, Nat.add_comm] at this
  have hrl : (fl eI r).length = n := by rw [flI_length]; exact hn
  have hcn : n + 1 ≤ c := by omega
  obtain ⟨R1, hR1⟩ : ∃ R1, R1 = splice cur 0 (fl eI r) := ⟨_, rfl⟩
  have hR1l : R1.length = c := by rw [hR1, splice_len _ _ _ (by rw [hrl]; omega), h6]
  have hR1t : R1.take n = fl eI r := by
    have := splice_take_len cur 0 (fl eI r) (by omega)
    rw [hrl, Nat.zero_add] at this
    rw [hR1, this]
    simp
  have hap : ∀ ty ad sl sc, (¬ c = 1 → ad = ⟨g, 1, none⟩) → sl = n → (Builtin.append_ #[23, 23] ty #[.slice (some ⟨g, 0, none⟩) 0 c, .slice (some ad) sl sc]).run Try.prog w.drew = .ok (.slice (some ⟨g, 0, none⟩) n c) (w.drew.setRow g R1.toArray) := fun ty ad sl sc had hsl => by
    subst hsl
    have := run_append_room (P := Try.prog) (w := w.drew) 23 ty 3 i0 Try.underlying23 hi g 0 c cur.toArray h4 ad sl sc (fl eI r) (by rw [hrl, hz1, Nat.mul_one])
      (fun k v hk => by
        by_cases hcj : c = 1
        · have : (fl eI r) = [] := List.eq_nil_of_length_eq_zero (by omega)
          rw [this] at hk
          simp at hk
        · rw [had hcj, add_plain]
          exact hcells _ v hk)
      (fl_one eI _) (by omega) (by rw [hz1, hrl]; simp; omega)
    rw [this, hR1]
    simp [splice, hz1]
  have hg1 : (w.drew.setRow g R1.toArray).heap[g]? = some (.cells R1.toArray 3 (0, 0)) := setRow_heap w.drew g _ _ 3 _ h4
  have hcl : ∀ ty c', ∃ W2, (Builtin.clear_ #[23] ty #[.slice (some ⟨g, n, none⟩) 1 c']).run Try.prog (w.drew.setRow g R1.toArray) = .ok (.tuple #[]) W2 ∧ Own eI W2 base 3 (some ⟨g, 0, none⟩) c r ∧ Kp g w W2 := fun ty c' => by
    have hst := run_storeCells_at Try.prog g n 3 [.int .i64 0] 0 R1.toArray _ hg1 (by simp; omega) (by simp [Value.oneCell'])
    refine ⟨(w.drew.setRow g R1.toArray).setRow g (splice R1 n [Value.int .i64 0]).toArray, ?_, own_shut h2 (setRow_heap _ g _ _ 3 _ hg1) h5 (by rw [splice_len _ _ _ (by simp; omega), hR1l]; exact (Nat.mul_one c).symm) (by omega) ?_, kp_setRow (kp_setRow (Kp.refl g w).drew _) _⟩
    · have hz9 : (Builtin.zeroCells #[Value.int .i64 0] 1).toList = [.int .i64 0] := by kernel_rfl
      simp only [Nat.add_zero, List.length_cons, List.length_nil, Nat.zero_add] at hst
      simp [Builtin.clear_, run_underlying Try.underlying23, Value.cells, hz9, hst, splice]
    · rw [hk1, Nat.mul_one, hn, splice_take_low _ _ _ _ (Nat.le_refl _) (by omega), hR1t]
  generalize hW1 : w.drew.setRow g R1.toArray = W1 at hap hcl
  have q2 : ¬ (c = 0) := by omega
  have q3 : ¬ (c = n) := by omega
  have q6 : n ≤ c := by omega
  have q7 : c ≤ 9223372036854775807 := by simp only [maxLen] at h5; omega
  have q8 : 1 ≤ c := by omega
  have q9 : n + 1 ≤ c := by omega
  have q10 : (1 : Int) ≤ (n : Int) + 1 := by omega
  clear hR1 hR1t hR1l h4 h6 h7 hW1 hg1 hcells hi hz0 hz1 hz2 hrl hn hown hcap
  by_cases hcj : c = 1
  · obtain rfl : n = 0 := by omega
    subst hcj
    have hap1 : ∀ ty, (Builtin.append_ #[23, 23] ty #[.slice (some ⟨g, 0, none⟩) 0 1, .slice (some ⟨g, 0, none⟩) 0 0]).run Try.prog w.drew = .ok (.slice (some ⟨g, 0, none⟩) 0 1) W1 := fun ty => hap ty _ _ _ (fun h => absurd rfl h) rfl
    clear hap
    obtain ⟨W2, hc2, hO, hB⟩ := hcl 0 1
    clear hcl
    go_enter Try.func17, Try.ntmps17
    go_wp2
    go_region_law (refine step_append_run rfl _ _ 23 23 rfl _ _ (by simp [Act.eval, Act.put]) (by simp [Act.eval, Act.put]) (hap1 _) ?_)
    go_wp2
    go_ret
    exact ⟨rfl, hO, hB⟩
  · have hap1 : ∀ ty, (Builtin.append_ #[23, 23] ty #[.slice (some ⟨g, 0, none⟩) 0 c, .slice (some ⟨g, 1, none⟩) n (c - 1)]).run Try.prog w.drew = .ok (.slice (some ⟨g, 0, none⟩) n c) W1 := fun ty => hap ty _ _ _ (fun h => rfl) rfl
    clear hap
    obtain ⟨W2, hc2, hO, hB⟩ := hcl 0 (c - n)
    clear hcl
    go_enter Try.func17, Try.ntmps17
    go_wp2
    go_region_law (refine step_append_run rfl _ _ 23 23 rfl _ _ (by simp [Act.eval, Act.put]) (by simp [Act.eval, Act.put]) (hap1 _) ?_)
    go_wp2
    go_ret
    exact ⟨rfl, hO, hB⟩
theorem cloneI (q : Option Addr) (d k : Nat) (l : List Int) (w : World) (hR : Rd eI w q d l) (hk : l.length = k) (hk3 : k ≤ 1000) :
    Calls Try.prog 19 #[.slice q k d] w fun e w' => ∃ (q9 : Option Addr) (d9 : Nat), e = .returned (.slice q9 k d9) ∧ Own eI w' w.heap.size 3 q9 d9 l ∧ Below w.heap.size w w' := by
  have hnil : ∀ (w : World) (a : Option Addr) (n c : Nat), (binOp .eql 23 (.slice a n c) (.slice none 0 0)).run Try.prog w = .ok (.bool a.isNone) w := fun w a n c => Lib.run_eql_slice_nil w 23 3 a n c 0 0 Try.underlying23
  have HK : Hid (l.length = k) := hk
  cases q with
  | none =>
    obtain ⟨rfl, rfl⟩ : l = [] ∧ d = 0 := by
      rcases hR.at_ with ⟨_, h1, h2⟩ | ⟨b, o, s, h, _, _⟩
      · exact ⟨h1, h2⟩
      · cases h
    obtain rfl : k = 0 := hk.symm
    clear hk
    go_enter Try.func19, Try.ntmps19
    go_wp2
    go_ret
    exact ⟨_, _, rfl, own_nil _ _ _, Below.refl _ _⟩
  | some a =>
    clear hk
    go_enter Try.func19, Try.ntmps19
    go_wp2_with (first
      | (at_builtin; refine wpList_app tI _ rfl _ _ rfl w.heap.size _ _ [] 0 rfl rfl (own_blockg (by simp) (by omega) rfl 0 rfl (by decide)) (some a) d l k HK.out rfl (hR.below ((Below.refl _ _).alloc (Nat.le_refl _) _)) (by omega) (by simp) k (by omega) ?_; intro p5 c5 w5 o5 b5 st5))
    go_ret
    exact ⟨_, _, rfl, by simpa using o5, ((Below.refl _ _).alloc (Nat.le_refl _) _).trans b5⟩
end Go.Proofs.Ytfghondhonflaaa
