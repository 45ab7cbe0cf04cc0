/-
  What the small functions of package delta hand back: has, Left, isTime, behind, waiting, keys.
-/
import Derived.Test.YtannkdnjbacbdaaSpots
import Derived.OwnWalk
import Derived.Deep.AppendLies
namespace Go.Proofs.Ytannkdnjbacbdaa
open Go.ChangeShapes Go.WideShapes Go.ChangeAt Go.RowKit
attribute [local go_sem ↓] Go.wp_at_zero Go.wp_at_succ

theorem ret_pair2 {a b : Int} {p q : Bool} (h : a = b ∧ p = q) : Ending.returned (.tuple #[.int .i64 a, .bool p]) = .returned (.tuple #[.int .i64 b, .bool q]) := by rw [h.1, h.2]
theorem ret_two {a b c d : Int} (h : a = c ∧ b = d) : Ending.returned (.tuple #[.int .i64 a, .int .i64 b]) = .returned (.tuple #[.int .i64 c, .int .i64 d]) := by rw [h.1, h.2]
theorem ret_bool {p q : Bool} (h : p = q) : Ending.returned (.bool p) = .returned (.bool q) := by rw [h]

def hasT (l : List Tm) (k : Int) : Bool := (lookE (entT 0 0 l) k).isSome
def leftT (l : List Tm) (k : Int) : Int := ((lookE (entT 0 0 l) k).getD (0, 0)).2
def placeT (l : List Tm) (k : Int) : Int := ((lookE (entT 0 0 l) k).getD (0, 0)).1

theorem has_any (p : Option Addr) (c : Nat) (l : List Tm) (w : World) (hr : Rd w p c l) (hl : l.length ≤ 100) (hB : Bd l) (k : Int) :
    Calls Try.prog 18 #[.slice p l.length c, .int .i64 k] w fun e w' => e = .returned (.bool (hasT l k)) ∧ Below w.heap.size w w' := by
  go_enter Try.func18, Try.ntmps18
  go_wp2_with (first
    | (go_at_call 21; refine (spots_any _ _ _ _ hr hl hB).mono ?_; rintro e w1 ⟨b, rfl, hm, hb⟩)
    | (at_lookup; refine wpList_look _ rfl _ _ rfl b (entT 0 0 l) rfl hm k rfl (placeT l k) (leftT l k) (hasT l k) rfl rfl ?_))
  go_ret
  exact ⟨rfl, hb.alloc hb.size _⟩

theorem left_any (p : Option Addr) (c : Nat) (l : List Tm) (w : World) (hr : Rd w p c l) (hl : l.length ≤ 100) (hB : Bd l) (k : Int) :
    Calls Try.prog 15 #[.slice p l.length c, .int .i64 k] w fun e w' => e = .returned (.tuple #[.int .i64 (leftT l k), .bool (hasT l k)]) ∧ Below w.heap.size w w' := by
  go_enter Try.func15, Try.ntmps15
  go_wp2_with (first
    | (go_at_call 21; refine (spots_any _ _ _ _ hr hl hB).mono ?_; rintro e w1 ⟨b, rfl, hm, hb⟩)
    | (at_lookup; refine wpList_look _ rfl _ _ rfl b (entT 0 0 l) rfl hm k rfl (placeT l k) (leftT l k) (hasT l k) rfl rfl ?_))
  go_ret2
  exact ⟨rfl, hb.alloc hb.size _⟩

def timeB (n : Int) : Bool := decide (0 ≤ n ∧ n ≤ 4611686018427387904)
theorem isTime_any (n : Int) (w : World) (h0 : -9223372036854775808 ≤ n) (h1 : n ≤ 9223372036854775807) :
    Calls Try.prog 17 #[.int .i64 n] w fun e w' => e = .returned (.bool (timeB n)) ∧ w' = w := by
  have hw : IntKind.u64.wrap n = n % 18446744073709551616 := by simp [IntKind.wrap, IntKind.bits, IntKind.signed]
  go_enter Try.func17, Try.ntmps17
  go_wp2
  go_ret
  refine ⟨ret_bool ?_, rfl⟩
  unfold timeB
  rw [decide_eq_decide]
  omega

/-- How many come no later. -/
def behT : List Tm → Int → Nat
  | [], _ => 0
  | x :: r, n => if x.1 ≤ n then behT r (n - x.1) + 1 else 0
theorem behT_le : ∀ (l : List Tm) (n : Int), behT l n ≤ l.length
  | [], _ => Nat.le_refl _
  | x :: r, n => by
    have := behT_le r (n - x.1)
    simp only [behT]; split <;> simp <;> omega
theorem behT_drop (l : List Tm) (k : Nat) (h : k < l.length) (n : Int) : behT (l.drop k) n = if l[k].1 ≤ n then behT (l.drop (k + 1)) (n - l[k].1) + 1 else 0 := by
  rw [List.drop_eq_getElem_cons h]; rfl

theorem behind_any (p : Option Addr) (c : Nat) (l : List Tm) (w : World) (hr : Rd w p c l) (hl : l.length ≤ 100) (hB : Bd l) (n : Int) (h0 : 0 ≤ n) (h1 : n ≤ 9223372036854775807) :
    Calls Try.prog 19 #[.slice p l.length c, .int .i64 n] w fun e w' => e = .returned (.tuple #[.int .i64 (behT l n), .int .i64 (n - sumA (l.take (behT l n)))]) ∧ w' = w ∧ sumA (l.take (behT l n)) ≤ n := by
  go_enter Try.func19, Try.ntmps19
  go_wp2
  go_loop [1, 4] (fun m i => ∃ k : Nat, k ≤ l.length ∧ i = .int .i64 k ∧ m = .int .i64 (n - sumA (l.take k)) ∧ sumA (l.take k) ≤ n ∧ Hid (behT l n = k + behT (l.drop k) (n - sumA (l.take k)))) (fun _ i => l.length - (intOf i).toNat)
  case atStart => exact ⟨0, Nat.zero_le _, rfl, by simp [sumA], by simpa [sumA] using h0, (by simp [sumA] : behT l n = 0 + behT (l.drop 0) (n - sumA (l.take 0)))⟩
  case round =>
    obtain ⟨k, hk, rfl, rfl, hle, HB⟩ := hrel
    have hs0 := sumA_take_le l hB.low k
    by_cases hlt : k < l.length
    · obtain ⟨b, o, rfl, hb, hc1, hc2⟩ := hr.cells k hlt
      have hm := mem_le_sum l hB.low k hlt
      have HS : Hid (sumA (l.take (k + 1)) = sumA (l.take k) + l[k].1) := sumA_take_succ l k hlt
      have HD := behT_drop l k hlt (n - sumA (l.take k))
      by_cases hx : l[k].1 ≤ n - sumA (l.take k)
      · rw [if_pos hx] at HD
        have HB2 : Hid (behT l n = (k + 1) + behT (l.drop (k + 1)) (n - sumA (l.take (k + 1)))) := by
          show _ = _
          rw [HB.out, HD, HS.out, Int.sub_sub]; omega
        clear HD HB
        go_wp2_with (go_at_call 25; refine (sub_in _ _ _ (by omega) (by omega) (by omega)).mono ?_; rintro e w3 ⟨rfl, rfl⟩)
        go_round
        case rel => exact ⟨k + 1, by omega, by go_num, by rw [HS.out, Int.sub_sub], by rw [HS.out]; omega, HB2⟩
        case measure => simp [intOf]; omega
      · rw [if_neg hx] at HD
        have HB2 : Hid (behT l n = k) := by
          show _ = _
          rw [HB.out, HD]; omega
        clear HD HB
        go_wp2
        go_ret2
        exact ⟨ret_two ⟨by rw [HB2.out], by rw [HB2.out]⟩, rfl, by rw [HB2.out]; exact hle⟩
    · have hkn : k = l.length := by omega
      subst hkn
      have HB2 : Hid (behT l n = l.length) := by
        show _ = _
        rw [HB.out]; simp [behT]
      clear HB
      go_wp2
      go_ret2
      exact ⟨ret_two ⟨by rw [HB2.out], by rw [HB2.out, List.take_length]⟩, rfl, by rw [HB2.out]; exact hle⟩

/-- How many at the front are due. -/
def waitT : List Tm → Nat
  | [] => 0
  | x :: r => if x.1 = 0 then waitT r + 1 else 0
theorem waitT_le : ∀ l : List Tm, waitT l ≤ l.length
  | [] => Nat.le_refl _
  | x :: r => by
    have := waitT_le r
    simp only [waitT]; split <;> simp <;> omega
theorem waitT_drop (l : List Tm) (k : Nat) (h : k < l.length) : waitT (l.drop k) = if l[k].1 = 0 then waitT (l.drop (k + 1)) + 1 else 0 := by
  rw [List.drop_eq_getElem_cons h]; rfl
theorem ret_int {a b : Int} (h : a = b) : Ending.returned (.int .i64 a) = .returned (.int .i64 b) := by rw [h]

theorem waiting_any (p : Option Addr) (c : Nat) (l : List Tm) (w : World) (hr : Rd w p c l) (hl : l.length ≤ 100) :
    Calls Try.prog 24 #[.slice p l.length c] w fun e w' => e = .returned (.int .i64 (waitT l)) ∧ Below w.heap.size w w' := by
  go_enter Try.func24, Try.ntmps24
  go_wp2
  go_loopw [7] (fun i wr => ∃ k : Nat, k ≤ l.length ∧ i = .int .i64 k ∧ Below w.heap.size w wr ∧ Hid (waitT l = k + waitT (l.drop k))) (fun i _ => l.length - (intOf i).toNat)
  case atStart => exact ⟨0, Nat.zero_le _, rfl, Below.refl _ _, (by simp : waitT l = 0 + waitT (l.drop 0))⟩
  case round =>
    obtain ⟨k, hk, rfl, hbw, HB⟩ := hrel
    by_cases hlt : k < l.length
    · obtain ⟨b, o, rfl, hb, hc1, hc2⟩ := (hr.below hbw).cells k hlt
      have HD := waitT_drop l k hlt
      have hsz := hbw.size
      by_cases hx : l[k].1 = 0
      · rw [if_pos hx] at HD
        have HB2 : Hid (waitT l = (k + 1) + waitT (l.drop (k + 1))) := by
          show _ = _
          rw [HB.out, HD]; omega
        rw [hx] at hc1
        clear HD HB hx
        go_wp2
        go_roundw
        case rel => exact ⟨k + 1, by omega, by go_num, hbw.alloc hsz _, HB2⟩
        case measure => simp [intOf]; omega
      · rw [if_neg hx] at HD
        have HB2 : Hid (waitT l = k) := by
          show _ = _
          rw [HB.out, HD]; omega
        have hx' : (l[k].1 == 0) = false := by simpa using hx
        clear HD HB
        go_wp2
        go_ret
        exact ⟨ret_int (by rw [HB2.out]), hbw.alloc hsz _⟩
    · have hkn : k = l.length := by omega
      subst hkn
      have HB2 : Hid (waitT l = l.length) := by
        show _ = _
        rw [HB.out]; simp [waitT]
      clear HB
      go_wp2
      go_ret
      exact ⟨ret_int (by rw [HB2.out]), hbw⟩

/-- A slice of integers that is read. -/
structure RdI (w : World) (p : Option Addr) (c : Nat) (ks : List Int) : Prop where
  cap : ks.length ≤ c
  at_ : (p = none ∧ ks = [] ∧ c = 0) ∨ ∃ b o s, p = some ⟨b, o, s⟩ ∧ (ks ≠ [] → s = none) ∧ ∀ j (h : j < ks.length), w.cell? ⟨b, o + j, none⟩ = some (.int .i64 ks[j])
theorem RdI.below {w w' : World} {p : Option Addr} {c : Nat} {ks : List Int} (h : RdI w p c ks) (hb : Below w.heap.size w w') : RdI w' p c ks := by
  refine ⟨h.cap, ?_⟩
  rcases h.at_ with h0 | ⟨b, o, s, rfl, hs, hc⟩
  · exact .inl h0
  · exact .inr ⟨b, o, s, rfl, hs, fun j hj => (hb.cell (p := ⟨b, o + j, none⟩) (lt_of_cell (hc j hj))).trans (hc j hj)⟩
theorem RdI.cell {w : World} {p : Option Addr} {c : Nat} {ks : List Int} (h : RdI w p c ks) (i : Nat) (hi : i < ks.length) :
    ∃ b o, p = some ⟨b, o, none⟩ ∧ b < w.heap.size ∧ w.cell? ⟨b, o + i, none⟩ = some (.int .i64 ks[i]) := by
  rcases h.at_ with ⟨_, rfl, _⟩ | ⟨b, o, s, e, hs, hc⟩
  · simp at hi
  · have hn := hs (by intro e; simp [e] at hi)
    subst hn
    exact ⟨b, o, e, lt_of_cell (hc i hi), hc i hi⟩
theorem rdI_own {w : World} {base : Nat} {e : TypeId} {p : Option Addr} {n c : Nat} {ks : List Int} (hn : ks.length = n) (h : w.ownsRow base e 1 (.slice p n c) n (ks.map (Value.int .i64))) : RdI w p c ks := by
  subst hn
  rcases h.2 with ⟨h1, h2⟩ | ⟨g, cap, cur, h1, h2, h3, h4, h5, h6, h7⟩
  · simp only [Value.slice.injEq] at h1
    obtain ⟨rfl, h1, rfl⟩ := h1
    exact ⟨by omega, .inl ⟨rfl, List.eq_nil_of_length_eq_zero h1, rfl⟩⟩
  · simp only [Value.slice.injEq, true_and] at h1
    obtain ⟨rfl, rfl⟩ := h1
    refine ⟨h4, .inr ⟨g, 0, none, rfl, fun _ => rfl, fun j hj => ?_⟩⟩
    have := World.ownsRow.cells h (g := g) rfl j (.int .i64 ks[j]) (by simp [hj])
    rwa [add_plain] at this

theorem Try.info3 : (Try.prog.info? 3).map (fun i => (i.zero, i.size, i.bytes)) = some (some (.int .i64 0), 1, 8) := by kernel_rfl

theorem heap_two (w : World) (x o : Obj) : ((w.alloc x).alloc o).heap[w.heap.size + 1]? = some o := by
  have := heap_alloc_new (w.alloc x) o
  simpa using this

set_option maxHeartbeats 1000000 in
theorem keys_any (p : Option Addr) (c : Nat) (l : List Tm) (w : World) (hr : Rd w p c l) (hl : l.length ≤ 100) :
    Calls Try.prog 26 #[.slice p l.length c] w fun e w' => ∃ p' c', e = .returned (.slice p' l.length c') ∧ RdI w' p' c' (l.map (·.2)) ∧ Below w.heap.size w w' := by
  obtain ⟨i0, hi, hz0, hz1, hz2⟩ := info_parts Try.info3
  go_enter Try.func26, Try.ntmps26
  go_wp2_with (at_make; refine wpList_make_own _ rfl _ _ 33 rfl w.heap.size 3 i0 _ 1 Try.underlying33 hi hz0 hz1 _ _ _ l.length rfl rfl rfl (by rw [hz2]; omega) (by simp only [maxLen]; omega) (Nat.le_refl _) ?_; intro w1 hown1 hgrow1)
  have hb1 : Below w.heap.size w w1 := (Below.refl _ _).grown hgrow1 (Nat.le_refl _) (fun k hk => by cases hk)
  go_loopw [3, 11] (fun o i wr => ∃ (k : Nat) (p' : Option Addr) (c' : Nat), k ≤ l.length ∧ i = .int .i64 k ∧ o = .slice p' k c' ∧ wr.ownsRow w.heap.size 3 1 (.slice p' k c') k (((l.take k).map (·.2)).map (Value.int .i64)) ∧ Below w.heap.size w wr) (fun _ i _ => l.length - (intOf i).toNat)
  case atStart => exact ⟨0, _, _, Nat.zero_le _, rfl, rfl, hown1, hb1⟩
  case round =>
    obtain ⟨k, p', c', hk, rfl, rfl, hown, hbw⟩ := hrel
    clear hown1 hb1 hgrow1
    have hsz := hbw.size
    by_cases hlt : k < l.length
    · obtain ⟨b, o, rfl, hb, hc1, hc2⟩ := (hr.below hbw).cells k hlt
      have HT : Hid (((l.take (k + 1)).map (·.2)).map (Value.int .i64) = ((l.take k).map (·.2)).map (Value.int .i64) ++ [Value.int .i64 l[k].2]) := by
        show _ = _
        rw [List.take_succ_eq_append_getElem hlt, List.map_append, List.map_append]; rfl
      generalize hX : ((l.take k).map (·.2)).map (Value.int .i64) = XS at *
      generalize l[k].1 = xa at *
      generalize l[k].2 = xk at *
      clear hX
      have hown2 : ∀ x y, ((wr.alloc x).alloc y).ownsRow w.heap.size 3 1 (.slice p' k c') k XS := fun x y => (hown.alloc x).alloc y
      go_wp2_with (at_builtin; refine wpList_append_lies _ rfl _ _ 33 rfl w.heap.size 3 i0 _ 1 8 Try.underlying33 hi hz0 hz1 hz2 rfl (by omega) (.slice p' k c') k XS rfl (hown2 _ _) ⟨wr.heap.size + 1, 0, none⟩ 1 1 [.int .i64 xk] rfl rfl (World.news_of_block (cs := #[.int .i64 xk]) (t := 3) (fr := (0, 0)) (heap_two _ _ _)) (by simp [Value.oneCell']) (by omega) (by simp only [maxLen]; omega) (by omega) (by simp; omega) _ rfl ?_; intro g cap w2 hown3 hgrow hat hlt2)
      have hlo := World.ownsRow.lt hown
      go_roundw
      case rel =>
        refine ⟨k + 1, _, _, by omega, by go_num, rfl, by rw [HT.out]; exact hown3, ?_⟩
        exact ((hbw.alloc hsz _).alloc (by simp; omega) _).grown hgrow (by simp; omega) (fun j hj => (hlo j hj).1)
      case measure => simp [intOf]; omega
    · have hkn : k = l.length := by omega
      subst hkn
      rw [List.take_length] at hown
      have hR := rdI_own (ks := l.map (·.2)) (by simp) hown
      go_wp2
      go_ret
      exact ⟨_, _, rfl, hR, hbw⟩
end Go.Proofs.Ytannkdnjbacbdaa
