/-
  Put together:
  Small functions of package task: within a range, is there a program, has it a Lock.
  Blocks that are known whole; a store of a struct as one step; a cost as an element.
  Rows of spans, one behind the other: slices.Grow and slices.Concat.
  Which tasks may be, and how long they are: the reckoning of package task.
-/
import Derived.Test.YtonholadabebbaaCofs
import Derived.Deep.QuietTactic
import Derived.Deep.MidRow
import Derived.WalkLawsBesides
import Derived.Deep.RegionHeld3
import Derived.Deep.RegionLaw
import Derived.Lib.AppendZeros
import Derived.Laws.AppendOwn
import Derived.BigQuiet
namespace Go.Proofs.Ytonholadabebbaa
open Go.ChangeShapes Go.WideShapes Go.ChangeAt Go.RowKit
attribute [local go_sem ↓] Go.wp_at_zero Go.wp_at_succ

theorem within_any (v lo hi : Int) (w : World) (B : Bool) (hB : decide (lo ≤ v ∧ v ≤ hi) = B) (h0 : -9223372036854775808 ≤ v) (h1 : v ≤ 9223372036854775807) (hl : 0 ≤ lo) (hh : hi ≤ 1000000) (hlh : lo ≤ hi) :
    Calls Try.prog 27 #[.int .i64 v, .int .i64 lo, .int .i64 hi] w fun e w' => e = .returned (.bool B) ∧ w' = w := by
  have hv : decide (IntKind.u64.wrap (IntKind.u64.wrap v - lo) ≤ hi - lo) = B := by
    rw [← hB, decide_eq_decide]
    have e1 : ∀ x : Int, IntKind.u64.wrap x = x % 18446744073709551616 := fun x => rfl
    rw [e1, e1]
    omega
  have HV : Hid (decide (IntKind.u64.wrap (IntKind.u64.wrap v - lo) ≤ hi - lo) = B) := hv
  clear hB hv
  go_enter Try.func27, Try.ntmps27
  go_wp2
  go_ret
  exact ⟨by rw [← HV.out]; rfl, rfl⟩
theorem isthere_any (p : Option Addr) (n c : Nat) (w : World) (B : Bool) (hB : decide (0 < n) = B) :
    Calls Try.prog 20 #[.slice p n c] w fun e w' => e = .returned (.bool B) ∧ w' = w := by
  go_enter Try.func20, Try.ntmps20
  go_wp2
  go_ret
  exact ⟨by rw [← hB]; rfl, rfl⟩
/-- has it a Lock? -/
def lkB (l : List In) : Bool := l.any fun i => i.1 == 9
theorem bel_self (w : World) (o : Obj) : Below w.heap.size w (w.alloc o) := (Below.refl _ _).alloc (Nat.le_refl _) _
theorem islock_any (a b c d : Int) (w : World) : Calls Try.prog 44 #[.agg #[.int .i64 a, .int .i64 b, .int .i64 c, .int .i64 d]] w fun e w' => e = .returned (.bool (a == 9)) ∧ Below w.heap.size w w' := by
  have s1 := bel_self w (.cells #[.int .i64 a, .int .i64 b, .int .i64 c, .int .i64 d] 42)
  go_enter Try.func44, Try.ntmps44
  go_wp2
  go_ret
  exact ⟨rfl, s1⟩
theorem lk_yes {l : List In} {k : Nat} (hk : k < l.length) (h : l[k].1 = 9) : lkB l = true := List.any_eq_true.2 ⟨_, List.getElem_mem hk, by simpa using h⟩
theorem lk_no {l : List In} (h : ∀ j, (hj : j < l.length) → ¬ l[j].1 = 9) : lkB l = false := by
  unfold lkB
  rw [List.any_eq_false]
  intro x hx
  obtain ⟨i, hi, rfl⟩ := List.mem_iff_getElem.1 hx
  simpa using h i hi
set_option maxHeartbeats 1000000 in
theorem lockix_any (p : Option Addr) (c : Nat) (l : List In) (w : World) (hr : Rd eIn w p c l) (n : Nat) (hN : l.length = n) (hn : n ≤ 1000) :
    Calls Try.prog 58 #[.slice p n c, .func (.func 44) #[] #[]] w fun e w' => (∃ v : Int, e = .returned (.int .i64 v) ∧ decide (0 ≤ v) = lkB l) ∧ Below w.heap.size w w' := by
  have HN : Hid (l.length = n) := hN
  clear hN
  go_enter Try.func58, Try.ntmps58
  go_wp2
  go_loopw [8] (fun i wr => ∃ k : Nat, k ≤ n ∧ i = .int .i64 k ∧ Hid (∀ j, (hj : j < l.length) → j < k → ¬ l[j].1 = 9) ∧ Below w.heap.size w wr) (fun i _ => n - (intOf i).toNat)
  case atStart => exact ⟨0, Nat.zero_le _, rfl, fun j _ hj => by omega, Below.refl _ _⟩
  case round =>
    obtain ⟨k, hk, rfl, HT, hbw⟩ := hrel
    by_cases hlt : k < n
    · have hkl : k < l.length := by rw [HN.out]; exact hlt
      obtain ⟨b, f, rfl, hb, f0, f1, f2, f3⟩ := (hr.below hbw).inst k hkl
      by_cases hs : l[k].1 = 9
      · have HF : Hid (lkB l = true) := lk_yes hkl hs
        have hx : (l[k].1 == 9) = true := by simpa using hs
        clear hs
        generalize l[k] = x at *
        go_wp2_with (go_at_call 44; refine (islock_any x.1 x.2.1 x.2.2.1 x.2.2.2 _).mono ?_; rintro e w4 ⟨rfl, hb4⟩)
        go_ret
        exact ⟨⟨k, rfl, by rw [HF.out]; simp⟩, bel_call hbw (Nat.le_refl _) hb4⟩
      · have hx : (l[k].1 == 9) = false := by simpa using hs
        have HK : Hid (∀ j, (hj : j < l.length) → j < k + 1 → ¬ l[j].1 = 9) := fun j hj hlt => (if e : j = k then by subst e; exact hs else HT.out j hj (by omega))
        clear hs
        generalize l[k] = x at *
        go_wp2_with (go_at_call 44; refine (islock_any x.1 x.2.1 x.2.2.1 x.2.2.2 _).mono ?_; rintro e w4 ⟨rfl, hb4⟩)
        go_roundw
        case rel => exact ⟨k + 1, by omega, by go_num, HK, bel_call hbw (Nat.le_refl _) hb4⟩
        case measure => simp [intOf]; omega
    · have HF : Hid (lkB l = false) := lk_no (fun j hj => HT.out j hj (by rw [HN.out] at hj; omega))
      go_wp2
      go_ret
      exact ⟨⟨-1, rfl, by rw [HF.out]; decide⟩, hbw⟩
theorem locks_any (p : Option Addr) (c : Nat) (l : List In) (w : World) (hr : Rd eIn w p c l) (n : Nat) (hN : l.length = n) (hn : n ≤ 1000) (B : Bool) (hB : lkB l = B) :
    Calls Try.prog 43 #[.slice p n c, .func (.func 44) #[] #[]] w fun e w' => e = .returned (.bool B) ∧ Below w.heap.size w w' := by
  have hx := lockix_any p c l w hr n hN hn
  clear hN
  go_enter Try.func43, Try.ntmps43
  go_wp2_with (go_at_call 58; refine hx.mono ?_; rintro e w4 ⟨⟨v, rfl, hv⟩, hb4⟩)
  go_ret
  exact ⟨by rw [← hB, ← hv]; rfl, hb4⟩
/-- .. by the document -/
theorem rlocks_any (p : Option Addr) (c : Nat) (l : List In) (w : World) (hr : Rd eIn w p c l) (n : Nat) (hN : l.length = n) (hn : n ≤ 1000) (B : Bool) (hB : lkB l = B) :
    Calls Try.prog 23 #[.slice p n c] w fun e w' => e = .returned (.bool B) ∧ w' = w := by
  have HN : Hid (l.length = n) := hN
  have HB : Hid (lkB l = B) := hB
  clear hN hB
  go_enter Try.func23, Try.ntmps23
  go_wp2
  go_loopw [3] (fun i wr => ∃ k : Nat, k ≤ n ∧ i = .int .i64 k ∧ Hid (∀ j, (hj : j < l.length) → j < k → ¬ l[j].1 = 9) ∧ wr = w) (fun i _ => n - (intOf i).toNat)
  case atStart => exact ⟨0, Nat.zero_le _, rfl, fun j _ hj => by omega, rfl⟩
  case round =>
    obtain ⟨k, hk, rfl, HT, rfl⟩ := hrel
    by_cases hlt : k < n
    · have hkl : k < l.length := by rw [HN.out]; exact hlt
      obtain ⟨b, f, rfl, hb, f0, f1, f2, f3⟩ := hr.inst k hkl
      by_cases hs : l[k].1 = 9
      · have HF : Hid (lkB l = true) := lk_yes hkl hs
        have hx : (l[k].1 == 9) = true := by simpa using hs
        clear hs
        generalize l[k] = x at *
        go_wp2
        go_ret
        exact ⟨by rw [← HB.out, HF.out]; rfl, rfl⟩
      · have hx : (l[k].1 == 9) = false := by simpa using hs
        have HK : Hid (∀ j, (hj : j < l.length) → j < k + 1 → ¬ l[j].1 = 9) := fun j hj hlt => (if e : j = k then by subst e; exact hs else HT.out j hj (by omega))
        clear hs
        generalize l[k] = x at *
        go_wp2
        go_roundw
        case rel => exact ⟨k + 1, by omega, by go_num, HK, trivial⟩
        case measure => simp [intOf]; omega
    · have HF : Hid (lkB l = false) := lk_no (fun j hj => HT.out j hj (by rw [HN.out] at hj; omega))
      go_wp2
      go_ret
      exact ⟨by rw [← HB.out, HF.out]; rfl, rfl⟩
/-- may an optional part be? -/
def optB (l : List In) : Bool := l.length == 0 || (okB l && !lkB l)
theorem mayopt_any (p : Option Addr) (c : Nat) (l : List In) (w : World) (hr : Rd eIn w p c l) (n : Nat) (hN : l.length = n) (hn : n ≤ 1000) (B : Bool) (hB : optB l = B) :
    Calls Try.prog 30 #[.slice p n c] w fun e w' => e = .returned (.bool B) ∧ Below w.heap.size w w' := by
  have h1 := isthere_any p n c w (decide (0 < n)) rfl
  unfold optB at hB
  rw [hN] at hB
  by_cases h0 : n = 0
  · subst h0
    have hB2 : B = true := by rw [← hB]; rfl
    subst hB2
    clear hB hN
    go_enter Try.func30, Try.ntmps30
    go_wp2_with (go_at_call 20; refine (isthere_any p 0 c _ false rfl).mono ?_; rintro e w4 ⟨rfl, rfl⟩)
    go_ret
    exact ⟨rfl, Below.refl _ _⟩
  · have hne : (n == 0) = false := by simpa using h0
    rw [hne, Bool.false_or] at hB
    have hd : decide (0 < n) = true := by simp; omega
    cases hk : okB l with
    | false =>
      have hB2 : B = false := by rw [← hB, hk]; rfl
      subst hB2
      have hs := fun w' (hb : Below w.heap.size w w') => shape_c p c l w' n false hN hk (hr.below hb) hn
      clear hB hN hk h1 hne
      go_enter Try.func30, Try.ntmps30
      go_wp2_with (first
        | (go_at_call 20; refine (isthere_any p n c _ true hd).mono ?_; rintro e w4 ⟨rfl, rfl⟩)
        | (go_at_call 38; refine (hs _ (Below.refl _ _)).mono ?_; rintro e w5 ⟨rfl, b5⟩))
      go_ret
      exact ⟨rfl, b5⟩
    | true =>
      have hB2 : (!lkB l) = B := by rw [← hB, hk]; rfl
      have hs := fun w' (hb : Below w.heap.size w w') => shape_c p c l w' n true hN hk (hr.below hb) hn
      have hx := fun w' (hb : Below w.heap.size w w') => locks_any p c l w' (hr.below hb) n hN hn (lkB l) rfl
      have HB : Hid ((!lkB l) = B) := hB2
      generalize lkB l = LK at *
      clear hB hB2 hN hk h1 hne
      go_enter Try.func30, Try.ntmps30
      go_wp2_with (first
        | (go_at_call 43; refine (hx _ b5).mono ?_; rintro e w6 ⟨rfl, b6⟩)
        | (go_at_call 20; refine (isthere_any p n c _ true hd).mono ?_; rintro e w4 ⟨rfl, rfl⟩)
        | (go_at_call 38; refine (hs _ (Below.refl _ _)).mono ?_; rintro e w5 ⟨rfl, b5⟩))
      go_ret
      exact ⟨by rw [← HB.out]; rfl, bel_call b5 (Nat.le_refl _) b6⟩
end Go.Proofs.Ytonholadabebbaa

namespace Go.Proofs.Ytonholadabebbaa
open Go.ChangeShapes Go.WideShapes Go.ChangeAt Go.RowKit
attribute [local go_sem ↓] Go.wp_at_zero Go.wp_at_succ

/-- p is no address in block g. -/
def Far (p : Option Addr) (g : Nat) : Prop := ∀ b o, p = some ⟨b, o, none⟩ → b ≠ g
/-- A block that is known whole. -/
def Lv (w : World) (g : Nat) (cs : Array Value) (e : TypeId) : Prop := w.heap[g]? = some (.cells cs e (0, 0))
theorem Lv.lt {w : World} {g : Nat} {cs : Array Value} {e : TypeId} (h : Lv w g cs e) : g < w.heap.size := (Array.getElem?_eq_some_iff.1 h).1
theorem Lv.below {w w' : World} {g : Nat} {cs : Array Value} {e : TypeId} (h : Lv w g cs e) (hb : Below w.heap.size w w') : Lv w' g cs e := (hb.block g h.lt).trans h
theorem Lv.new (w : World) (cs : Array Value) (e : TypeId) : Lv (w.alloc (.cells cs e)) w.heap.size cs e := heap_alloc_new _ _
theorem Lv.fz {w : World} {g : Nat} {cs : Array Value} {e : TypeId} (h : Lv w g cs e) (j : Nat) : w.frozen? ⟨g, j, none⟩ = false := by
  have h' : w.heap[g]? = some (.cells cs e (0, 0)) := h
  simp [World.frozen?, h']
theorem Lv.c {w : World} {g : Nat} {cs : Array Value} {e : TypeId} (h : Lv w g cs e) (j : Nat) {v : Value} (hv : cs[j]? = some v) : w.cell? ⟨g, j, none⟩ = some v := by
  rw [cell_of_row _ _ _ _ _ _ h]
  exact hv
theorem Lv.set {w : World} {g : Nat} {cs : Array Value} {e : TypeId} (h : Lv w g cs e) (j : Nat) (v : Value) : Lv (w.setCell ⟨g, j, none⟩ v) g (cs.setIfInBounds j v) e := heap_setCell_same _ _ _ _ _ _ h
theorem Lv.far {w : World} {g : Nat} {cs : Array Value} {e : TypeId} (h : Lv w g cs e) {a : Addr} (hn : a.block ≠ g) (v : Value) : Lv (w.setCell a v) g cs e := (Below.heap_setCell w a v g (fun e => hn e.symm)).trans h
theorem Lv.draw {w : World} {g : Nat} {cs : Array Value} {e : TypeId} (h : Lv w g cs e) : Lv w.drew g cs e := h
/-- cells set one by one -/
def putAs (cs : Array Value) : Nat → List Value → Array Value
  | _, [] => cs
  | o, v :: r => putAs (cs.setIfInBounds o v) (o + 1) r
def putLs (cs : List Value) : Nat → List Value → List Value
  | _, [] => cs
  | o, v :: r => putLs (cs.set o v) (o + 1) r
theorem putAs_toList : ∀ (vs : List Value) (cs : Array Value) (o : Nat), (putAs cs o vs).toList = putLs cs.toList o vs
  | [], _, _ => rfl
  | v :: r, cs, o => by rw [putAs, putLs, putAs_toList r, Array.toList_setIfInBounds]
theorem putLs_take : ∀ (vs : List Value) (l : List Value) (o m : Nat), (putLs l o vs).take m = putLs (l.take m) o vs
  | [], _, _, _ => rfl
  | v :: r, l, o, m => by rw [putLs, putLs, putLs_take r, List.take_set]
theorem putLs_length : ∀ (vs : List Value) (l : List Value) (o : Nat), (putLs l o vs).length = l.length
  | [], _, _ => rfl
  | v :: r, l, o => by rw [putLs, putLs_length r, List.length_set]
theorem putLs_mid : ∀ (b a p r : List Value), a.length = b.length → putLs (p ++ a ++ r) p.length b = p ++ b ++ r
  | [], a, p, r, h => by
    have : a = [] := List.eq_nil_of_length_eq_zero h
    subst this; rfl
  | v :: b, [], p, r, h => by simp at h
  | v :: b, x :: a, p, r, h => by
    have e : (p ++ x :: a ++ r).set p.length v = (p ++ [v]) ++ a ++ r := by simp
    rw [putLs, e]
    have := putLs_mid b a (p ++ [v]) r (by simpa using h)
    rw [List.length_append, List.length_singleton] at this
    rw [this]; simp
theorem putLs_right : ∀ (vs a l : List Value) (o : Nat), putLs (a ++ l) (a.length + o) vs = a ++ putLs l o vs
  | [], _, _, _ => rfl
  | v :: r, a, l, o => by
    rw [putLs, putLs, List.set_append_right _ _ (by omega), show a.length + o - a.length = o by omega]
    exact putLs_right r a (l.set o v) (o + 1)
theorem putLs_fl {α : Type} (E : Elt α) (v : α) : ∀ (l : List α) (k : Nat), k < l.length → putLs (fl E l) (k * E.k) (E.enc v) = fl E (l.set k v)
  | x :: r, 0, _ => by
    rw [List.set_cons_zero, fl, fl, Nat.zero_mul]
    have := putLs_mid (E.enc v) (E.enc x) [] (fl E r) (by rw [E.len, E.len])
    simpa using this
  | x :: r, k + 1, h => by
    rw [List.set_cons_succ, fl, fl, ← putLs_fl E v r k (by simpa using h), Nat.succ_mul, Nat.add_comm, ← E.len x]
    exact putLs_right _ _ _ _
theorem heap_setCells : ∀ (vs : List Value) (w : World) (g o : Nat) (cs : Array Value) (e : TypeId), w.heap[g]? = some (.cells cs e (0, 0)) → (w.setCells g o vs).heap[g]? = some (.cells (putAs cs o vs) e (0, 0))
  | [], _, _, _, _, _, h => h
  | _ :: r, _, g, o, _, e, h => heap_setCells r _ g (o + 1) _ e (heap_setCell_same _ _ _ _ _ _ h)
theorem Kp.setCells : ∀ (vs : List Value) (w : World) (g o : Nat), Kp g w (w.setCells g o vs)
  | [], _, _, _ => Kp.refl _ _
  | v :: r, _, g, o => (Kp.set (a := ⟨g, o, none⟩) rfl v).trans (Kp.setCells r _ g (o + 1))
theorem there_of {w : World} {g : Nat} {cs : Array Value} {e : TypeId} (h : Lv w g cs e) (o n : Nat) (hn : o + n ≤ cs.size) : w.there g o n := fun j hj => by
  have h' : w.heap[g]? = some (.cells cs e (0, 0)) := h
  refine ⟨?_, h.fz _⟩
  rw [cell_of_row _ _ _ _ _ _ h']
  simp
  omega
theorem rng_of {w : World} {g : Nat} {cs : Array Value} {e : TypeId} (h : Lv w g cs e) : w.rangeAt g 0 cs.toList := fun j v hv => by
  rw [Nat.zero_add]
  exact h.c j (by rw [← Array.getElem?_toList]; exact hv)
theorem Rd.rng {α : Type} {E : Elt α} {w : World} {b o : Nat} {c : Nat} {l : List α} (h : Rd E w (some ⟨b, o, none⟩) c l) (i : Nat) (hi : i < l.length) : w.rangeAt b (o + i * E.k) (E.enc l[i]) := fun j v hv => by
  obtain ⟨b', o', e, _, hc⟩ := h.cells i hi
  cases e
  exact hc j v hv
theorem one_all {α : Type} (E : Elt α) (v : α) : (E.enc v).toArray.all (·.oneCell') = true := all_oneCell_toArray (fun x hx => E.one v x hx)
section
variable {P : Program}
/-- into a variable -/
theorem wp_stV {α : Type} {E : Elt α} {op : Oper} {a : Act} {w : World} {K : Act → World → Prop} {Q : Exit → Act → World → Prop} (e : TypeId) (x y : Operand) (ho : op.op = .store e x y)
    (hi : (P.info? e).map (·.size) = some E.k) (g : Nat) (cs : Array Value) (hl : Lv w g cs e) (hs : cs.size = E.k) (v : α) (hx : a.eval x = .pointer (some ⟨g, 0, none⟩)) (hy : a.eval y = .agg (E.enc v).toArray)
    (h : ∀ w', Lv w' g (E.enc v).toArray e → Kp g w w' → K (a.put op.dst undef) w') : op.wp P a w K Q := by
  have hsz : (E.enc v).toArray.size = E.k := by simp [E.len]
  refine wp_store_mid e x y ho g 0 (E.enc v).toArray hx hy (by rw [hsz, ← hs]; exact there_of hl 0 cs.size (by omega)) (by rw [hsz]; exact hi) (one_all E v) (h _ ?_ (Kp.setCells _ _ _ _))
  have h1 := heap_setCells (E.enc v).toArray.toList w g 0 cs e hl
  have h2 : putAs cs 0 (E.enc v).toArray.toList = (E.enc v).toArray := by
    apply Array.toList_inj.1
    rw [putAs_toList]
    have := putLs_mid (E.enc v) cs.toList [] [] (by rw [E.len, Array.length_toList, hs])
    simpa using this
  rw [h2] at h1
  exact h1
theorem wpList_stV {α : Type} {E : Elt α} {ops : Array Oper} {rest : List Oper} {op : Oper} {a : Act} {w : World} {Q : Exit → Act → World → Prop} (hgd : op.guard = none) (e : TypeId) (x y : Operand) (ho : op.op = .store e x y)
    (hi : (P.info? e).map (·.size) = some E.k) (g : Nat) (cs : Array Value) (hl : Lv w g cs e) (hs : cs.size = E.k) (v : α) (hx : a.eval x = .pointer (some ⟨g, 0, none⟩)) (hy : a.eval y = .agg (E.enc v).toArray)
    (h : ∀ w', Lv w' g (E.enc v).toArray e → Kp g w w' → wpList P ops Q rest (a.put op.dst undef) w') : wpList P ops Q (op :: rest) a w :=
  wpList_plain hgd fun _ hK => wp_stV e x y ho hi g cs hl hs v hx hy fun w' h1 h2 => hK _ _ (h w' h1 h2)
/-- into an own row -/
theorem wp_stR {α : Type} {E : Elt α} {op : Oper} {a : Act} {w : World} {K : Act → World → Prop} {Q : Exit → Act → World → Prop} (e : TypeId) (x y : Operand) (ho : op.op = .store e x y)
    (hi : (P.info? e).map (·.size) = some E.k) (base g c : Nat) (l : List α) (hown : Own E w base e (some ⟨g, 0, none⟩) c l) (k : Nat) (hk : k < l.length) (O : Nat) (hO : O = k * E.k) (v : α) (hx : a.eval x = .pointer (some ⟨g, O, none⟩)) (hy : a.eval y = .agg (E.enc v).toArray)
    (h : ∀ w', Own E w' base e (some ⟨g, 0, none⟩) c (l.set k v) → Kp g w w' → K (a.put op.dst undef) w') : op.wp P a w K Q := by
  subst hO
  have hsz : (E.enc v).toArray.size = E.k := by simp [E.len]
  have hkk : k * E.k + E.k ≤ l.length * E.k := by
    rw [← Nat.succ_mul]; exact Nat.mul_le_mul_right _ hk
  rcases hown.2 with ⟨h1, _⟩ | ⟨g', cap, cur, h1, h2, h3, h4, h5, h6, h7⟩
  · simp at h1
  · simp only [Value.slice.injEq, Option.some.injEq, Addr.mk.injEq, and_true, true_and] at h1
    obtain ⟨rfl, rfl⟩ := h1
    have hc : c * E.k = cur.size := h6.symm
    have hlc : l.length * E.k ≤ c * E.k := Nat.mul_le_mul_right _ h4
    refine wp_store_mid e x y ho g _ (E.enc v).toArray hx hy (by rw [hsz]; exact there_of h3 _ _ (by omega)) (by rw [hsz]; exact hi) (one_all E v) (h _ ?_ (Kp.setCells _ _ _ _))
    have h9 := heap_setCells (E.enc v).toArray.toList w g (k * E.k) cur e h3
    refine ⟨fl_length E _, .inr ⟨g, c, _, by simp, h2, h9, by simpa using h4, h5, ?_, ?_⟩⟩
    · rw [← Array.length_toList, putAs_toList, putLs_length, Array.length_toList, h6]
    · rw [putAs_toList, List.length_set, putLs_take, h7]
      exact putLs_fl E v l k hk
theorem wpList_stR {α : Type} {E : Elt α} {ops : Array Oper} {rest : List Oper} {op : Oper} {a : Act} {w : World} {Q : Exit → Act → World → Prop} (hgd : op.guard = none) (e : TypeId) (x y : Operand) (ho : op.op = .store e x y)
    (hi : (P.info? e).map (·.size) = some E.k) (base g c : Nat) (l : List α) (hown : Own E w base e (some ⟨g, 0, none⟩) c l) (k : Nat) (hk : k < l.length) (O : Nat) (hO : O = k * E.k) (v : α) (hx : a.eval x = .pointer (some ⟨g, O, none⟩)) (hy : a.eval y = .agg (E.enc v).toArray)
    (h : ∀ w', Own E w' base e (some ⟨g, 0, none⟩) c (l.set k v) → Kp g w w' → wpList P ops Q rest (a.put op.dst undef) w') : wpList P ops Q (op :: rest) a w :=
  wpList_plain hgd fun _ hK => wp_stR e x y ho hi base g c l hown k hk O hO v hx hy fun w' h1 h2 => hK _ _ (h w' h1 h2)
/-- .. in a region that draws its order -/
theorem step_stR {α : Type} {E : Elt α} {ops : Array Oper} {o : Oper} {a : Act} {w : World} {K : Act → World → Prop} {Q : Exit → Act → World → Prop} {G : Prop} (hgd : o.guard = none) (e : TypeId) (x y : Operand) (ho : o.op = .store e x y)
    (hi : (P.info? e).map (·.size) = some E.k) (base g c : Nat) (l : List α) (hown : Own E w base e (some ⟨g, 0, none⟩) c l) (k : Nat) (hk : k < l.length) (O : Nat) (hO : O = k * E.k) (v : α) (hx : a.eval x = .pointer (some ⟨g, O, none⟩)) (hy : a.eval y = .agg (E.enc v).toArray)
    (h : ∀ w', Own E w' base e (some ⟨g, 0, none⟩) c (l.set k v) → Kp g w w' → K (a.put o.dst undef) w') :
    if Region.wanted o (yielded ops a.tmps) = true then Oper.wp P o a w K Q else G := by
  have hw : Region.wanted o (yielded ops a.tmps) = true := by simp [Region.wanted, hgd]
  rw [if_pos hw]
  exact wp_stR e x y ho hi base g c l hown k hk O hO v hx hy h
theorem step_stV {α : Type} {E : Elt α} {ops : Array Oper} {o : Oper} {a : Act} {w : World} {K : Act → World → Prop} {Q : Exit → Act → World → Prop} {G : Prop} (hgd : o.guard = none) (e : TypeId) (x y : Operand) (ho : o.op = .store e x y)
    (hi : (P.info? e).map (·.size) = some E.k) (g : Nat) (cs : Array Value) (hl : Lv w g cs e) (hs : cs.size = E.k) (v : α) (hx : a.eval x = .pointer (some ⟨g, 0, none⟩)) (hy : a.eval y = .agg (E.enc v).toArray)
    (h : ∀ w', Lv w' g (E.enc v).toArray e → Kp g w w' → K (a.put o.dst undef) w') :
    if Region.wanted o (yielded ops a.tmps) = true then Oper.wp P o a w K Q else G := by
  have hw : Region.wanted o (yielded ops a.tmps) = true := by simp [Region.wanted, hgd]
  rw [if_pos hw]
  exact wp_stV e x y ho hi g cs hl hs v hx hy h
end
theorem Lv.kp {w w' : World} {g h : Nat} {cs : Array Value} {e : TypeId} (hv : Lv w g cs e) (hk : Kp h w w') (hne : g ≠ h) : Lv w' g cs e := (hk.block g hv.lt (by intro e; cases e; exact hne rfl)).trans hv
theorem rd_kpF {α : Type} {E : Elt α} {w w' : World} {g : Nat} {p : Option Addr} {c : Nat} {l : List α} (h : Rd E w p c l) (hk : Kp g w w') (hf : Far p g) : Rd E w' p c l := rd_kp h hk (fun b o e _ => hf b o e)
theorem bel_kp {B g : Nat} {w w' w2 : World} (h : Below B w w') (hk : Kp g w' w2) (hg : B ≤ g) (hB : B ≤ w'.heap.size) : Below B w w2 := ⟨hk.os.trans h.os, hk.tape.trans h.tape, hk.output.trans h.output, Nat.le_trans h.size hk.size, fun i hi => (hk.block i (Nat.lt_of_lt_of_le hi hB) (by intro e; cases e; omega)).trans (h.block i hi)⟩
/-- a cost's cells -/
structure Cz where
  a : Int
  b : Int
  q : Option Addr
  m : Nat
  d : Nat
def eC : Elt Cz := ⟨3, fun x => [.int .i64 x.a, .int .i64 x.b, .slice x.q x.m x.d], fun _ => rfl, by intro x v hv; simp at hv; rcases hv with rfl | rfl | rfl <;> rfl, by decide⟩
theorem size53 : (Try.prog.info? 53).map (·.size) = some eC.k := by kernel_rfl
def Vc (w : World) (g : Nat) (x : Cz) : Prop := Lv w g #[.int .i64 x.a, .int .i64 x.b, .slice x.q x.m x.d] 53
theorem Vc.below {w w' : World} {g : Nat} {x : Cz} (h : Vc w g x) (hb : Below w.heap.size w w') : Vc w' g x := Lv.below h hb
theorem Vc.lt {w : World} {g : Nat} {x : Cz} (h : Vc w g x) : g < w.heap.size := Lv.lt h
theorem Vc.new (w : World) (x : Cz) : Vc (w.alloc (.cells #[.int .i64 x.a, .int .i64 x.b, .slice x.q x.m x.d] 53)) w.heap.size x := Lv.new _ _ _
theorem Vc.at {w : World} {g : Nat} {x : Cz} (h : Vc w g x) : w.cell? ⟨g, 0, none⟩ = some (.int .i64 x.a) ∧ w.cell? ⟨g, 1, none⟩ = some (.int .i64 x.b) ∧ w.cell? ⟨g, 2, none⟩ = some (.slice x.q x.m x.d) := ⟨Lv.c h 0 rfl, Lv.c h 1 rfl, Lv.c h 2 rfl⟩
theorem Vc.fz {w : World} {g : Nat} {x : Cz} (h : Vc w g x) : w.frozen? ⟨g, 0, none⟩ = false ∧ w.frozen? ⟨g, 1, none⟩ = false ∧ w.frozen? ⟨g, 2, none⟩ = false := ⟨Lv.fz h 0, Lv.fz h 1, Lv.fz h 2⟩
theorem load53 {w : World} {g : Nat} {x : Cz} (h : Vc w g x) : (loadVar 53 ⟨g, 0, none⟩).run Try.prog w = .ok (.agg #[.int .i64 x.a, .int .i64 x.b, .slice x.q x.m x.d]) w :=
  run_loadVar_mid w g 0 53 (eC.enc x) _ (rng_of h) Try.underlying53 rfl size53
end Go.Proofs.Ytonholadabebbaa

namespace Go.Proofs.Ytonholadabebbaa
open Go.ChangeShapes Go.WideShapes Go.ChangeAt Go.RowKit
attribute [local go_sem ↓] Go.wp_at_zero Go.wp_at_succ

/-- a slice, as a cell -/
def eS : Elt (Option Addr × Nat × Nat) := ⟨1, fun x => [.slice x.1 x.2.1 x.2.2], fun _ => rfl, by intro x v hv; simp at hv; subst hv; rfl, by decide⟩
theorem Rd.row {w : World} {p : Option Addr} {c : Nat} {l : List (Option Addr × Nat × Nat)} (h : Rd eS w p c l) (i : Nat) (hi : i < l.length) :
    ∃ b o, p = some ⟨b, o, none⟩ ∧ b < w.heap.size ∧ w.cell? ⟨b, o + i, none⟩ = some (.slice l[i].1 l[i].2.1 l[i].2.2) := by
  obtain ⟨b, o, e, hb, hc⟩ := h.cells i hi
  have := hc 0 _ rfl
  exact ⟨b, o, e, hb, by simpa [eS] using this⟩
theorem zeros_sp (w : World) (ty : TypeId) (base n : Nat) (h0 : 0 < n) (hn : n ≤ 2000) (hb : base ≤ w.heap.size) :
    ∃ p c w', (Builtin.append_ #[33, 3] ty #[.slice none 0 0, .int .i64 (n : Int)]).run Try.prog w = .ok (.slice p n c) w' ∧ Own eSp w' base 39 p c [] ∧ n ≤ c ∧ Below w.heap.size w w' := by
  obtain ⟨i, hi, hz, hs, hby⟩ := info_parts Try.info39
  have hr := Lib.run_append_nil_zeros (P := Try.prog) w 33 3 ty 39 i _ .i64 .i64 Try.underlying33 Try.underlying3 hi hz n h0 (by omega) (by omega) (by rw [hby]; omega)
  have hg := grownCap_ge w n 0 39
  have hm := grownCap_le_maxLen w n 0 39 (by show n ≤ 9223372036854775807; omega)
  refine ⟨_, _, _, hr, ?_, hg, (Below.refl _ _).drew.trans (bel_self w.drew _)⟩
  refine ⟨rfl, .inr ⟨w.heap.size, grownCap w n 0 39, _, rfl, hb, heap_alloc_new w.drew _, Nat.zero_le _, hm, ?_, ?_⟩⟩
  · rw [Array.size_append, size_zeroCells, size_zeroCells]
    have e1 : (Value.agg #[Value.int IntKind.i64 0, Value.int IntKind.i64 0]).cells.size = 2 := rfl
    have e2 : eSp.k = 2 := rfl
    rw [e1, e2]
    omega
  · show List.take (0 * 2) _ = []
    rfl
theorem grow_any (n : Nat) (w : World) (hn : n ≤ 2000) :
    Calls Try.prog 31 #[.slice none 0 0, .int .i64 (n : Int)] w fun e w' => ∃ p c, e = .returned (.slice p 0 c) ∧ Own eSp w' w.heap.size 39 p c [] ∧ Below w.heap.size w w' := by
  by_cases h0 : n = 0
  · subst h0
    go_enter Try.func31, Try.ntmps31
    go_wp2
    go_ret
    exact ⟨none, 0, rfl, own_nil _ _ _, Below.refl _ _⟩
  · have hd : decide ((n : Int) > 0) = true := by simp; omega
    have hd2 : decide ((n : Int) < 0) = false := by simp
    have hd3 : (0 : Int) < (n : Int) := by omega
    have hn0 : 0 < n := by omega
    clear h0
    go_enter Try.func31, Try.ntmps31
    go_wp2_with (at_builtin; obtain ⟨p9, c9, w9, r9, o9, g9, b9⟩ := zeros_sp w 33 w.heap.size n hn0 hn (Nat.le_refl _); refine Lib.wpList_append_run _ rfl _ _ _ _ rfl _ _ rfl rfl _ _ r9 ?_)
    go_ret
    exact ⟨_, _, rfl, o9, b9⟩
set_option maxHeartbeats 1000000 in
theorem concat_any (pp : Option Addr) (pc : Nat) (p1 : Option Addr) (c1 m1 : Nat) (p2 : Option Addr) (c2 m2 : Nat) (l1 l2 : List (Int × Int)) (w : World) (hp : Rd eS w pp pc [(p1, m1, c1), (p2, m2, c2)]) (h1 : Rd eSp w p1 c1 l1) (h2 : Rd eSp w p2 c2 l2) (hm1 : l1.length = m1) (hm2 : l2.length = m2) (hm : m1 + m2 ≤ 1000) (M : Nat) (hM : m1 + m2 = M) :
    Calls Try.prog 21 #[.slice pp 2 pc] w fun e w' => ∃ q d, e = .returned (.slice q M d) ∧ Own eSp w' w.heap.size 39 q d (l1 ++ l2) ∧ Below w.heap.size w w' := by
  obtain ⟨b, o, ep, hb, g0⟩ := hp.row 0 (by simp)
  obtain ⟨b', o', ep', _, g1⟩ := hp.row 1 (by simp)
  rw [ep] at ep'
  cases ep'
  subst ep
  have g0 : w.cell? ⟨b, o, none⟩ = some (.slice p1 m1 c1) := g0
  have g1 : w.cell? ⟨b, o + 1, none⟩ = some (.slice p2 m2 c2) := g1
  have H1 : Hid (l1.length = m1) := hm1
  have H2 : Hid (l2.length = m2) := hm2
  have HM : Hid (m1 + m2 = M) := hM
  have hMI : (m1 : Int) + (m2 : Int) = (M : Int) := by omega
  have hM9 : M ≤ 1000 := by omega
  have n1 : decide ((m1 : Int) < 0) = false := by simp
  have n2 : decide ((M : Int) < 0) = false := by simp
  have hw1 : wrap64 (m1 : Int) = m1 := by unfold wrap64; omega
  have hw2 : wrap64 (M : Int) = M := by unfold wrap64; omega
  clear hm1 hm2 hM
  go_enter Try.func21, Try.ntmps21
  go_wp2
  go_loopw [3, 11] (fun a i wr => wr = w ∧ ((i = .int .i64 0 ∧ a = .int .i64 0) ∨ (i = .int .i64 1 ∧ a = .int .i64 (m1 : Int)) ∨ (i = .int .i64 2 ∧ a = .int .i64 (M : Int)))) (fun _ i _ => 2 - (intOf i).toNat)
  case atStart => exact ⟨rfl, .inl ⟨rfl, rfl⟩⟩
  case round =>
    obtain ⟨rfl, ⟨rfl, rfl⟩ | ⟨rfl, rfl⟩ | ⟨rfl, rfl⟩⟩ := hrel
    · go_wp2
      go_roundw
      case rel => exact ⟨trivial, .inr (.inl ⟨rfl, rfl⟩)⟩
      case measure => simp [intOf]
    · go_wp2
      go_roundw
      case rel => exact ⟨trivial, .inr (.inr ⟨rfl, rfl⟩)⟩
      case measure => simp [intOf]
    · obtain ⟨wo, hwo⟩ : ∃ wo : World, wo = wr := ⟨_, rfl⟩
      subst hwo
      go_wp2_with (go_at_call 31; refine (grow_any M _ (by omega)).mono ?_; rintro e w3 ⟨q3, d3, rfl, o3, b3⟩)
      go_loopw [6, 27] (fun a i wx => (i = .int .i64 0 ∧ wx = w3 ∧ a = .slice q3 0 d3) ∨ (i = .int .i64 1 ∧ Below wo.heap.size wo wx ∧ ∃ q d, a = .slice q m1 d ∧ Own eSp wx wo.heap.size 39 q d l1) ∨ (i = .int .i64 2 ∧ Below wo.heap.size wo wx ∧ ∃ q d, a = .slice q M d ∧ Own eSp wx wo.heap.size 39 q d (l1 ++ l2))) (fun _ i _ => 2 - (intOf i).toNat)
      case atStart => exact .inl ⟨rfl, rfl, rfl⟩
      case round =>
        rcases hrel with ⟨rfl, rfl, rfl⟩ | ⟨rfl, hbx, q, d, rfl, ow⟩ | ⟨rfl, hbx, q, d, rfl, ow⟩
        · have g03 := (b3.cell (p := ⟨b, o, none⟩) hb).trans g0
          have h13 := h1.below b3
          clear g1
          go_wp2_with (at_builtin; refine wpList_app tSp _ rfl _ _ rfl wo.heap.size q3 d3 [] 0 rfl rfl o3 p1 c1 l1 m1 H1.out rfl h13 (by omega) b3.size m1 (by omega) ?_; intro q5 d5 w5 o5 b5 s5)
          have b35 := b3.trans b5
          go_roundw
          case rel => exact .inr (.inl ⟨rfl, b35, q5, d5, rfl, o5⟩)
          case measure => simp [intOf]
        · have g13 := (hbx.cell (p := ⟨b, o + 1, none⟩) hb).trans g1
          have h23 := h2.below hbx
          clear g0
          go_wp2_with (at_builtin; refine wpList_app tSp _ rfl _ _ rfl wo.heap.size q d l1 m1 H1.out rfl ow p2 c2 l2 m2 H2.out rfl h23 (by omega) hbx.size M HM.out ?_; intro q5 d5 w5 o5 b5 s5)
          have b35 := hbx.trans b5
          go_roundw
          case rel => exact .inr (.inr ⟨rfl, b35, q5, d5, rfl, o5⟩)
          case measure => simp [intOf]
        · go_wp2
          go_ret
          exact ⟨q, d, rfl, ow, hbx⟩
end Go.Proofs.Ytonholadabebbaa

namespace Go.Proofs.Ytonholadabebbaa
open Go.ChangeShapes Go.WideShapes Go.ChangeAt Go.RowKit
attribute [local go_sem ↓] Go.wp_at_zero Go.wp_at_succ

/-- what a cost says of a program -/
structure CostN (w : World) (base : Nat) (X : Cz) (l : List In) : Prop where
  a : X.a = (tk l : Nat)
  b : X.b = (lgs l l.length : Nat)
  m : X.m = (spL l l.length).length
  o : Own eSp w base 39 X.q X.d (spL l l.length)
theorem CostN.below {w w' : World} {base : Nat} {X : Cz} {l : List In} (h : CostN w base X l) (hb : Below w.heap.size w w') : CostN w' base X l := ⟨h.a, h.b, h.m, own_below h.o hb⟩
theorem CostN.kp {w w' : World} {base g : Nat} {X : Cz} {l : List In} (h : CostN w base X l) (hk : Kp g w w') (hg : g < base) : CostN w' base X l := ⟨h.a, h.b, h.m, own_kp h.o hk hg⟩
theorem CostN.mono {w : World} {base b2 : Nat} {X : Cz} {l : List In} (h : CostN w base X l) (hb : b2 ≤ base) : CostN w b2 X l := ⟨h.a, h.b, h.m, own_mono h.o hb⟩
abbrev cz0 : Cz := ⟨0, 0, none, 0, 0⟩
/-- another way's: nothing, if there is none -/
def twk (l : List In) : Nat := if l.length = 0 then 0 else tk l
def tws (l : List In) : List (Int × Int) := if l.length = 0 then [] else spL l l.length
def wyB (l : List In) : Bool := l.length == 0 || okB l
structure WayN (w : World) (base : Nat) (X : Cz) (l : List In) : Prop where
  a : X.a = (twk l : Nat)
  m : X.m = (tws l).length
  o : Own eSp w base 39 X.q X.d (tws l)
theorem WayN.below {w w' : World} {base : Nat} {X : Cz} {l : List In} (h : WayN w base X l) (hb : Below w.heap.size w w') : WayN w' base X l := ⟨h.a, h.m, own_below h.o hb⟩
theorem WayN.kp {w w' : World} {base g : Nat} {X : Cz} {l : List In} (h : WayN w base X l) (hk : Kp g w w') (hg : g < base) : WayN w' base X l := ⟨h.a, h.m, own_kp h.o hk hg⟩
theorem WayN.mono {w : World} {base b2 : Nat} {X : Cz} {l : List In} (h : WayN w base X l) (hb : b2 ≤ base) : WayN w b2 X l := ⟨h.a, h.m, own_mono h.o hb⟩
theorem of_any (p : Option Addr) (c : Nat) (l : List In) (w : World) (hr : Rd eIn w p c l) (n : Nat) (hN : l.length = n) (hl : n ≤ 1000) (B : Bool) (hk : okB l = B) :
    Calls Try.prog 28 #[.slice p n c] w fun e w' => (∃ X : Cz, e = .returned (.tuple #[.agg #[.int .i64 X.a, .int .i64 X.b, .slice X.q X.m X.d], .bool B]) ∧ (B = true → CostN w' w.heap.size X l)) ∧ Below w.heap.size w w' := by
  cases B with
  | true =>
    refine (of_yes p c l w hr n hN hk).mono ?_
    rintro e w' ⟨⟨q, d, m, rfl, hm, ho⟩, hb⟩
    subst hN
    exact ⟨⟨⟨_, _, q, m, d⟩, rfl, fun _ => ⟨rfl, rfl, hm, ho⟩⟩, hb⟩
  | false =>
    refine (of_no p c l w hr n hN hl hk).mono ?_
    rintro e w' ⟨rfl, hb⟩
    exact ⟨⟨cz0, rfl, fun h => by cases h⟩, hb⟩
theorem refcost_any (p : Option Addr) (c : Nat) (l : List In) (w : World) (hr : Rd eIn w p c l) (n : Nat) (hN : l.length = n) (hl : n ≤ 1000) (B : Bool) (hk : okB l = B) :
    Calls Try.prog 22 #[.slice p n c] w fun e w' => (∃ X : Cz, e = .returned (.tuple #[.agg #[.int .i64 X.a, .int .i64 X.b, .slice X.q X.m X.d], .bool B]) ∧ (B = true → CostN w' w.heap.size X l) ∧ (B = false → X = cz0)) ∧ Below w.heap.size w w' := by
  cases B with
  | true =>
    refine (refCost_yes p c l w hr n hN hk).mono ?_
    rintro e w' ⟨⟨q, d, m, rfl, hm, ho⟩, hb⟩
    subst hN
    exact ⟨⟨⟨_, _, q, m, d⟩, rfl, fun _ => ⟨rfl, rfl, hm, ho⟩, (fun h => by cases h)⟩, hb⟩
  | false =>
    refine (refCost_no p c l w hr n hN hl hk).mono ?_
    rintro e w' ⟨rfl, hb⟩
    exact ⟨⟨cz0, rfl, (fun h => by cases h), fun _ => rfl⟩, hb⟩
theorem ok_nil : okB [] = false := by decide +kernel
theorem way_zero (w : World) (base : Nat) (l : List In) (h : l.length = 0) : WayN w base cz0 l := by
  have e : l = [] := List.eq_nil_of_length_eq_zero h
  subst e
  exact ⟨rfl, rfl, own_nil _ _ _⟩
theorem way_of {w : World} {base : Nat} {X : Cz} {l : List In} (h0 : l.length ≠ 0) (h : CostN w base X l) : WayN w base X l := by
  have e1 : twk l = tk l := by unfold twk; rw [if_neg h0]
  have e2 : tws l = spL l l.length := by unfold tws; rw [if_neg h0]
  exact ⟨by rw [e1]; exact h.a, by rw [e2]; exact h.m, by rw [e2]; exact h.o⟩
set_option maxHeartbeats 1000000 in
theorem costway_any (p : Option Addr) (c : Nat) (l : List In) (w : World) (hr : Rd eIn w p c l) (n : Nat) (hN : l.length = n) (hl : n ≤ 1000) (B : Bool) (hk : wyB l = B) :
    Calls Try.prog 29 #[.slice p n c] w fun e w' => (∃ X : Cz, e = .returned (.tuple #[.agg #[.int .i64 X.a, .int .i64 X.b, .slice X.q X.m X.d], .bool B]) ∧ (B = true → WayN w' w.heap.size X l)) ∧ Below w.heap.size w w' := by
  obtain ⟨W, hW⟩ : ∃ W, W = w.alloc (.cells #[.int .i64 0, .int .i64 0, .slice none 0 0] 53) := ⟨_, rfl⟩
  have bW : Below w.heap.size w W := by rw [hW]; exact bel_self _ _
  have hV : Vc W w.heap.size cz0 := by rw [hW]; exact Vc.new w cz0
  by_cases h0 : n = 0
  · subst h0
    have hB : B = true := by rw [← hk]; unfold wyB; rw [hN]; rfl
    subst hB
    clear hk
    obtain ⟨c0, c1, c2⟩ := hV.at
    go_enter Try.func29, Try.ntmps29
    go_wp2_with (first
      | (go_at_call 20; rw [← hW]; refine (isthere_any p 0 c _ false rfl).mono ?_; rintro e w4 ⟨rfl, rfl⟩; clear hW)
      | (refine wpList_stV (E := eC) rfl 53 (.tmp 2) (.tmp 7) rfl size53 w.heap.size _ hV rfl cz0 rfl rfl ?_; intro w9 L9 k9))
    have e9 := load53 (x := cz0) L9
    refine bodyPost_ret (v := .tuple #[.agg #[.int .i64 0, .int .i64 0, .slice none 0 0], .bool true]) (by simp [results, Try.results29, asAddr, e9]) rfl ⟨⟨cz0, rfl, fun _ => way_zero _ _ l hN⟩, bel_kp bW k9 (Nat.le_refl _) bW.size⟩
  · have hne : l.length ≠ 0 := by omega
    have hB : okB l = B := by rw [← hk]; unfold wyB; rw [hN]; simp [h0]
    have hd : decide (0 < n) = true := by simp; omega
    have hr' := hr.below bW
    clear hk h0
    have HN : Hid (l.length = n) := hN
    have HB : Hid (okB l = B) := hB
    clear hN hB
    go_enter Try.func29, Try.ntmps29
    go_wp2_with (first
      | (go_at_call 28; refine (of_any p c l _ hr' n HN.out hl B HB.out).mono ?_; rintro e w5 ⟨⟨X, rfl, hX⟩, b5⟩; have V5 := hV.below b5)
      | (go_at_call 20; rw [← hW]; refine (isthere_any p n c _ true hd).mono ?_; rintro e w4 ⟨rfl, rfl⟩; clear hW)
      | (refine wpList_stV (E := eC) rfl 53 (.tmp 2) (.tmp 10) rfl size53 w.heap.size _ V5 rfl X rfl rfl ?_; intro w9 L9 k9))
    have e9 := load53 (x := X) L9
    have B5 := bel_call bW (Nat.le_refl _) b5
    refine bodyPost_ret (v := .tuple #[.agg #[.int .i64 X.a, .int .i64 X.b, .slice X.q X.m X.d], .bool B]) (by simp [results, Try.results29, asAddr, e9]) rfl ⟨⟨X, rfl, fun h => (way_of hne ((hX h).kp k9 (Vc.lt hV))).mono (Nat.le_of_lt (Vc.lt hV))⟩, bel_kp B5 k9 (Nat.le_refl _) B5.size⟩
end Go.Proofs.Ytonholadabebbaa
