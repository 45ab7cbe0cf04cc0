/-
  Which tasks may be, and how long they are: the reckoning of package task.
-/
import Derived.Test.YtonholadabebbaaTconc
import Derived.Deep.QuietTactic
import Derived.BigQuiet
namespace Go.Proofs.Ytonholadabebbaa
open Go.ChangeShapes Go.WideShapes Go.ChangeAt Go.RowKit
attribute [local go_sem ↓] Go.wp_at_zero Go.wp_at_succ

/-- what a cost says of a program -/
structure CostN (w : World) (base : Nat) (X : Cz) (l : List In) : Prop where
  a : X.a = (tk l : Nat)
  b : X.b = (lgs l l.length : Nat)
  m : X.m = (spL l l.length).length
  o : Own eSp w base 39 X.q X.d (spL l l.length)
theorem CostN.below {w w' : World} {base : Nat} {X : Cz} {l : List In} (h : CostN w base X l) (hb : Below w.heap.size w w') : CostN w' base X l := ⟨h.a, h.b, h.m, own_below h.o hb⟩
theorem CostN.kp {w w' : World} {base g : Nat} {X : Cz} {l : List In} (h : CostN w base X l) (hk : Kp g w w') (hg : g < base) : CostN w' base X l := ⟨h.a, h.b, h.m, own_kp h.o hk hg⟩
theorem CostN.mono {w : World} {base b2 : Nat} {X : Cz} {l : List In} (h : CostN w base X l) (hb : b2 ≤ base) : CostN w b2 X l := ⟨h.a, h.b, h.m, own_mono h.o hb⟩
abbrev cz0 : Cz := ⟨0, 0, none, 0, 0⟩
/-- another way's: nothing, if there is none -/
def twk (l : List In) : Nat := if l.length = 0 then 0 else tk l
def tws (l : List In) : List (Int × Int) := if l.length = 0 then [] else spL l l.length
def wyB (l : List In) : Bool := l.length == 0 || okB l
structure WayN (w : World) (base : Nat) (X : Cz) (l : List In) : Prop where
  a : X.a = (twk l : Nat)
  m : X.m = (tws l).length
  o : Own eSp w base 39 X.q X.d (tws l)
theorem WayN.below {w w' : World} {base : Nat} {X : Cz} {l : List In} (h : WayN w base X l) (hb : Below w.heap.size w w') : WayN w' base X l := ⟨h.a, h.m, own_below h.o hb⟩
theorem WayN.kp {w w' : World} {base g : Nat} {X : Cz} {l : List In} (h : WayN w base X l) (hk : Kp g w w') (hg : g < base) : WayN w' base X l := ⟨h.a, h.m, own_kp h.o hk hg⟩
theorem WayN.mono {w : World} {base b2 : Nat} {X : Cz} {l : List In} (h : WayN w base X l) (hb : b2 ≤ base) : WayN w b2 X l := ⟨h.a, h.m, own_mono h.o hb⟩
theorem of_any (p : Option Addr) (c : Nat) (l : List In) (w : World) (hr : Rd eIn w p c l) (n : Nat) (hN : l.length = n) (hl : n ≤ 1000) (B : Bool) (hk : okB l = B) :
    Calls Try.prog 28 #[.slice p n c] w fun e w' => (∃ X : Cz, e = .returned (.tuple #[.agg #[.int .i64 X.a, .int .i64 X.b, .slice X.q X.m X.d], .bool B]) ∧ (B = true → CostN w' w.heap.size X l)) ∧ Below w.heap.size w w' := by
  cases B with
  | true =>
    refine (of_yes p c l w hr n hN hk).mono ?_
    rintro e w' ⟨⟨q, d, m, rfl, hm, ho⟩, hb⟩
    subst hN
    exact ⟨⟨⟨_, _, q, m, d⟩, rfl, fun _ => ⟨rfl, rfl, hm, ho⟩⟩, hb⟩
  | false =>
    refine (of_no p c l w hr n hN hl hk).mono ?_
    rintro e w' ⟨rfl, hb⟩
    exact ⟨⟨cz0, rfl, fun h => by cases h⟩, hb⟩
theorem refcost_any (p : Option Addr) (c : Nat) (l : List In) (w : World) (hr : Rd eIn w p c l) (n : Nat) (hN : l.length = n) (hl : n ≤ 1000) (B : Bool) (hk : okB l = B) :
    Calls Try.prog 22 #[.slice p n c] w fun e w' => (∃ X : Cz, e = .returned (.tuple #[.agg #[.int .i64 X.a, .int .i64 X.b, .slice X.q X.m X.d], .bool B]) ∧ (B = true → CostN w' w.heap.size X l) ∧ (B = false → X = cz0)) ∧ Below w.heap.size w w' := by
  cases B with
  | true =>
    refine (refCost_yes p c l w hr n hN hk).mono ?_
    rintro e w' ⟨⟨q, d, m, rfl, hm, ho⟩, hb⟩
    subst hN
    exact ⟨⟨⟨_, _, q, m, d⟩, rfl, fun _ => ⟨rfl, rfl, hm, ho⟩, (fun h => by cases h)⟩, hb⟩
  | false =>
    refine (refCost_no p c l w hr n hN hl hk).mono ?_
    rintro e w' ⟨rfl, hb⟩
    exact ⟨⟨cz0, rfl, (fun h => by cases h), fun _ => rfl⟩, hb⟩
theorem ok_nil : okB [] = false := by decide +kernel
theorem way_zero (w : World) (base : Nat) (l : List In) (h : l.length = 0) : WayN w base cz0 l := by
  have e : l = [] := List.eq_nil_of_length_eq_zero h
  subst e
  exact ⟨rfl, rfl, own_nil _ _ _⟩
theorem way_of {w : World} {base : Nat} {X : Cz} {l : List In} (h0 : l.length ≠ 0) (h : CostN w base X l) : WayN w base X l := by
  have e1 : twk l = tk l := by unfold twk; rw [if_neg h0]
  have e2 : tws l = spL l l.length := by unfold tws; rw [if_neg h0]
  exact ⟨by rw [e1]; exact h.a, by rw [e2]; exact h.m, by rw [e2]; exact h.o⟩
set_option maxHeartbeats 1000000 in
theorem costway_any (p : Option Addr) (c : Nat) (l : List In) (w : World) (hr : Rd eIn w p c l) (n : Nat) (hN : l.length = n) (hl : n ≤ 1000) (B : Bool) (hk : wyB l = B) :
    Calls Try.prog 29 #[.slice p n c] w fun e w' => (∃ X : Cz, e = .returned (.tuple #[.agg #[.int .i64 X.a, .int .i64 X.b, .slice X.q X.m X.d], .bool B]) ∧ (B = true → WayN w' w.heap.size X l)) ∧ Below w.heap.size w w' := by
  obtain ⟨W, hW⟩ : ∃ W, W = w.alloc (.cells #[.int .i64 0, .int .i64 0, .slice none 0 0] 53) := ⟨_, rfl⟩
  have bW : Below w.heap.size w W := by rw [hW]; exact bel_self _ _
  have hV : Vc W w.heap.size cz0 := by rw [hW]; exact Vc.new w cz0
  by_cases h0 : n = 0
  · subst h0
    have hB : B = true := by rw [← hk]; unfold wyB; rw [hN]; rfl
    subst hB
    clear hk
    obtain ⟨c0, c1, c2⟩ := hV.at
    go_enter Try.func29, Try.ntmps29
    go_wp2_with (first
      | (go_at_call 20; rw [← hW]; refine (isthere_any p 0 c _ false rfl).mono ?_; rintro e w4 ⟨rfl, rfl⟩; clear hW)
      | (refine wpList_stV (E := eC) rfl 53 (.tmp 2) (.tmp 7) rfl size53 w.heap.size _ hV rfl cz0 rfl rfl ?_; intro w9 L9 k9))
    have e9 := load53 (x := cz0) L9
    refine bodyPost_ret (v := .tuple #[.agg #[.int .i64 0, .int .i64 0, .slice none 0 0], .bool true]) (by simp [results, Try.results29, asAddr, e9]) rfl ⟨⟨cz0, rfl, fun _ => way_zero _ _ l hN⟩, bel_kp bW k9 (Nat.le_refl _) bW.size⟩
  · have hne : l.length ≠ 0 := by omega
    have hB : okB l = B := by rw [← hk]; unfold wyB; rw [hN]; simp [h0]
    have hd : decide (0 < n) = true := by simp; omega
    have hr' := hr.below bW
    clear hk h0
    have HN : Hid (l.length = n) := hN
    have HB : Hid (okB l = B) := hB
    clear hN hB
    go_enter Try.func29, Try.ntmps29
    go_wp2_with (first
      | (go_at_call 28; refine (of_any p c l _ hr' n HN.out hl B HB.out).mono ?_; rintro e w5 ⟨⟨X, rfl, hX⟩, b5⟩; have V5 := hV.below b5)
      | (go_at_call 20; rw [← hW]; refine (isthere_any p n c _ true hd).mono ?_; rintro e w4 ⟨rfl, rfl⟩; clear hW)
      | (refine wpList_stV (E := eC) rfl 53 (.tmp 2) (.tmp 10) rfl size53 w.heap.size _ V5 rfl X rfl rfl ?_; intro w9 L9 k9))
    have e9 := load53 (x := X) L9
    have B5 := bel_call bW (Nat.le_refl _) b5
    refine bodyPost_ret (v := .tuple #[.agg #[.int .i64 X.a, .int .i64 X.b, .slice X.q X.m X.d], .bool B]) (by simp [results, Try.results29, asAddr, e9]) rfl ⟨⟨X, rfl, fun h => (way_of hne ((hX h).kp k9 (Vc.lt hV))).mono (Nat.le_of_lt (Vc.lt hV))⟩, bel_kp B5 k9 (Nat.le_refl _) B5.size⟩
end Go.Proofs.Ytonholadabebbaa
