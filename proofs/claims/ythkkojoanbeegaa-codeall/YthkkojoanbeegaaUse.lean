/-
  A row of bytes as a string; that the package does something.
-/
import Derived.Test.YthkkojoanbeegaaTakeRef
import Derived.Test.YthkkojoanbeegaaSame
namespace Go.Proofs.Ythkkojoanbeegaa
open Go.ChangeShapes Go.WideShapes Go.ChangeAt Go.RowKit
attribute [local go_sem ↓] Go.wp_at_zero Go.wp_at_succ

theorem str_run {w : World} {p : Option Addr} {c : Nat} {l : List Int} (h : Rd eBy w p c l) (N : Nat) (hN : l.length = N) : (convert 25 9 (.slice p N c)).run Try.prog w = .ok (.string (strOfNums l)) w := by
  by_cases h0 : l = []
  · subst h0
    simp at hN
    subst hN
    rw [run_convert_bytes_string w 25 9 5 _ 0 c Try.underlying25 Try.underlying5 Try.underlying9]
    cases p <;> simp [Conv.bytesToString, loadCells]
    all_goals rfl
  · obtain ⟨b, o, rfl, _, hc⟩ := h.bytes (List.length_pos_iff.2 h0)
    exact run_convert_bytes_arg w 25 5 Try.underlying25 Try.underlying5 b o N c l hN (fun i hi => hc i (by omega)) 9 Try.underlying9

theorem str_inj : ∀ {l m : List Int}, (∀ x ∈ l, 0 ≤ x ∧ x ≤ 255) → (∀ x ∈ m, 0 ≤ x ∧ x ≤ 255) → (l.map fun n => UInt8.ofNat n.toNat) = (m.map fun n => UInt8.ofNat n.toNat) → l = m
  | [], [], _, _, _ => rfl
  | [], y :: m, _, _, h => by simp at h
  | x :: l, [], _, _, h => by simp at h
  | x :: l, y :: m, hl, hm, h => by
    simp only [List.map_cons, List.cons.injEq] at h
    have hx := hl x (List.mem_cons_self ..)
    have hy := hm y (List.mem_cons_self ..)
    have e : x = y := by
      have := congrArg UInt8.toNat h.1
      simp only [UInt8.toNat_ofNat'] at this
      omega
    rw [e, str_inj (fun z hz => hl z (List.mem_cons_of_mem _ hz)) (fun z hz => hm z (List.mem_cons_of_mem _ hz)) h.2]
theorem sbeq (a b : ByteArray) : (a == b) = true ↔ a = b := by
  cases a with | mk x => cases b with | mk y =>
  show (x == y) = true ↔ _
  simp
theorem str_beq {l m : List Int} (hl : ∀ x ∈ l, 0 ≤ x ∧ x ≤ 255) (hm : ∀ x ∈ m, 0 ≤ x ∧ x ≤ 255) : (strOfNums l == strOfNums m) = decide (l = m) := by
  rw [Bool.eq_iff_iff]
  rw [sbeq, decide_eq_true_eq]
  constructor
  · intro h
    apply str_inj hl hm
    have := congrArg (fun s : ByteArray => s.data.toList) h
    simpa [strOfNums] using this
  · intro h; rw [h]

theorem put_c (p : Option Addr) (c : Nat) (l : List In) (w : World) (N : Nat) (m : List Int) (M : Nat) (hN : l.length = N) (hm : putL l = m) (hM : m.length = M) (hr : Rd eIn w p c l) (hl : N ≤ 1000) :
    Calls Try.prog 16 #[.slice p N c] w fun e w' => ∃ p' c', e = .returned (.slice p' M c') ∧ Own eBy w' w.heap.size 5 p' c' m ∧ Below w.heap.size w w' := by
  subst hm hM
  exact put_any p c l w hr N hN hl
theorem putCode_c (p : Option Addr) (c : Nat) (l : List In) (w : World) (N : Nat) (m : List Int) (M : Nat) (hN : l.length = N) (hm : putL l = m) (hM : m.length = M) (hr : Rd eIn w p c l) (hl : N ≤ 1000) :
    Calls Try.prog 17 #[.slice p N c] w fun e w' => ∃ p' c', e = .returned (.slice p' M c') ∧ Own eBy w' w.heap.size 5 p' c' m ∧ Below w.heap.size w w' := by
  subst hm hM
  exact putCode_any p c l w hr N hN hl
theorem take_c (p : Option Addr) (c : Nat) (b : List Int) (w : World) (N : Nat) (m : List In) (M : Nat) (k : Bool) (hN : b.length = N) (hm : takeL b = m) (hM : m.length = M) (hk : okT b = k) (hr : Rd eBy w p c b) (hl : N ≤ 1000) (hbd : ∀ x ∈ b, 0 ≤ x ∧ x ≤ 255) :
    Calls Try.prog 12 #[.slice p N c] w fun e w' => ∃ p' c', e = .returned (.tuple #[.slice p' M c', .bool k]) ∧ Own eIn w' w.heap.size 23 p' c' m ∧ Below w.heap.size w w' := by
  subst hm hM hk
  exact take_any p c b w hr N hN hl hbd
theorem takeCode_c (p : Option Addr) (c : Nat) (b : List Int) (w : World) (N : Nat) (m : List In) (M : Nat) (k : Bool) (hN : b.length = N) (hm : takeL b = m) (hM : m.length = M) (hk : okT b = k) (hr : Rd eBy w p c b) (hl : N ≤ 1000) (hbd : ∀ x ∈ b, 0 ≤ x ∧ x ≤ 255) :
    Calls Try.prog 13 #[.slice p N c] w fun e w' => ∃ p' c', e = .returned (.tuple #[.slice p' M c', .bool k]) ∧ Own eIn w' w.heap.size 23 p' c' m ∧ Below w.heap.size w w' := by
  subst hm hM hk
  exact takeCode_any p c b w hr N hN hl hbd
theorem may_c (o a b n : Int) (w : World) (k : Bool) (hk : mayB (o, a, b, n) = k) : Calls Try.prog 14 #[.agg #[.int .i64 o, .int .i64 a, .int .i64 b, .int .i64 n]] w fun e w' => e = .returned (.bool k) ∧ Below w.heap.size w w' := by
  subst hk
  exact may_any (o, a, b, n) w

def bg2 : List In := [(1, 1, 0, -2), (0, 0, 0, 0)]
def bg15 : List Int := [2, 1, 1, 0, 255, 255, 255, 254, 0, 0, 0, 0, 0, 0, 0]

set_option maxHeartbeats 1000000 in
theorem begun_any (w : World) : Calls Try.prog 8 #[] w fun e w' => e = .returned (.bool true) ∧ Below w.heap.size w w' := by
  have a1 := fun (p : Option Addr) (c : Nat) (w : World) (hr : Rd eIn w p c bg2) => put_c p c bg2 w 2 bg15 15 rfl (by decide) rfl hr (by omega)
  have t1 := fun (p : Option Addr) (c : Nat) (w : World) (hr : Rd eBy w p c bg15) => take_c p c bg15 w 15 bg2 2 true rfl (by decide) rfl (by decide) hr (by omega) (by decide)
  have t2 := fun (w : World) => take_c none 0 [] w 0 [] 0 false rfl (by decide) rfl (by decide) (Rd.nil w) (by omega) (by simp)
  have m1 := fun (w : World) => may_c 0 0 0 0 w true (by decide)
  have m2 := fun (w : World) => may_c 12 0 0 0 w false (by decide)
  have hs : ∀ (p : Option Addr) (c : Nat) (w : World), Rd eBy w p c bg15 → (convert 25 9 (.slice p 15 c)).run Try.prog w = .ok (.string { data := #[2, 1, 1, 0, 255, 255, 255, 254, 0, 0, 0, 0, 0, 0, 0] }) w := fun p c w hr => str_run hr 15 rfl
  go_enter Try.func8, Try.ntmps8
  go_wp2_with (first
    | (go_at_call 16; with_reducible (refine (a1 _ _ _ ?hr).mono ?_); (case hr => exact rd_block (heap_at (by first | rfl | simp)) 2 rfl rfl); rintro e w1 ⟨p1, c1, rfl, h1, b1⟩; have B1 := ((Below.refl _ _).alloc (Nat.le_refl _) _).trans (b1.mono (by simp)))
    | (go_at_call 12; with_reducible (refine (t1 _ _ _ (own_rd h1)).mono ?_); rintro e w2 ⟨p2, c2, rfl, h2, b2⟩; have B2 := bel_call B1 (Nat.le_refl _) b2; have k2 := own_below h1 b2)
    | (go_at_call 12; with_reducible (refine (t2 _).mono ?_); rintro e w3 ⟨p3, c3, rfl, h3, b3⟩; have B3 := bel_call B2 (Nat.le_refl _) b3; have k3 := own_below k2 b3; have i3 := own_below h2 b3; have hstr := hs _ _ _ (own_rd k3); obtain ⟨ib, io, rfl, iz, i0, i1, i2, i4⟩ := (own_rd i3).inst 0 (by decide); simp [bg2] at i4)
    | (go_at_call 14; with_reducible (refine (m1 _).mono ?_); rintro e w4 ⟨rfl, b4⟩; have B4 := bel_call B3 (Nat.le_refl _) b4)
    | (go_at_call 14; with_reducible (refine (m2 _).mono ?_); rintro e w5 ⟨rfl, b5⟩; have B5 := bel_call B4 (Nat.le_refl _) b5))
  go_ret
  exact ⟨rfl, B5⟩
end Go.Proofs.Ythkkojoanbeegaa
