/-
  Bodies and reaches as a row, by the document.
-/
import Derived.Test.YteikdocpncdheaaMayc
import Derived.Test.YteikdocpncdheaaPlains
import Derived.Test.YteikdocpncdheaaMayRef
namespace Go.Proofs.Yteikdocpncdheaa
open Go.ChangeShapes Go.WideShapes Go.ChangeAt Go.RowKit
attribute [local go_sem ↓] Go.wp_at_zero Go.wp_at_succ

def eAr : Elt Ar := ⟨4, fun x => [.int .i64 x.1, .int .i64 x.2.1, .int .i64 x.2.2.1, .bool x.2.2.2], fun _ => rfl, by intro x v hv; simp at hv; rcases hv with rfl | rfl | rfl | rfl <;> rfl, by decide⟩
theorem Try.info84 : (Try.prog.info? 84).map (fun i => (i.zero, i.size, i.bytes)) = some (some (.agg #[.int .i64 0, .int .i64 0, .int .i64 0, .bool false]), 4, 32) := by kernel_rfl
theorem tAr : Ty Try.prog eAr 81 84 := by
  obtain ⟨i, hi, h0, h1, h2⟩ := info_parts Try.info84
  exact ⟨Try.underlying81, i, _, hi, h0, h1, rfl, by omega⟩
theorem Rd.area {w : World} {p : Option Addr} {c : Nat} {l : List Ar} (h : Rd eAr w p c l) (i : Nat) (hi : i < l.length) :
    ∃ b o, p = some ⟨b, o, none⟩ ∧ b < w.heap.size ∧ w.cell? ⟨b, o + i * 4, none⟩ = some (.int .i64 l[i].1) ∧ w.cell? ⟨b, o + i * 4 + 1, none⟩ = some (.int .i64 l[i].2.1) ∧ w.cell? ⟨b, o + i * 4 + 2, none⟩ = some (.int .i64 l[i].2.2.1) ∧ w.cell? ⟨b, o + i * 4 + 3, none⟩ = some (.bool l[i].2.2.2) := by
  obtain ⟨b, o, e, hb, hc⟩ := h.cells i hi
  exact ⟨b, o, e, hb, hc 0 _ rfl, hc 1 _ rfl, hc 2 _ rfl, hc 3 _ rfl⟩
theorem rd_ar {w : World} {vb : Nat} {A B C : Int} {D : Bool} {t : TypeId} {fr : Nat × Nat} (h : w.heap[vb]? = some (.cells #[.int .i64 A, .int .i64 B, .int .i64 C, .bool D] t fr)) : Rd eAr w (some ⟨vb, 0, none⟩) 1 [(A, B, C, D)] := rd_block h 1 rfl rfl

set_option maxHeartbeats 2000000 in
set_option maxRecDepth 20000 in
theorem areas_any (p : Option Addr) (c : Nat) (l : List In) (w : World) (hr : Rd eIn w p c l) (n : Nat) (hN : l.length = n) (hl : n ≤ 24) (ha : l.all mayB = true) :
    Calls Try.prog 43 #[.slice p n c] w fun e w' => ∃ q d m, e = .returned (.slice q m d) ∧ m = (arI l n).length ∧ Own eAr w' w.heap.size 84 q d (arL l n) ∧ Below w.heap.size w w' := by
  have HN : Hid (l.length = n) := hN
  clear hN
  go_enter Try.func43, Try.ntmps43
  go_wp2
  go_loopw [3, 4] (fun t i wr => ∃ (k : Nat) (q : Option Addr) (d m : Nat), k ≤ n ∧ i = .int .i64 k ∧ t = .slice q m d ∧ Hid (m = (arI l k).length) ∧ Own eAr wr w.heap.size 84 q d (arL l k) ∧ Below w.heap.size w wr) (fun _ i _ => n - (intOf i).toNat)
  case atStart => exact ⟨0, none, 0, 0, Nat.zero_le _, rfl, rfl, rfl, own_nil _ _ _, Below.refl _ _⟩
  case round =>
    obtain ⟨k, q, d, m, hk, rfl, rfl, HQ, hown, hbw⟩ := hrel
    have hsz := hbw.size
    have hmk : m ≤ k := by rw [HQ.out]; exact arI_le l k
    have HL : Hid ((arL l k).length = m) := by show _ = _; rw [arL_len, HQ.out]
    by_cases hlt : k < n
    · have hkl : k < l.length := by rw [HN.out]; exact hlt
      obtain ⟨b, o, rfl, hb, f0, f1, f2, f3⟩ := (hr.below hbw).inst k hkl
      have HG : Hid (gt l k = l[k]) := gt_eq hkl
      have hbd := reach_bd (all_get ha hkl)
      generalize l[k] = x at *
      obtain ⟨xo, xa, xb, xn⟩ := x
      simp only at f0 f1 f2 f3
      by_cases h7 : xo = 7
      · subst h7
        have eR : reachI (7, xa, xb, xn) = xn := rfl
        rw [eR] at hbd
        have HE : Hid (arE l k = ((k : Int) + 1, (k : Int) + xn, (k : Int), false)) := by show _ = _; unfold arE; rw [HG.out]; rfl
        have HA : Hid (isAr l k = true) := by show _ = _; unfold isAr; rw [HG.out]; rfl
        obtain ⟨r0, r1⟩ := hbd
        go_wp2_with (at_builtin; refine wpList_app tAr _ rfl _ _ rfl w.heap.size q d (arL l k) m HL.out rfl (own_below hown ((Below.refl _ _).alloc (Nat.le_refl _) _)) _ _ [((k : Int) + 1, (k : Int) + xn, (k : Int), false)] 1 rfl rfl (rd_ar (heap_at (by first | rfl | simp))) (by omega) (by simp; omega) (m + 1) rfl ?_; intro p6 c6 w6 ho6 hb6 hst6)
        go_roundw
        case rel => exact ⟨k + 1, p6, c6, m + 1, by omega, by go_num, rfl, by show _ = _; rw [arI_yes HA.out, List.length_append, ← HQ.out]; rfl, by rw [arL_yes HA.out, HE.out]; exact ho6, (hbw.alloc hsz _).trans hb6⟩
        case measure => simp [intOf]; omega
      · have d7 : (xo == 7) = false := by simpa using h7
        by_cases h8 : xo = 8
        · subst h8
          have eR : reachI (8, xa, xb, xn) = xb := rfl
          rw [eR] at hbd
          have HE : Hid (arE l k = ((k : Int) + 1, (k : Int) + xb, (k : Int), true)) := by show _ = _; unfold arE; rw [HG.out]; rfl
          have HA : Hid (isAr l k = true) := by show _ = _; unfold isAr; rw [HG.out]; rfl
          obtain ⟨r0, r1⟩ := hbd
          clear d7 h7
          go_wp2_with (at_builtin; refine wpList_app tAr _ rfl _ _ rfl w.heap.size q d (arL l k) m HL.out rfl (own_below hown ((Below.refl _ _).alloc (Nat.le_refl _) _)) _ _ [((k : Int) + 1, (k : Int) + xb, (k : Int), true)] 1 rfl rfl (rd_ar (heap_at (by first | rfl | simp))) (by omega) (by simp; omega) (m + 1) rfl ?_; intro p6 c6 w6 ho6 hb6 hst6)
          go_roundw
          case rel => exact ⟨k + 1, p6, c6, m + 1, by omega, by go_num, rfl, by show _ = _; rw [arI_yes HA.out, List.length_append, ← HQ.out]; rfl, by rw [arL_yes HA.out, HE.out]; exact ho6, (hbw.alloc hsz _).trans hb6⟩
          case measure => simp [intOf]; omega
        · have d8 : (xo == 8) = false := by simpa using h8
          have HA : Hid (isAr l k = false) := by show _ = _; unfold isAr; rw [HG.out]; simp [h7, h8]
          go_wp2
          go_roundw
          case rel => exact ⟨k + 1, q, d, m, by omega, by go_num, rfl, by show _ = _; rw [arI_no HA.out]; exact HQ.out, by rw [arL_no HA.out]; exact hown, hbw⟩
          case measure => simp [intOf]; omega
    · obtain rfl : k = n := by omega
      go_wp2
      go_ret
      exact ⟨q, d, m, rfl, HQ.out, hown, hbw⟩

theorem has_any (A B C : Int) (D : Bool) (i : Int) (w : World) : Calls Try.prog 44 #[.agg #[.int .i64 A, .int .i64 B, .int .i64 C, .bool D], .int .i64 i] w fun e w' => e = .returned (.bool (decide (A ≤ i) && decide (i ≤ B))) ∧ Below w.heap.size w w' := by
  by_cases h1 : A ≤ i
  · have d1 : decide (A ≤ i) = true := by simpa using h1
    rw [d1, Bool.true_and]
    go_enter Try.func44, Try.ntmps44
    go_wp2
    go_ret
    exact ⟨rfl, (Below.refl _ _).alloc (Nat.le_refl _) _⟩
  · have d1 : decide (A ≤ i) = false := by simpa using h1
    rw [d1, Bool.false_and]
    go_enter Try.func44, Try.ntmps44
    go_wp2
    go_ret
    exact ⟨rfl, (Below.refl _ _).alloc (Nat.le_refl _) _⟩
theorem has_c (A B C : Int) (D : Bool) (i : Int) (w : World) (k : Bool) (hk : (decide (A ≤ i) && decide (i ≤ B)) = k) : Calls Try.prog 44 #[.agg #[.int .i64 A, .int .i64 B, .int .i64 C, .bool D], .int .i64 i] w fun e w' => e = .returned (.bool k) ∧ Below w.heap.size w w' := by
  subst hk
  exact has_any A B C D i w

set_option maxHeartbeats 2000000 in
set_option maxRecDepth 20000 in
theorem held_any (p : Option Addr) (c : Nat) (l : List In) (w : World) (hr : Rd eIn w p c l) (n : Nat) (hN : l.length = n) (hl : n ≤ 24) (q : Option Addr) (d : Nat) (U : List Int) (hu : Rd eI w q d U) (hU : U.length = n) (a : Nat) :
    Calls Try.prog 45 #[.slice p n c, .slice q n d, .int .i64 a] w fun e w' => e = .returned (.int .i64 (heldN l U a n : Nat)) ∧ Below w.heap.size w w' := by
  have HN : Hid (l.length = n) := hN
  have HU : Hid (U.length = n) := hU
  clear hN hU
  go_enter Try.func45, Try.ntmps45
  go_wp2
  go_loopw [7, 8] (fun t i wr => ∃ k : Nat, k ≤ n ∧ i = .int .i64 k ∧ t = .int .i64 (heldN l U a k : Nat) ∧ Below w.heap.size w wr) (fun _ i _ => n - (intOf i).toNat)
  case atStart => exact ⟨0, Nat.zero_le _, rfl, rfl, Below.refl _ _⟩
  case round =>
    obtain ⟨k, hk, rfl, rfl, hbw⟩ := hrel
    have hle : heldN l U a k ≤ k := cntN_le _ _
    by_cases hlt : k < n
    · have hkl : k < l.length := by rw [HN.out]; exact hlt
      have hku : k < U.length := by rw [HU.out]; exact hlt
      obtain ⟨b, o, rfl, hb, f0, f1, f2, f3⟩ := (hr.below hbw).inst k hkl
      obtain ⟨b', o', rfl, hb', u0⟩ := (hu.below hbw).num k hku
      have HG : Hid (gt l k = l[k]) := gt_eq hkl
      have HY : Hid (U.getD k 0 = U[k]) := getD_at hku
      generalize l[k] = x at *
      generalize U[k] = y at *
      obtain ⟨xo, xa, xb, xn⟩ := x
      simp only at f0 f1 f2 f3
      by_cases h9 : xo = 9
      · subst h9
        by_cases h1 : k < a
        · have d1 : decide ((k : Int) < (a : Int)) = true := by simpa using h1
          by_cases h2 : (a : Int) < y
          · have d2 : decide ((a : Int) < y) = true := by simpa using h2
            have HC : Hid (heldN l U a (k + 1) = heldN l U a k + 1) := cntN_yes (by rw [HG.out, HY.out, d2]; simp [h1])
            go_wp2
            go_roundw
            case rel => exact ⟨k + 1, by omega, by go_num, by rw [HC.out]; go_num, hbw⟩
            case measure => simp [intOf]; omega
          · have d2 : decide ((a : Int) < y) = false := by simpa using h2
            have HC : Hid (heldN l U a (k + 1) = heldN l U a k) := cntN_no (by rw [HG.out, HY.out, d2]; simp)
            go_wp2
            go_roundw
            case rel => exact ⟨k + 1, by omega, by go_num, by rw [HC.out], hbw⟩
            case measure => simp [intOf]; omega
        · have d1 : decide ((k : Int) < (a : Int)) = false := by simpa using h1
          have HC : Hid (heldN l U a (k + 1) = heldN l U a k) := cntN_no (by simp [h1])
          go_wp2
          go_roundw
          case rel => exact ⟨k + 1, by omega, by go_num, by rw [HC.out], hbw⟩
          case measure => simp [intOf]; omega
      · have d9 : (xo == 9) = false := by simpa using h9
        have HC : Hid (heldN l U a (k + 1) = heldN l U a k) := cntN_no (by rw [HG.out, d9]; rfl)
        go_wp2
        go_roundw
        case rel => exact ⟨k + 1, by omega, by go_num, by rw [HC.out], hbw⟩
        case measure => simp [intOf]; omega
    · obtain rfl : k = n := by omega
      go_wp2
      go_ret
      exact ⟨rfl, hbw⟩
end Go.Proofs.Yteikdocpncdheaa
