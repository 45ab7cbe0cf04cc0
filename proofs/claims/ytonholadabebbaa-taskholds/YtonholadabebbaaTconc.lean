/-
  Rows of spans, one behind the other: slices.Grow and slices.Concat.
-/
import Derived.Test.YtonholadabebbaaStor
import Derived.Lib.AppendZeros
import Derived.Laws.AppendOwn
namespace Go.Proofs.Ytonholadabebbaa
open Go.ChangeShapes Go.WideShapes Go.ChangeAt Go.RowKit
attribute [local go_sem ↓] Go.wp_at_zero Go.wp_at_succ

/-- a slice, as a cell -/
def eS : Elt (Option Addr × Nat × Nat) := ⟨1, fun x => [.slice x.1 x.2.1 x.2.2], fun _ => rfl, by intro x v hv; simp at hv; subst hv; rfl, by decide⟩
theorem Rd.row {w : World} {p : Option Addr} {c : Nat} {l : List (Option Addr × Nat × Nat)} (h : Rd eS w p c l) (i : Nat) (hi : i < l.length) :
    ∃ b o, p = some ⟨b, o, none⟩ ∧ b < w.heap.size ∧ w.cell? ⟨b, o + i, none⟩ = some (.slice l[i].1 l[i].2.1 l[i].2.2) := by
  obtain ⟨b, o, e, hb, hc⟩ := h.cells i hi
  have := hc 0 _ rfl
  exact ⟨b, o, e, hb, by simpa [eS] using this⟩
theorem zeros_sp (w : World) (ty : TypeId) (base n : Nat) (h0 : 0 < n) (hn : n ≤ 2000) (hb : base ≤ w.heap.size) :
    ∃ p c w', (Builtin.append_ #[33, 3] ty #[.slice none 0 0, .int .i64 (n : Int)]).run Try.prog w = .ok (.slice p n c) w' ∧ Own eSp w' base 39 p c [] ∧ n ≤ c ∧ Below w.heap.size w w' := by
  obtain ⟨i, hi, hz, hs, hby⟩ := info_parts Try.info39
  have hr := Lib.run_append_nil_zeros (P := Try.prog) w 33 3 ty 39 i _ .i64 .i64 Try.underlying33 Try.underlying3 hi hz n h0 (by omega) (by omega) (by rw [hby]; omega)
  have hg := grownCap_ge w n 0 39
  have hm := grownCap_le_maxLen w n 0 39 (by show n ≤ 9223372036854775807; omega)
  refine ⟨_, _, _, hr, ?_, hg, (Below.refl _ _).drew.trans (bel_self w.drew _)⟩
  refine ⟨rfl, .inr ⟨w.heap.size, grownCap w n 0 39, _, rfl, hb, heap_alloc_new w.drew _, Nat.zero_le _, hm, ?_, ?_⟩⟩
  · rw [Array.size_append, size_zeroCells, size_zeroCells]
    have e1 : (Value.agg #[Value.int IntKind.i64 0, Value.int IntKind.i64 0]).cells.size = 2 := rfl
    have e2 : eSp.k = 2 := rfl
    rw [e1, e2]
    omega
  · show List.take (0 * 2) _ = []
    rfl
theorem grow_any (n : Nat) (w : World) (hn : n ≤ 2000) :
    Calls Try.prog 31 #[.slice none 0 0, .int .i64 (n : Int)] w fun e w' => ∃ p c, e = .returned (.slice p 0 c) ∧ Own eSp w' w.heap.size 39 p c [] ∧ Below w.heap.size w w' := by
  by_cases h0 : n = 0
  · subst h0
    go_enter Try.func31, Try.ntmps31
    go_wp2
    go_ret
    exact ⟨none, 0, rfl, own_nil _ _ _, Below.refl _ _⟩
  · have hd : decide ((n : Int) > 0) = true := by simp; omega
    have hd2 : decide ((n : Int) < 0) = false := by simp
    have hd3 : (0 : Int) < (n : Int) := by omega
    have hn0 : 0 < n := by omega
    clear h0
    go_enter Try.func31, Try.ntmps31
    go_wp2_with (at_builtin; obtain ⟨p9, c9, w9, r9, o9, g9, b9⟩ := zeros_sp w 33 w.heap.size n hn0 hn (Nat.le_refl _); refine Lib.wpList_append_run _ rfl _ _ _ _ rfl _ _ rfl rfl _ _ r9 ?_)
    go_ret
    exact ⟨_, _, rfl, o9, b9⟩
set_option maxHeartbeats 1000000 in
theorem concat_any (pp : Option Addr) (pc : Nat) (p1 : Option Addr) (c1 m1 : Nat) (p2 : Option Addr) (c2 m2 : Nat) (l1 l2 : List (Int × Int)) (w : World) (hp : Rd eS w pp pc [(p1, m1, c1), (p2, m2, c2)]) (h1 : Rd eSp w p1 c1 l1) (h2 : Rd eSp w p2 c2 l2) (hm1 : l1.length = m1) (hm2 : l2.length = m2) (hm : m1 + m2 ≤ 1000) (M : Nat) (hM : m1 + m2 = M) :
    Calls Try.prog 21 #[.slice pp 2 pc] w fun e w' => ∃ q d, e = .returned (.slice q M d) ∧ Own eSp w' w.heap.size 39 q d (l1 ++ l2) ∧ Below w.heap.size w w' := by
  obtain ⟨b, o, ep, hb, g0⟩ := hp.row 0 (by simp)
  obtain ⟨b', o', ep', _, g1⟩ := hp.row 1 (by simp)
  rw [ep] at ep'
  cases ep'
  subst ep
  have g0 : w.cell? ⟨b, o, none⟩ = some (.slice p1 m1 c1) := g0
  have g1 : w.cell? ⟨b, o + 1, none⟩ = some (.slice p2 m2 c2) := g1
  have H1 : Hid (l1.length = m1) := hm1
  have H2 : Hid (l2.length = m2) := hm2
  have HM : Hid (m1 + m2 = M) := hM
  have hMI : (m1 : Int) + (m2 : Int) = (M : Int) := by omega
  have hM9 : M ≤ 1000 := by omega
  have n1 : decide ((m1 : Int) < 0) = false := by simp
  have n2 : decide ((M : Int) < 0) = false := by simp
  have hw1 : wrap64 (m1 : Int) = m1 := by unfold wrap64; omega
  have hw2 : wrap64 (M : Int) = M := by unfold wrap64; omega
  clear hm1 hm2 hM
  go_enter Try.func21, Try.ntmps21
  go_wp2
  go_loopw [3, 11] (fun a i wr => wr = w ∧ ((i = .int .i64 0 ∧ a = .int .i64 0) ∨ (i = .int .i64 1 ∧ a = .int .i64 (m1 : Int)) ∨ (i = .int .i64 2 ∧ a = .int .i64 (M : Int)))) (fun _ i _ => 2 - (intOf i).toNat)
  case atStart => exact ⟨rfl, .inl ⟨rfl, rfl⟩⟩
  case round =>
    obtain ⟨rfl, ⟨rfl, rfl⟩ | ⟨rfl, rfl⟩ | ⟨rfl, rfl⟩⟩ := hrel
    · go_wp2
      go_roundw
      case rel => exact ⟨trivial, .inr (.inl ⟨rfl, rfl⟩)⟩
      case measure => simp [intOf]
    · go_wp2
      go_roundw
      case rel => exact ⟨trivial, .inr (.inr ⟨rfl, rfl⟩)⟩
      case measure => simp [intOf]
    · obtain ⟨wo, hwo⟩ : ∃ wo : World, wo = wr := ⟨_, rfl⟩
      subst hwo
      go_wp2_with (go_at_call 31; refine (grow_any M _ (by omega)).mono ?_; rintro e w3 ⟨q3, d3, rfl, o3, b3⟩)
      go_loopw [6, 27] (fun a i wx => (i = .int .i64 0 ∧ wx = w3 ∧ a = .slice q3 0 d3) ∨ (i = .int .i64 1 ∧ Below wo.heap.size wo wx ∧ ∃ q d, a = .slice q m1 d ∧ Own eSp wx wo.heap.size 39 q d l1) ∨ (i = .int .i64 2 ∧ Below wo.heap.size wo wx ∧ ∃ q d, a = .slice q M d ∧ Own eSp wx wo.heap.size 39 q d (l1 ++ l2))) (fun _ i _ => 2 - (intOf i).toNat)
      case atStart => exact .inl ⟨rfl, rfl, rfl⟩
      case round =>
        rcases hrel with ⟨rfl, rfl, rfl⟩ | ⟨rfl, hbx, q, d, rfl, ow⟩ | ⟨rfl, hbx, q, d, rfl, ow⟩
        · have g03 := (b3.cell (p := ⟨b, o, none⟩) hb).trans g0
          have h13 := h1.below b3
          clear g1
          go_wp2_with (at_builtin; refine wpList_app tSp _ rfl _ _ rfl wo.heap.size q3 d3 [] 0 rfl rfl o3 p1 c1 l1 m1 H1.out rfl h13 (by omega) b3.size m1 (by omega) ?_; intro q5 d5 w5 o5 b5 s5)
          have b35 := b3.trans b5
          go_roundw
          case rel => exact .inr (.inl ⟨rfl, b35, q5, d5, rfl, o5⟩)
          case measure => simp [intOf]
        · have g13 := (hbx.cell (p := ⟨b, o + 1, none⟩) hb).trans g1
          have h23 := h2.below hbx
          clear g0
          go_wp2_with (at_builtin; refine wpList_app tSp _ rfl _ _ rfl wo.heap.size q d l1 m1 H1.out rfl ow p2 c2 l2 m2 H2.out rfl h23 (by omega) hbx.size M HM.out ?_; intro q5 d5 w5 o5 b5 s5)
          have b35 := hbx.trans b5
          go_roundw
          case rel => exact .inr (.inr ⟨rfl, b35, q5, d5, rfl, o5⟩)
          case measure => simp [intOf]
        · go_wp2
          go_ret
          exact ⟨q, d, rfl, ow, hbx⟩
end Go.Proofs.Ytonholadabebbaa
