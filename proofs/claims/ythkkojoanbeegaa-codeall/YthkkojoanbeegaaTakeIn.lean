/-
  Bytes that are cut; the instruction that seven bytes are, by the document's answer.
-/
import Derived.Test.YthkkojoanbeegaaInst
import Derived.Test.YthkkojoanbeegaaMayRef
import Derived.Test.YthkkojoanbeegaaPuts
namespace Go.Proofs.Ythkkojoanbeegaa
open Go.ChangeShapes Go.WideShapes Go.ChangeAt Go.RowKit
attribute [local go_sem ↓] Go.wp_at_zero Go.wp_at_succ

theorem rd_far {w : World} {b o c : Nat} {l : List Int} (h : Rd eBy w (some ⟨b, o, none⟩) c l) (n : Nat) (hn : n ≤ l.length) (hc : ¬ c = n) : Rd eBy w (some ⟨b, o + n, none⟩) (c - n) (l.drop n) := by
  have := h.drop n hn
  rw [if_neg hc] at this
  simp only [Option.map_some, add_plain] at this
  rwa [show eBy.k = 1 from rfl, Nat.mul_one] at this
theorem rd_end {w : World} {p : Option Addr} {c : Nat} {l : List Int} (h : Rd eBy w p c l) (n : Nat) (hn : n ≤ l.length) (hc : c = n) : Rd eBy w p 0 (l.drop n) := by
  have := h.drop n hn
  rw [if_pos hc, hc, Nat.sub_self] at this
  exact this
theorem decI_take (l : List Int) : decI (l.take 7) = decI l := by
  have g : ∀ i, i < 7 → (l.take 7).getD i 0 = l.getD i 0 := fun i hi => by
    rw [List.getD_eq_getElem?_getD, List.getD_eq_getElem?_getD, List.getElem?_take_of_lt hi]
  unfold decI
  rw [g 0 (by omega), g 1 (by omega), g 2 (by omega), g 3 (by omega), g 4 (by omega), g 5 (by omega), g 6 (by omega)]

/-- what TakeInst tells -/
def toldI (x : In) : In := if mayB x then x else (0, 0, 0, 0)
set_option maxHeartbeats 2000000 in
theorem takeInst_any (p : Option Addr) (c : Nat) (l : List Int) (w : World) (hr : Rd eBy w p c l) (n : Nat) (hn : l.length = n) (h7 : 7 ≤ n) (hbd : ∀ x ∈ l, 0 ≤ x ∧ x ≤ 255) :
    Calls Try.prog 24 #[.slice p n c] w fun e w' => e = .returned (.tuple #[.agg #[.int .i64 (toldI (decI l)).1, .int .i64 (toldI (decI l)).2.1, .int .i64 (toldI (decI l)).2.2.1, .int .i64 (toldI (decI l)).2.2.2], .bool (mayB (decI l))]) ∧ Below w.heap.size w w' := by
  obtain ⟨b, o, rfl, hbz, hc⟩ := hr.bytes (by omega)
  have c0 := hc 0 (by omega)
  rw [Nat.add_zero] at c0
  have c1 := hc 1 (by omega)
  have c2 := hc 2 (by omega)
  have c3 := hc 3 (by omega)
  have c4 := hc 4 (by omega)
  have c5 := hc 5 (by omega)
  have c6 := hc 6 (by omega)
  have g : ∀ i, i < l.length → 0 ≤ l.getD i 0 ∧ l.getD i 0 ≤ 255 := fun i hi => by
    rw [List.getD_eq_getElem?_getD, List.getElem?_eq_getElem hi]
    exact hbd _ (List.getElem_mem hi)
  obtain ⟨a0, a1⟩ := g 0 (by omega)
  obtain ⟨b0, b1⟩ := g 1 (by omega)
  obtain ⟨d0, d1⟩ := g 2 (by omega)
  obtain ⟨e0, e1⟩ := g 3 (by omega)
  obtain ⟨e2, e3⟩ := g 4 (by omega)
  obtain ⟨e4, e5⟩ := g 5 (by omega)
  obtain ⟨e6, e7⟩ := g 6 (by omega)
  have hS : wrap32 (l.getD 3 0 * 16777216 + l.getD 4 0 * 65536 + l.getD 5 0 * 256 + l.getD 6 0) = s32 (u4 (l.getD 3 0) (l.getD 4 0) (l.getD 5 0) (l.getD 6 0)) := s32_wrap _ (by omega) (by omega)
  obtain ⟨s0, s1⟩ : -2147483648 ≤ s32 (u4 (l.getD 3 0) (l.getD 4 0) (l.getD 5 0) (l.getD 6 0)) ∧ s32 (u4 (l.getD 3 0) (l.getD 4 0) (l.getD 5 0) (l.getD 6 0)) ≤ 2147483647 := s32_bd _ (by unfold u4; omega) (by unfold u4; omega)
  unfold decI
  generalize s32 (u4 (l.getD 3 0) (l.getD 4 0) (l.getD 5 0) (l.getD 6 0)) = sn at *
  clear g hc hr hbd hn
  generalize l.getD 0 0 = x0 at *
  generalize l.getD 1 0 = x1 at *
  generalize l.getD 2 0 = x2 at *
  generalize l.getD 3 0 = x3 at *
  generalize l.getD 4 0 = x4 at *
  generalize l.getD 5 0 = x5 at *
  generalize l.getD 6 0 = x6 at *
  have i0 : 0 < n := by omega
  have i1 : 1 < n := by omega
  have i2 : 2 < n := by omega
  have i3 : 3 < n := by omega
  have i4 : 4 < n := by omega
  have i5 : 5 < n := by omega
  have i6 : 6 < n := by omega
  have j0 : (0 : Int) < n := by omega
  have j1 : (1 : Int) < n := by omega
  have j2 : (2 : Int) < n := by omega
  have j3 : (3 : Int) < n := by omega
  have j4 : (4 : Int) < n := by omega
  have j5 : (5 : Int) < n := by omega
  have j6 : (6 : Int) < n := by omega
  have j7 : decide ((n : Int) < 7) = false := by simp; omega
  have hne : ¬ (b = w.heap.size) := by omega
  have hne' : ¬ (w.heap.size = b) := by omega
  have hne1 : ¬ (b = w.heap.size + 1) := by omega
  have hne1' : ¬ (w.heap.size + 1 = b) := by omega
  have HT : Hid (mayB (x0, x1, x2, sn) = true → toldI (x0, x1, x2, sn) = (x0, x1, x2, sn)) := fun h => if_pos h
  have HF : Hid (mayB (x0, x1, x2, sn) = false → toldI (x0, x1, x2, sn) = (0, 0, 0, 0)) := fun h => if_neg (by rw [h]; simp)
  generalize toldI (x0, x1, x2, sn) = y at *
  have wx0 : IntKind.i64.wrap x0 = x0 := i64_in _ (by omega) (by omega)
  have wx1 : IntKind.i64.wrap x1 = x1 := i64_in _ (by omega) (by omega)
  have wx2 : IntKind.i64.wrap x2 = x2 := i64_in _ (by omega) (by omega)
  have wS : IntKind.i32.wrap (x3 * 16777216 + x4 * 65536 + x5 * 256 + x6) = sn := by rw [← hS]; simp [IntKind.wrap, IntKind.bits, IntKind.signed, wrap32]; split <;> omega
  have wn : IntKind.i64.wrap sn = sn := i64_in _ (by omega) (by omega)
  go_enter Try.func24, Try.ntmps24
  go_wp2
  go_quiet (fail)
  go_wp2
  go_region_held3 (fun w' => w'.cell? ⟨b, o, none⟩ = some (.int .u8 x0) ∧ w'.cell? ⟨b, o + 1, none⟩ = some (.int .u8 x1) ∧ w'.cell? ⟨b, o + 2, none⟩ = some (.int .u8 x2))
    (go_keep)
    (fail)
  have hB0 : Below w.heap.size w (((w.alloc (.cells #[.int .i64 0, .int .i64 0, .int .i64 0, .int .i64 0] 23)).drewN (nq + 1)).alloc (.cells #[.int .i64 x0, .int .i64 x1, .int .i64 x2, .int .i64 sn] 23)) := (bel_draws ((Below.refl _ _).alloc (Nat.le_refl _) _) _).alloc (by simp) _
  by_cases hm : mayB (x0, x1, x2, sn) = true
  · have hy := HT.out hm
    subst hy
    go_wp2_with (go_at_call 15; refine (mayInst_any (x0, x1, x2, sn) _).mono ?_; rintro e w4 ⟨rfl, hb4⟩; obtain ⟨hc4, hf4⟩ := bcell hb4; have hz4 := hb4.size; simp at hz4; have hB4 := bel_call hB0 (Nat.le_refl _) hb4)
    have z0 : w4.cell? ⟨w.heap.size, 0, none⟩ = some (.int .i64 0) := by rw [hc4 _ _ (by simp <;> omega)]; simp [go_sem]
    have z1 : w4.cell? ⟨w.heap.size, 1, none⟩ = some (.int .i64 0) := by rw [hc4 _ _ (by simp <;> omega)]; simp [go_sem]
    have z2 : w4.cell? ⟨w.heap.size, 2, none⟩ = some (.int .i64 0) := by rw [hc4 _ _ (by simp <;> omega)]; simp [go_sem]
    have z3 : w4.cell? ⟨w.heap.size, 3, none⟩ = some (.int .i64 0) := by rw [hc4 _ _ (by simp <;> omega)]; simp [go_sem]
    refine bodyPost_ret (v := .tuple #[.agg #[.int .i64 x0, .int .i64 x1, .int .i64 x2, .int .i64 sn], .bool true]) (by simp [results, Try.results24, go_sem, z0, z1, z2, z3]) rfl ⟨rfl, ?_⟩
    repeat (first | exact hB4 | refine Below.setCell ?_ (by simp) _)
  · have hm' : mayB (x0, x1, x2, sn) = false := by simpa using hm
    have hy := HF.out hm'
    subst hy
    go_wp2_with (go_at_call 15; refine (mayInst_any (x0, x1, x2, sn) _).mono ?_; rintro e w4 ⟨rfl, hb4⟩; obtain ⟨hc4, hf4⟩ := bcell hb4; have hz4 := hb4.size; simp at hz4; have hB4 := bel_call hB0 (Nat.le_refl _) hb4)
    have z0 : w4.cell? ⟨w.heap.size, 0, none⟩ = some (.int .i64 0) := by rw [hc4 _ _ (by simp <;> omega)]; simp [go_sem]
    have z1 : w4.cell? ⟨w.heap.size, 1, none⟩ = some (.int .i64 0) := by rw [hc4 _ _ (by simp <;> omega)]; simp [go_sem]
    have z2 : w4.cell? ⟨w.heap.size, 2, none⟩ = some (.int .i64 0) := by rw [hc4 _ _ (by simp <;> omega)]; simp [go_sem]
    have z3 : w4.cell? ⟨w.heap.size, 3, none⟩ = some (.int .i64 0) := by rw [hc4 _ _ (by simp <;> omega)]; simp [go_sem]
    refine bodyPost_ret (v := .tuple #[.agg #[.int .i64 0, .int .i64 0, .int .i64 0, .int .i64 0], .bool false]) (by simp [results, Try.results24, go_sem, z0, z1, z2, z3]) rfl ⟨rfl, ?_⟩
    repeat (first | exact hB4 | refine Below.setCell ?_ (by simp) _)
end Go.Proofs.Ythkkojoanbeegaa
