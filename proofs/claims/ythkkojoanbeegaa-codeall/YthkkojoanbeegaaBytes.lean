/-
  Numbers as four bytes and back; an instruction's bytes.
-/
import Derived.Test.YthkkojoanbeegaaElts
namespace Go.Proofs.Ythkkojoanbeegaa
open Go.ChangeShapes Go.WideShapes Go.ChangeAt Go.RowKit
attribute [local go_sem ↓] Go.wp_at_zero Go.wp_at_succ

theorem or32 (h l : Int) (k : Nat) (h0 : 0 ≤ h) (l0 : 0 ≤ l) (l1 : l < 2 ^ k) (hm : h % 2 ^ k = 0) (h1 : h < 4294967296) (l2 : l < 4294967296) : bits .or .u32 h l = h + l := by
  obtain ⟨H, rfl⟩ := Int.eq_ofNat_of_zero_le h0
  obtain ⟨L, rfl⟩ := Int.eq_ofNat_of_zero_le l0
  rw [u32_or_nat H L (by omega) (by omega), nat_join k H L (by exact_mod_cast hm) (by exact_mod_cast l1)]
  omega
theorem s32_wrap (u : Int) (h0 : 0 ≤ u) (h1 : u < 4294967296) : wrap32 u = s32 u := by unfold wrap32 s32; split <;> omega
theorem s32_bd (u : Int) (h0 : 0 ≤ u) (h1 : u < 4294967296) : -2147483648 ≤ s32 u ∧ s32 u ≤ 2147483647 := by unfold s32; split <;> omega
theorem ret_i32 {a b : Int} (h : a = b) : Ending.returned (.int .i32 a) = .returned (.int .i32 b) := by rw [h]

theorem size_any (n : Int) (w : World) (h0 : 0 ≤ n) (h1 : n ≤ 1000) : Calls Try.prog 22 #[.int .i64 n] w fun e w' => e = .returned (.int .i64 (1 + n * 7)) ∧ w' = w := by
  go_enter Try.func22, Try.ntmps22
  go_wp2
  go_ret
  exact ⟨rfl, rfl⟩

theorem word_any (p : Option Addr) (c : Nat) (l : List Int) (w : World) (hr : Rd eBy w p c l) (n : Nat) (hn : l.length = n) (h4 : 4 ≤ n) (hb : ∀ x ∈ l, 0 ≤ x ∧ x ≤ 255) :
    Calls Try.prog 31 #[.slice p n c] w fun e w' => e = .returned (.int .i32 (s32 (u4 (l.getD 0 0) (l.getD 1 0) (l.getD 2 0) (l.getD 3 0)))) ∧ ∃ k, w' = w.drewN k := by
  obtain ⟨b, o, rfl, hbz, hc⟩ := hr.bytes (by omega)
  have c0 := hc 0 (by omega)
  rw [Nat.add_zero] at c0
  have c1 := hc 1 (by omega)
  have c2 := hc 2 (by omega)
  have c3 := hc 3 (by omega)
  have g : ∀ i, i < l.length → 0 ≤ l.getD i 0 ∧ l.getD i 0 ≤ 255 := fun i hi => by
    rw [List.getD_eq_getElem?_getD, List.getElem?_eq_getElem hi]
    exact hb _ (List.getElem_mem hi)
  obtain ⟨a0, a1⟩ := g 0 (by omega)
  obtain ⟨b0, b1⟩ := g 1 (by omega)
  obtain ⟨d0, d1⟩ := g 2 (by omega)
  obtain ⟨e0, e1⟩ := g 3 (by omega)
  clear g hc hr hb
  generalize l.getD 0 0 = x0 at *
  generalize l.getD 1 0 = x1 at *
  generalize l.getD 2 0 = x2 at *
  generalize l.getD 3 0 = x3 at *
  clear hn
  have i0 : 0 < n := by omega
  have i1 : 1 < n := by omega
  have i2 : 2 < n := by omega
  have i3 : 3 < n := by omega
  have j0 : (0 : Int) < n := by omega
  have j1 : (1 : Int) < n := by omega
  have j2 : (2 : Int) < n := by omega
  have j3 : (3 : Int) < n := by omega
  go_enter Try.func31, Try.ntmps31
  go_wp2
  go_quiet (fail)
  go_wp2
  go_ret
  refine ⟨ret_i32 ?_, ?_⟩
  · rw [or32 (x0 * 16777216) (x1 * 65536) 24 (by omega) (by omega) (by omega) (by omega) (by omega) (by omega), or32 (x0 * 16777216 + x1 * 65536) (x2 * 256) 16 (by omega) (by omega) (by omega) (by omega) (by omega) (by omega), or32 (x0 * 16777216 + x1 * 65536 + x2 * 256) x3 8 (by omega) (by omega) (by omega) (by omega) (by omega) (by omega)]
    rw [s32_wrap _ (by omega) (by omega)]
    rfl
  · exact ⟨_, rfl⟩

theorem appendWord_any (p : Option Addr) (c : Nat) (l : List Int) (w : World) (base : Nat) (hown : Own eBy w base 5 p c l) (hbase : base ≤ w.heap.size) (hl : l.length ≤ 1000) (v : Int) :
    Calls Try.prog 29 #[.slice p l.length c, .int .i32 v] w fun e w' => ∃ p' c', e = .returned (.slice p' (l.length + 4) c') ∧ Own eBy w' base 5 p' c' (l ++ [v % 4294967296 / 16777216, v % 4294967296 / 65536 % 256, v % 4294967296 / 256 % 256, v % 256]) ∧ Below base w w' := by
  go_enter Try.func29, Try.ntmps29
  go_wp2_with (at_builtin; refine wpList_app tBy _ rfl _ _ rfl base p c l l.length rfl rfl (own_below hown ((Below.refl _ _).alloc (Nat.le_refl _) _)) _ _ [v % 4294967296 / 16777216, v % 4294967296 / 65536 % 256, v % 4294967296 / 256 % 256, v % 256] 4 rfl rfl (rd_block (heap_alloc_new _ _) 4 rfl rfl) (by omega) (by simp; omega) _ rfl ?_; intro p2 c2 w2 ho2 hb2 hst2)
  go_ret
  exact ⟨_, _, rfl, ho2, ((Below.refl _ _).alloc hbase _).trans hb2⟩

theorem putInst_any (x : In) (w : World) :
    Calls Try.prog 30 #[.agg #[.int .i64 x.1, .int .i64 x.2.1, .int .i64 x.2.2.1, .int .i64 x.2.2.2]] w fun e w' => ∃ p, e = .returned (.slice p 7 7) ∧ Rd eBy w' p 7 (encB x) ∧ Below w.heap.size w w' := by
  obtain ⟨o, a, b, n⟩ := x
  simp only
  have hw : wrap32 n % 4294967296 = n % 4294967296 := by unfold wrap32; omega
  go_enter Try.func30, Try.ntmps30
  go_wp2
  go_ret
  refine ⟨_, rfl, rd_block (heap_at (by simp)) 7 rfl ?_, ((Below.refl _ _).alloc (Nat.le_refl _) _).alloc (by simp) _⟩
  rfl

theorem bel_of_draws {w : World} (k : Nat) : Below w.heap.size w (w.drewN k) := bel_draws (Below.refl _ _) k
end Go.Proofs.Ythkkojoanbeegaa
