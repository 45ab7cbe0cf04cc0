/-
  Has vm begun; a step at literals.
-/
import Derived.Test.YtonholadabebbaaVsame
import Derived.WalkSpells
namespace Go.Proofs.Ytonholadabebbaa
open Go.ChangeShapes Go.WideShapes Go.ChangeAt Go.RowKit
attribute [local go_sem ↓] Go.wp_at_zero Go.wp_at_succ

theorem rstep_c (p : Option Addr) (c : Nat) (l : List In) (w : World) (hr : Rd eIn w p c l) (n : Nat) (hN : l.length = n) (hn : n ≤ 1000) (pc m0 m1 m2 m3 m4 m5 m6 m7 : Int) (hMb : ∀ v ∈ [m0, m1, m2, m3, m4, m5, m6, m7], -9223372036854775808 ≤ v ∧ v ≤ 9223372036854775807) (q : Option Addr) (d k : Nat) (R : List Rp) (hR : Rd eRp w q d R) (hk : R.length = k) (hk3 : k ≤ 1000) (hRb : ∀ r ∈ R, -9223372036854775808 ≤ r.2.2 ∧ r.2.2 ≤ 9223372036854775807) (ov : Bool)
    (pcF a0 a1 a2 a3 a4 a5 a6 a7 : Int) (RF : List Rp) (ovF : Bool) (xo xa xb xn : Int) (ok : Bool) (kF : Nat) (hF : stepF l pc [m0, m1, m2, m3, m4, m5, m6, m7] R ov = (pcF, [a0, a1, a2, a3, a4, a5, a6, a7], RF, ovF, (xo, xa, xb, xn), ok)) (hkF : RF.length = kF) :
    Calls Try.prog 25 #[.slice p n c, .agg #[.int .i64 pc, .int .i64 m0, .int .i64 m1, .int .i64 m2, .int .i64 m3, .int .i64 m4, .int .i64 m5, .int .i64 m6, .int .i64 m7, .slice q k d, .bool ov]] w fun e w' => (∃ (q9 : Option Addr) (d9 : Nat), e = .returned (.tuple #[.agg #[.int .i64 pcF, .int .i64 a0, .int .i64 a1, .int .i64 a2, .int .i64 a3, .int .i64 a4, .int .i64 a5, .int .i64 a6, .int .i64 a7, .slice q9 kF d9, .bool ovF], .agg #[.int .i64 xo, .int .i64 xa, .int .i64 xb, .int .i64 xn], .bool ok]) ∧ Own eRp w' (w.heap.size + 3) 79 q9 d9 RF) ∧ Below w.heap.size w w' := by
  refine (rstep_any p c l w hr n hN hn pc [m0, m1, m2, m3, m4, m5, m6, m7] rfl hMb q d k R hR hk hk3 hRb ov).mono ?_
  rintro e w' ⟨⟨pcG, memG, q9, d9, kG, RG, ovG, x, okG, rfl, h1, h2, _, h3, h4⟩, h5⟩
  rw [hF] at h4
  simp only [Prod.mk.injEq] at h4
  obtain ⟨rfl, rfl, rfl, rfl, rfl, rfl⟩ := h4
  subst hkF
  subst h2
  exact ⟨⟨q9, d9, rfl, h3⟩, h5⟩

theorem rd_ins {w : World} {b : Nat} {cs : Array Value} {t : TypeId} {l : List In} (h : w.heap[b]? = some (.cells cs t (0, 0))) (n : Nat) (hn : l.length = n) (hl : cs.toList = fl eIn l) : Rd eIn w (some ⟨b, 0, none⟩) n l := rd_block h n hn hl
theorem rd_nil (w : World) : Rd eRp w none 0 [] := ⟨Nat.le_refl _, .inl ⟨rfl, rfl, rfl⟩⟩
theorem up1 {w : World} {g : Nat} {o x : Obj} (h : w.heap[g]? = some o) : (w.alloc x).heap[g]? = some o := (Below.heap_alloc _ _ _ (lt_of_block h)).trans h
theorem keepc {w w' : World} {g : Nat} {o : Obj} (b : Below w.heap.size w w') (h : w.heap[g]? = some o) : w'.heap[g]? = some o := (b.block g (lt_of_block h)).trans h
end Go.Proofs.Ytonholadabebbaa
