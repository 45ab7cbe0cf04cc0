/-
  The law TaskForms, walked.
-/
import Derived.Test.YtonholadabebbaaTfreg
import Derived.Deep.CutBlock
import Derived.Deep.CutRange
namespace Go.Proofs.Ytonholadabebbaa
open Go.ChangeShapes Go.WideShapes Go.ChangeAt Go.RowKit
attribute [local go_sem ↓] Go.wp_at_zero Go.wp_at_succ

def mainL : List In := [(1, 0, 0, 0), (1, 0, 0, 0), (0, 0, 0, 0)]
def gd (bm : Option Addr) : Tv := ⟨63, 16384, 3, bm, 3, 3, bm, 3, 3, bm, 3, 3⟩
def tz0 : Tv := ⟨0, 0, 0, none, 0, 0, none, 0, 0, none, 0, 0⟩
def errs15 : List Int := [1, 1, 9, 9, 9, 9, 2, 2, 2, 2, 2, 10, 12, 1, 9]
theorem er_0 : erT (-1) 16384 3 mainL mainL mainL = 1 := by decide +kernel
theorem er_1 : erT (64) 16384 3 mainL mainL mainL = 1 := by decide +kernel
theorem er_2 : erT (63) 0 3 mainL mainL mainL = 9 := by decide +kernel
theorem er_3 : erT (63) 16385 3 mainL mainL mainL = 9 := by decide +kernel
theorem er_4 : erT (63) 16384 0 mainL mainL mainL = 9 := by decide +kernel
theorem er_5 : erT (63) 2 3 mainL mainL mainL = 9 := by decide +kernel
theorem er_6 : erT (63) 16384 3 [] mainL mainL = 2 := by decide +kernel
theorem er_7 : erT (63) 16384 3 [(1, 0, 0, 0)] mainL mainL = 2 := by decide +kernel
theorem er_8 : erT (63) 16384 3 mainL [(1, 0, 0, 0)] mainL = 2 := by decide +kernel
theorem er_9 : erT (63) 16384 3 mainL mainL [(1, 0, 0, 0)] = 2 := by decide +kernel
theorem er_10 : erT (63) 16384 3 mainL mainL [(9, 0, 0, 0), (10, 0, 0, 0), (0, 0, 0, 0)] = 2 := by decide +kernel
theorem er_11 : erT (63) 16384 2 mainL mainL mainL = 10 := by decide +kernel
theorem er_12 : erT (63) 16384 3 mainL [(1, 0, 0, 0), (1, 0, 0, 0), (1, 0, 0, 0), (0, 0, 0, 0)] mainL = 12 := by decide +kernel
theorem er_13 : erT (-1) 0 3 mainL mainL mainL = 1 := by decide +kernel
theorem er_14 : erT (63) 16384 0 [] mainL mainL = 9 := by decide +kernel
theorem er_g : erT 63 16384 3 mainL mainL mainL = 0 := by decide +kernel
theorem Try.info24 : (Try.prog.info? 24).map (fun i => (i.zero, i.size, i.bytes)) = some (some (.agg #[.int .i64 0, .int .i64 0, .int .i64 0, .slice none 0 0, .slice none 0 0, .slice none 0 0]), 6, 96) := by kernel_rfl
theorem make32 (w : World) (base : Nat) (hb : base ≤ w.heap.size) : ∃ w', (Instr.makeSlice 32 (.int .i64 15) (.int .i64 15)).run Try.prog w = .ok (.slice (some ⟨w.heap.size, 0, none⟩) 15 15) w' ∧ Own eTk w' base 24 (some ⟨w.heap.size, 0, none⟩) 15 (List.replicate 15 tz0) ∧ Below w.heap.size w w' := by
  obtain ⟨i, hi, h0, h1, h2⟩ := info_parts Try.info24
  obtain ⟨w', h3, h4, h5⟩ := run_make_full (P := Try.prog) (w := w) base 32 24 i _ 6 Try.underlying32 hi h0 h1 .i64 .i64 15 (by rw [h2]; decide) (by decide) hb
  have e : (madeCells (Value.agg #[.int .i64 0, .int .i64 0, .int .i64 0, .slice none 0 0, .slice none 0 0, .slice none 0 0]).cells (15 * 6)).toList = fl eTk (List.replicate 15 tz0) := by kernel_rfl
  refine ⟨w', h3, ?_, (Below.refl _ _).grown h5 (Nat.le_refl _) (fun k hk => by cases hk)⟩
  unfold Own
  rw [← e]
  exact h4
theorem rep_set {α : Type} (x y : α) (n k : Nat) (hk : k < n) : (List.replicate k x ++ List.replicate (n - k) y).set k x = List.replicate (k + 1) x ++ List.replicate (n - (k + 1)) y := by
  rw [List.set_append, if_neg (by simp), List.length_replicate, Nat.sub_self, show n - k = (n - (k + 1)) + 1 by omega, List.replicate_succ, List.set_cons_zero, List.replicate_succ', List.append_assoc]
  rfl
theorem wpList_fld {ops : Array Oper} {rest : List Oper} {op : Oper} {a : Act} {w : World} {Q : Exit → Act → World → Prop} (hgd : op.guard = none) (ty : TypeId) (x y : Operand) (ho : op.op = .store ty x y) (hty : ty = 2 ∨ ty = 3 ∨ ty = 22)
    (g base c : Nat) (P : List Tv) (hown : Own eTk w base 24 (some ⟨g, 0, none⟩) c P) (k : Nat) (hk : k < P.length) (f : Nat) (hf : f < 6) (O : Nat) (hO : O = k * 6 + f) (v : Value) (hv : (∃ k n, v = .int k n) ∨ ∃ p n d, v = .slice p n d) (X : Tv) (hX : eTk.enc X = (eTk.enc P[k]).set f v) (hx : a.eval x = .pointer (some ⟨g, O, none⟩)) (hy : a.eval y = v)
    (h : ∀ w', Own eTk w' base 24 (some ⟨g, 0, none⟩) c (P.set k X) → Kp g w w' → wpList Try.prog ops Q rest (a.put op.dst undef) w') : wpList Try.prog ops Q (op :: rest) a w := by
  subst hO
  refine wpList_plain hgd fun _ hK => ?_
  obtain ⟨f1, c', f2⟩ := own_at hown k hk f hf
  unfold Oper.wp execOp
  rw [ho]
  simp only [hx, hy, Sem.run_bind, sto_run ty hty _ v c' hv w f2 f1, Result.andThen_ok, Sem.run_pure]
  exact hK _ _ (h _ (own_fld hown k hk f hf v X hX) (Kp.set rfl v))
theorem tl_in {tl : List (Option Nat)} {lo hi : Nat} (h : (tl.all fun o => match o with | none => true | some k => decide (lo ≤ k ∧ k < hi)) = true) {j k : Nat} (he : tl.getD j none = some k) : lo ≤ k ∧ k < hi := by
  rw [List.getD_eq_getElem?_getD] at he
  by_cases hj : j < tl.length
  · rw [List.getElem?_eq_getElem hj] at he
    have := List.all_eq_true.1 h _ (List.getElem_mem hj)
    have he : tl[j] = some k := he
    rw [he] at this
    exact of_decide_eq_true this
  · rw [List.getElem?_eq_none (by omega)] at he; cases he
theorem in12 : (tl12.all fun o => match o with | none => true | some k => decide (5 ≤ k ∧ k < 10)) = true := by decide +kernel
theorem in13 : (tl13.all fun o => match o with | none => true | some k => decide (10 ≤ k ∧ k < 15)) = true := by decide +kernel
theorem no12 (g : Nat) (bm : Option Addr) (k : Nat) (h : ¬ (5 ≤ k ∧ k < 10)) (j : Nat) : tgt ((sp12 g bm).getD j dv) ≠ some k := fun e => by
  have e2 : (sp12 g bm).map tgt = tl12 := rfl
  rw [tgt_getD, e2] at e
  exact h (tl_in in12 e)
theorem no13 (g : Nat) (bm : Option Addr) (k : Nat) (h : ¬ (10 ≤ k ∧ k < 15)) (j : Nat) : tgt ((sp13 g bm).getD j dv) ≠ some k := fun e => by
  have e2 : (sp13 g bm).map tgt = tl13 := rfl
  rw [tgt_getD, e2] at e
  exact h (tl_in in13 e)
theorem fld_at {w : World} {g base c : Nat} {P : List Tv} (h : Own eTk w base 24 (some ⟨g, 0, none⟩) c P) {k : Nat} {X : Tv} (hX : P[k]? = some X) : w.cell? ⟨g, k * 6, none⟩ = some (.int .i64 X.r) ∧ w.cell? ⟨g, k * 6 + 1, none⟩ = some (.int .i64 X.p) ∧ w.cell? ⟨g, k * 6 + 2, none⟩ = some (.int .i64 X.e) ∧ w.cell? ⟨g, k * 6 + 3, none⟩ = some (.slice X.mp X.mn X.mc) ∧ w.cell? ⟨g, k * 6 + 4, none⟩ = some (.slice X.wp X.wn X.wc) ∧ w.cell? ⟨g, k * 6 + 5, none⟩ = some (.slice X.op X.on X.oc) := by
  obtain ⟨hk, rfl⟩ := List.getElem?_eq_some_iff.1 hX
  obtain ⟨b, o, e, hb, y0, y1, y2, y3, y4, y5⟩ := (own_rd h).task k hk
  simp only [Option.some.injEq, Addr.mk.injEq, and_true] at e
  obtain ⟨rfl, rfl⟩ := e
  simp only [Nat.zero_add] at y0 y1 y2 y3 y4 y5
  exact ⟨y0, y1, y2, y3, y4, y5⟩
theorem getE {α : Type} {l : List α} {k : Nat} {x : α} (h : l[k]? = some x) (hk : k < l.length) : l[k] = x := by
  rw [List.getElem?_eq_getElem hk] at h
  exact Option.some.inj h
theorem i_m1 : I64 (-1) := by unfold I64; omega
theorem i_0 : I64 (0) := by unfold I64; omega
theorem i_2 : I64 (2) := by unfold I64; omega
theorem i_3 : I64 (3) := by unfold I64; omega
theorem i_63 : I64 (63) := by unfold I64; omega
theorem i_64 : I64 (64) := by unfold I64; omega
theorem i_16384 : I64 (16384) := by unfold I64; omega
theorem i_16385 : I64 (16385) := by unfold I64; omega
def rbF (b : Nat) : Nat → Nat
  | 1 => b
  | 2 => b + 1
  | 3 => b + 1 + 1
  | _ => b + 1 + 1 + 1
/-- what each of the fifteen is in the end -/
def Fin (w : World) (P : List Tv) : Prop := ∀ k, k < 15 → ∃ X M W O, P[k]? = some X ∧ Gt w X M W O ∧ erT X.r X.p X.e M W O = errs15.getD k 0
theorem Fin.below {w w' : World} {P : List Tv} (h : Fin w P) (hb : Below w.heap.size w w') : Fin w' P := fun k hk => by
  obtain ⟨X, M, W, O, a, b, c⟩ := h k hk
  exact ⟨X, M, W, O, a, b.below hb, c⟩
theorem errs_at (k : Nat) (hk : k < 15) : (#[.int .i64 1, .int .i64 1, .int .i64 9, .int .i64 9, .int .i64 9, .int .i64 9, .int .i64 2, .int .i64 2, .int .i64 2, .int .i64 2, .int .i64 2, .int .i64 10, .int .i64 12, .int .i64 1, .int .i64 9] : Array Value)[k]? = some (.int .i64 (errs15.getD k 0)) := by
  have : k = 0 ∨ k = 1 ∨ k = 2 ∨ k = 3 ∨ k = 4 ∨ k = 5 ∨ k = 6 ∨ k = 7 ∨ k = 8 ∨ k = 9 ∨ k = 10 ∨ k = 11 ∨ k = 12 ∨ k = 13 ∨ k = 14 := by omega
  rcases this with rfl | rfl | rfl | rfl | rfl | rfl | rfl | rfl | rfl | rfl | rfl | rfl | rfl | rfl | rfl <;> rfl
theorem errs_ne : ∀ k, k < 15 → errs15.getD k 0 ≠ 0 := by decide +kernel
set_option maxRecDepth 20000 in
set_option maxHeartbeats 8000000 in
theorem tforms_walk (w : World) : Calls Try.prog 4 #[] w fun e w' => e = .returned (.bool true) ∧ Below w.heap.size w w' := by
  go_enter Try.func4, Try.ntmps4
  go_upto_region 6 with (go_at_call 6; refine (begun_any _).mono ?_; rintro e w1 ⟨rfl, hb1⟩)
  have hrows : ∀ t, 1 ≤ t → t ≤ 4 → ((((((w1.alloc (.cells #[.int .i64 0, .int .i64 0, .int .i64 0, .int .i64 0] 42)).alloc (.cells #[.int .i64 1, .int .i64 0, .int .i64 0, .int .i64 0] 42)).alloc (.cells #[.int .i64 9, .int .i64 0, .int .i64 0, .int .i64 0] 42)).alloc (.cells #[.int .i64 10, .int .i64 0, .int .i64 0, .int .i64 0] 42)).alloc (.cells #[.int .i64 1, .int .i64 0, .int .i64 0, .int .i64 0, .int .i64 1, .int .i64 0, .int .i64 0, .int .i64 0, .int .i64 0, .int .i64 0, .int .i64 0, .int .i64 0] 42)).alloc (.cells #[.int .i64 63, .int .i64 16384, .int .i64 3, .slice (some ⟨w1.heap.size + 1 + 1 + 1 + 1, 0, none⟩) 3 3, .slice (some ⟨w1.heap.size + 1 + 1 + 1 + 1, 0, none⟩) 3 3, .slice (some ⟨w1.heap.size + 1 + 1 + 1 + 1, 0, none⟩) 3 3] 24)).heap[rbF w1.heap.size t]? = some (.cells (aC (vars4 t)) 42 (0, 0)) := by
    intro t h1 h4
    have : t = 1 ∨ t = 2 ∨ t = 3 ∨ t = 4 := by omega
    rcases this with rfl | rfl | rfl | rfl
    · simp only [rbF, vars4, aC]; repeat (first | (refine heap_at ?_; simp; done) | (refine Eq.trans (Below.heap_alloc _ _ _ ?_) ?_; (· first | (simp; done) | (simp; omega))))
    · simp only [rbF, vars4, aC]; repeat (first | (refine heap_at ?_; simp; done) | (refine Eq.trans (Below.heap_alloc _ _ _ ?_) ?_; (· first | (simp; done) | (simp; omega))))
    · simp only [rbF, vars4, aC]; repeat (first | (refine heap_at ?_; simp; done) | (refine Eq.trans (Below.heap_alloc _ _ _ ?_) ?_; (· first | (simp; done) | (simp; omega))))
    · simp only [rbF, vars4, aC]; repeat (first | (refine heap_at ?_; simp; done) | (refine Eq.trans (Below.heap_alloc _ _ _ ?_) ?_; (· first | (simp; done) | (simp; omega))))
  have hM : Rd eIn ((((((w1.alloc (.cells #[.int .i64 0, .int .i64 0, .int .i64 0, .int .i64 0] 42)).alloc (.cells #[.int .i64 1, .int .i64 0, .int .i64 0, .int .i64 0] 42)).alloc (.cells #[.int .i64 9, .int .i64 0, .int .i64 0, .int .i64 0] 42)).alloc (.cells #[.int .i64 10, .int .i64 0, .int .i64 0, .int .i64 0] 42)).alloc (.cells #[.int .i64 1, .int .i64 0, .int .i64 0, .int .i64 0, .int .i64 1, .int .i64 0, .int .i64 0, .int .i64 0, .int .i64 0, .int .i64 0, .int .i64 0, .int .i64 0] 42)).alloc (.cells #[.int .i64 63, .int .i64 16384, .int .i64 3, .slice (some ⟨w1.heap.size + 1 + 1 + 1 + 1, 0, none⟩) 3 3, .slice (some ⟨w1.heap.size + 1 + 1 + 1 + 1, 0, none⟩) 3 3, .slice (some ⟨w1.heap.size + 1 + 1 + 1 + 1, 0, none⟩) 3 3] 24)) (some ⟨w1.heap.size + 1 + 1 + 1 + 1, 0, none⟩) 3 mainL := rd_block (E := eIn) (cs := #[.int .i64 1, .int .i64 0, .int .i64 0, .int .i64 0, .int .i64 1, .int .i64 0, .int .i64 0, .int .i64 0, .int .i64 0, .int .i64 0, .int .i64 0, .int .i64 0]) (t := 42) (fr := (0, 0)) (by repeat (first | (refine heap_at ?_; simp; done) | (refine Eq.trans (Below.heap_alloc _ _ _ ?_) ?_; (· first | (simp; done) | (simp; omega))))) 3 rfl rfl
  have hG : Lv ((((((w1.alloc (.cells #[.int .i64 0, .int .i64 0, .int .i64 0, .int .i64 0] 42)).alloc (.cells #[.int .i64 1, .int .i64 0, .int .i64 0, .int .i64 0] 42)).alloc (.cells #[.int .i64 9, .int .i64 0, .int .i64 0, .int .i64 0] 42)).alloc (.cells #[.int .i64 10, .int .i64 0, .int .i64 0, .int .i64 0] 42)).alloc (.cells #[.int .i64 1, .int .i64 0, .int .i64 0, .int .i64 0, .int .i64 1, .int .i64 0, .int .i64 0, .int .i64 0, .int .i64 0, .int .i64 0, .int .i64 0, .int .i64 0] 42)).alloc (.cells #[.int .i64 63, .int .i64 16384, .int .i64 3, .slice (some ⟨w1.heap.size + 1 + 1 + 1 + 1, 0, none⟩) 3 3, .slice (some ⟨w1.heap.size + 1 + 1 + 1 + 1, 0, none⟩) 3 3, .slice (some ⟨w1.heap.size + 1 + 1 + 1 + 1, 0, none⟩) 3 3] 24)) (w1.heap.size + 1 + 1 + 1 + 1 + 1) #[.int .i64 63, .int .i64 16384, .int .i64 3, .slice (some ⟨w1.heap.size + 1 + 1 + 1 + 1, 0, none⟩) 3 3, .slice (some ⟨w1.heap.size + 1 + 1 + 1 + 1, 0, none⟩) 3 3, .slice (some ⟨w1.heap.size + 1 + 1 + 1 + 1, 0, none⟩) 3 3] 24 := by unfold Lv; repeat (first | (refine heap_at ?_; simp; done) | (refine Eq.trans (Below.heap_alloc _ _ _ ?_) ?_; (· first | (simp; done) | (simp; omega))))
  have hsz : (((((((w1.alloc (.cells #[.int .i64 0, .int .i64 0, .int .i64 0, .int .i64 0] 42)).alloc (.cells #[.int .i64 1, .int .i64 0, .int .i64 0, .int .i64 0] 42)).alloc (.cells #[.int .i64 9, .int .i64 0, .int .i64 0, .int .i64 0] 42)).alloc (.cells #[.int .i64 10, .int .i64 0, .int .i64 0, .int .i64 0] 42)).alloc (.cells #[.int .i64 1, .int .i64 0, .int .i64 0, .int .i64 0, .int .i64 1, .int .i64 0, .int .i64 0, .int .i64 0, .int .i64 0, .int .i64 0, .int .i64 0, .int .i64 0] 42)).alloc (.cells #[.int .i64 63, .int .i64 16384, .int .i64 3, .slice (some ⟨w1.heap.size + 1 + 1 + 1 + 1, 0, none⟩) 3 3, .slice (some ⟨w1.heap.size + 1 + 1 + 1 + 1, 0, none⟩) 3 3, .slice (some ⟨w1.heap.size + 1 + 1 + 1 + 1, 0, none⟩) 3 3] 24))).heap.size = w1.heap.size + 1 + 1 + 1 + 1 + 1 + 1 := by simp
  generalize hWN : ((((((w1.alloc (.cells #[.int .i64 0, .int .i64 0, .int .i64 0, .int .i64 0] 42)).alloc (.cells #[.int .i64 1, .int .i64 0, .int .i64 0, .int .i64 0] 42)).alloc (.cells #[.int .i64 9, .int .i64 0, .int .i64 0, .int .i64 0] 42)).alloc (.cells #[.int .i64 10, .int .i64 0, .int .i64 0, .int .i64 0] 42)).alloc (.cells #[.int .i64 1, .int .i64 0, .int .i64 0, .int .i64 0, .int .i64 1, .int .i64 0, .int .i64 0, .int .i64 0, .int .i64 0, .int .i64 0, .int .i64 0, .int .i64 0] 42)).alloc (.cells #[.int .i64 63, .int .i64 16384, .int .i64 3, .slice (some ⟨w1.heap.size + 1 + 1 + 1 + 1, 0, none⟩) 3 3, .slice (some ⟨w1.heap.size + 1 + 1 + 1 + 1, 0, none⟩) 3 3, .slice (some ⟨w1.heap.size + 1 + 1 + 1 + 1, 0, none⟩) 3 3] 24)) = W6 at hrows hM hG hsz ⊢
  have bW : Below w1.heap.size w1 W6 := by rw [← hWN]; exact (by repeat (first | exact Below.refl _ _ | refine Below.alloc ?_ (by simp <;> omega) _))
  have hB6 := bel_call hb1 (Nat.le_refl _) bW
  clear hWN bW hb1
  obtain ⟨W7, hr7, o7, b7⟩ := make32 W6 W6.heap.size (Nat.le_refl _)
  have hlt4 : w1.heap.size + 1 + 1 + 1 + 1 < W6.heap.size := by omega
  have hlt5 : w1.heap.size + 1 + 1 + 1 + 1 + 1 < W6.heap.size := by omega
  have hrb : ∀ t, rbF w1.heap.size t < W6.heap.size := fun t => by unfold rbF; split <;> omega
  have hwg : w.heap.size ≤ W6.heap.size := hB6.size
  obtain ⟨g, hg⟩ : ∃ g, W6.heap.size = g := ⟨_, rfl⟩
  rw [hg] at hlt4 hlt5 hrb o7 hr7 hwg
  clear hsz
  go_upto_region 7 with fail
  try simp only [hg]
  obtain ⟨bm, hbm⟩ : ∃ bm : Option Addr, (some ⟨w1.heap.size + 1 + 1 + 1 + 1, 0, none⟩ : Option Addr) = bm := ⟨_, rfl⟩
  have hbm2 : ∀ b o, bm = some ⟨b, o, none⟩ → b < g := fun b o e => by rw [← hbm] at e; cases e; exact hlt4
  rw [hbm] at hM hG
  simp only [hbm]
  obtain ⟨gz, hgz⟩ : ∃ gz, w1.heap.size + 1 + 1 + 1 + 1 + 1 = gz := ⟨_, rfl⟩
  rw [hgz] at hG hlt5
  simp only [hgz]
  have hB7 := bel_call hB6 (Nat.le_refl _) b7
  have hrows7 := fun t h1 h4 => (b7.block _ (lt_of_block (hrows t h1 h4))).trans (hrows t h1 h4)
  have hM7 := hM.below b7
  have hG7 := hG.below b7
  have hg7 : g < W7.heap.size := by have := (own_in o7 _ _ rfl).2; exact this
  clear hr7 b7 hM hG hbm hgz hg hrows hB6 hlt4
  go_wp2
  go_loopw [8] (fun i wr => ∃ k : Nat, k ≤ 15 ∧ i = .int .i64 k ∧ Own eTk wr g 24 (some ⟨g, 0, none⟩) 15 (List.replicate k (gd bm) ++ List.replicate (15 - k) tz0) ∧ Kp g W7 wr) (fun i _ => 15 - (intOf i).toNat)
  case atStart => exact ⟨0, by omega, rfl, o7, Kp.refl _ _⟩
  case round =>
    obtain ⟨k, hk, rfl, o1, hkp⟩ := hrel
    obtain ⟨W8, hW8⟩ : ∃ W8 : World, W8 = wr := ⟨_, rfl⟩
    subst hW8
    by_cases hlt : k < 15
    · have dk : decide ((k : Int) < 15) = true := by simp; omega
      have hkI : (k : Int) < 15 := by omega
      have hG8 := hG7.kp hkp (Nat.ne_of_lt hlt5)
      have a0 := hG8.c 0 rfl
      have a1 := hG8.c 1 rfl
      have a2 := hG8.c 2 rfl
      have a3 := hG8.c 3 rfl
      have a4 := hG8.c 4 rfl
      have a5 := hG8.c 5 rfl
      go_upto_region 9 with (refine wpList_stR (E := eTk) rfl 24 (.tmp 38) (.tmp 37) rfl size24 g g 15 _ o1 k (by simp; omega) (k * 6) rfl (gd bm) rfl rfl ?_; intro w9 o9 k9)
      rw [rep_set _ _ _ _ hlt] at o9
      have hkp9 := Kp.trans hkp k9
      clear a0 a1 a2 a3 a4 a5 o1 k9 hkp hG8
      go_wp2
      go_roundw
      case rel => exact ⟨k + 1, by omega, by go_num, o9, hkp9⟩
      case measure => simp [intOf]; omega
    · obtain rfl : k = 15 := by omega
      have dk : decide (((15 : Nat) : Int) < 15) = false := by decide
      have p0 : Own eTk W8 g 24 (some ⟨g, 0, none⟩) 15 [gd bm, gd bm, gd bm, gd bm, gd bm, gd bm, gd bm, gd bm, gd bm, gd bm, gd bm, gd bm, gd bm, gd bm, gd bm] := o1
      have k0 := hkp
      clear o1 hkp o7 hlt hk
      go_upto_region 12 with (first
        | (refine wpList_fld rfl 2 (.tmp 53) (.const (.int .i64 0)) rfl (.inl rfl) g g 15 [(⟨-1, 16384, 3, bm, 3, 3, bm, 3, 3, bm, 3, 3⟩ : Tv), (⟨64, 16384, 3, bm, 3, 3, bm, 3, 3, bm, 3, 3⟩ : Tv), (⟨63, 0, 3, bm, 3, 3, bm, 3, 3, bm, 3, 3⟩ : Tv), (⟨63, 16385, 3, bm, 3, 3, bm, 3, 3, bm, 3, 3⟩ : Tv), gd bm, gd bm, gd bm, gd bm, gd bm, gd bm, gd bm, gd bm, gd bm, gd bm, gd bm] p4 4 (by simp) 2 (by omega) 26 rfl (.int .i64 0) (.inl ⟨_, _, rfl⟩) (⟨63, 16384, 0, bm, 3, 3, bm, 3, 3, bm, 3, 3⟩ : Tv) rfl rfl rfl ?_; intro v5 p5 k5; have k5 := Kp.trans k4 k5)
        | (refine wpList_fld rfl 2 (.tmp 51) (.const (.int .i64 16385)) rfl (.inl rfl) g g 15 [(⟨-1, 16384, 3, bm, 3, 3, bm, 3, 3, bm, 3, 3⟩ : Tv), (⟨64, 16384, 3, bm, 3, 3, bm, 3, 3, bm, 3, 3⟩ : Tv), (⟨63, 0, 3, bm, 3, 3, bm, 3, 3, bm, 3, 3⟩ : Tv), gd bm, gd bm, gd bm, gd bm, gd bm, gd bm, gd bm, gd bm, gd bm, gd bm, gd bm, gd bm] p3 3 (by simp) 1 (by omega) 19 rfl (.int .i64 16385) (.inl ⟨_, _, rfl⟩) (⟨63, 16385, 3, bm, 3, 3, bm, 3, 3, bm, 3, 3⟩ : Tv) rfl rfl rfl ?_; intro v4 p4 k4; have k4 := Kp.trans k3 k4)
        | (refine wpList_fld rfl 2 (.tmp 49) (.const (.int .i64 0)) rfl (.inl rfl) g g 15 [(⟨-1, 16384, 3, bm, 3, 3, bm, 3, 3, bm, 3, 3⟩ : Tv), (⟨64, 16384, 3, bm, 3, 3, bm, 3, 3, bm, 3, 3⟩ : Tv), gd bm, gd bm, gd bm, gd bm, gd bm, gd bm, gd bm, gd bm, gd bm, gd bm, gd bm, gd bm, gd bm] p2 2 (by simp) 1 (by omega) 13 rfl (.int .i64 0) (.inl ⟨_, _, rfl⟩) (⟨63, 0, 3, bm, 3, 3, bm, 3, 3, bm, 3, 3⟩ : Tv) rfl rfl rfl ?_; intro v3 p3 k3; have k3 := Kp.trans k2 k3)
        | (refine wpList_fld rfl 3 (.tmp 47) (.const (.int .i64 64)) rfl (.inr (.inl rfl)) g g 15 [(⟨-1, 16384, 3, bm, 3, 3, bm, 3, 3, bm, 3, 3⟩ : Tv), gd bm, gd bm, gd bm, gd bm, gd bm, gd bm, gd bm, gd bm, gd bm, gd bm, gd bm, gd bm, gd bm, gd bm] p1 1 (by simp) 0 (by omega) 6 rfl (.int .i64 64) (.inl ⟨_, _, rfl⟩) (⟨64, 16384, 3, bm, 3, 3, bm, 3, 3, bm, 3, 3⟩ : Tv) rfl rfl rfl ?_; intro v2 p2 k2; have k2 := Kp.trans k1 k2)
        | (refine wpList_fld rfl 3 (.tmp 45) (.const (.int .i64 (-1))) rfl (.inr (.inl rfl)) g g 15 [gd bm, gd bm, gd bm, gd bm, gd bm, gd bm, gd bm, gd bm, gd bm, gd bm, gd bm, gd bm, gd bm, gd bm, gd bm] p0 0 (by simp) 0 (by omega) 0 rfl (.int .i64 (-1)) (.inl ⟨_, _, rfl⟩) (⟨-1, 16384, 3, bm, 3, 3, bm, 3, 3, bm, 3, 3⟩ : Tv) rfl rfl rfl ?_; intro v1 p1 k1; have k1 := Kp.trans k0 k1))
      have hs5 := k5.size
      have h5V : ∀ t, 1 ≤ t → t ≤ 4 → v5.heap[rbF w1.heap.size t]? = some (.cells (aC (vars4 t)) 42 (0, 0)) := fun t h1 h4 => (k5.block _ (lt_of_block (hrows7 t h1 h4)) (by intro e; cases e; have := hrb t; omega)).trans (hrows7 t h1 h4)
      have hrn : ∀ t, rbF w1.heap.size t ≠ g := fun t => by have := hrb t; omega
      have p5 : Own eTk v5 g 24 (some ⟨g, 0, none⟩) 15 [(⟨-1, 16384, 3, bm, 3, 3, bm, 3, 3, bm, 3, 3⟩ : Tv), (⟨64, 16384, 3, bm, 3, 3, bm, 3, 3, bm, 3, 3⟩ : Tv), (⟨63, 0, 3, bm, 3, 3, bm, 3, 3, bm, 3, 3⟩ : Tv), (⟨63, 16385, 3, bm, 3, 3, bm, 3, 3, bm, 3, 3⟩ : Tv), (⟨63, 16384, 0, bm, 3, 3, bm, 3, 3, bm, 3, 3⟩ : Tv), gd bm, gd bm, gd bm, gd bm, gd bm, gd bm, gd bm, gd bm, gd bm, gd bm] := p5
      have hg5 : g < v5.heap.size := by omega
      clear p0 p1 p2 p3 p4 k0 k1 k2 k3 k4
      refine reg_any (ops := ops12) (sp := sp12 g bm) (ds := ds12) (g := g) (base := g) (rb := rbF w1.heap.size) (P0 := [(⟨-1, 16384, 3, bm, 3, 3, bm, 3, 3, bm, 3, 3⟩ : Tv), (⟨64, 16384, 3, bm, 3, 3, bm, 3, 3, bm, 3, 3⟩ : Tv), (⟨63, 0, 3, bm, 3, 3, bm, 3, 3, bm, 3, 3⟩ : Tv), (⟨63, 16385, 3, bm, 3, 3, bm, 3, 3, bm, 3, 3⟩ : Tv), (⟨63, 16384, 0, bm, 3, 3, bm, 3, 3, bm, 3, 3⟩ : Tv), gd bm, gd bm, gd bm, gd bm, gd bm, gd bm, gd bm, gd bm, gd bm, gd bm]) 26 sz12 ahead12 (fun h h1 h2 => step12 h h1 h2 (fun k hk1 hk2 => ?_)) rfl rfl hg5 ⟨fun t h1 h4 => ⟨?_, h5V t h1 h4, hrn t⟩, rfl⟩ p5 rfl ?_
      · have : k = 5 ∨ k = 6 ∨ k = 7 ∨ k = 8 ∨ k = 9 := by omega
        rcases this with rfl | rfl | rfl | rfl | rfl <;> rfl
      · have : t = 1 ∨ t = 2 ∨ t = 3 ∨ t = 4 := by omega
        rcases this with rfl | rfl | rfl | rfl <;> rfl
      intro tm12 w12 hs12 hk12 kp12 hm12
      obtain ⟨P12, q1, q2, q3, q4⟩ := hm12
      go_upto_region 13 with fail
      have u5 : P12[5]? = some (⟨63, 2, 3, bm, 3, 3, bm, 3, 3, bm, 3, 3⟩ : Tv) := q4 13 (by omega)
      have u6 : P12[6]? = some (⟨63, 16384, 3, none, 0, 0, bm, 3, 3, bm, 3, 3⟩ : Tv) := q4 16 (by omega)
      obtain ⟨b7, hb7, u7, rr7⟩ : ∃ b, v5.heap.size ≤ b ∧ P12[7]? = some (⟨63, 16384, 3, some ⟨b, 0, none⟩, 1, 1, bm, 3, 3, bm, 3, 3⟩ : Tv) ∧ Rd eIn w12 (some ⟨b, 0, none⟩) 1 [(1, 0, 0, 0)] := q4 19 (by omega)
      obtain ⟨b8, hb8, u8, rr8⟩ : ∃ b, v5.heap.size ≤ b ∧ P12[8]? = some (⟨63, 16384, 3, bm, 3, 3, some ⟨b, 0, none⟩, 1, 1, bm, 3, 3⟩ : Tv) ∧ Rd eIn w12 (some ⟨b, 0, none⟩) 1 [(1, 0, 0, 0)] := q4 22 (by omega)
      obtain ⟨b9, hb9, u9, rr9⟩ : ∃ b, v5.heap.size ≤ b ∧ P12[9]? = some (⟨63, 16384, 3, bm, 3, 3, bm, 3, 3, some ⟨b, 0, none⟩, 1, 1⟩ : Tv) ∧ Rd eIn w12 (some ⟨b, 0, none⟩) 1 [(1, 0, 0, 0)] := q4 25 (by omega)
      have ux : ∀ k, k < 5 ∨ 10 ≤ k → P12[k]? = ([(⟨-1, 16384, 3, bm, 3, 3, bm, 3, 3, bm, 3, 3⟩ : Tv), (⟨64, 16384, 3, bm, 3, 3, bm, 3, 3, bm, 3, 3⟩ : Tv), (⟨63, 0, 3, bm, 3, 3, bm, 3, 3, bm, 3, 3⟩ : Tv), (⟨63, 16385, 3, bm, 3, 3, bm, 3, 3, bm, 3, 3⟩ : Tv), (⟨63, 16384, 0, bm, 3, 3, bm, 3, 3, bm, 3, 3⟩ : Tv), gd bm, gd bm, gd bm, gd bm, gd bm, gd bm, gd bm, gd bm, gd bm, gd bm] : List Tv)[k]? := fun k h => q3 k fun j _ => no12 g bm k (by omega) j
      have u0 : P12[0]? = some (⟨-1, 16384, 3, bm, 3, 3, bm, 3, 3, bm, 3, 3⟩ : Tv) := ux 0 (by omega)
      have u1 : P12[1]? = some (⟨64, 16384, 3, bm, 3, 3, bm, 3, 3, bm, 3, 3⟩ : Tv) := ux 1 (by omega)
      have u2 : P12[2]? = some (⟨63, 0, 3, bm, 3, 3, bm, 3, 3, bm, 3, 3⟩ : Tv) := ux 2 (by omega)
      have u3 : P12[3]? = some (⟨63, 16385, 3, bm, 3, 3, bm, 3, 3, bm, 3, 3⟩ : Tv) := ux 3 (by omega)
      have u4 : P12[4]? = some (⟨63, 16384, 0, bm, 3, 3, bm, 3, 3, bm, 3, 3⟩ : Tv) := ux 4 (by omega)
      have u10 : P12[10]? = some (⟨63, 16384, 3, bm, 3, 3, bm, 3, 3, bm, 3, 3⟩ : Tv) := ux 10 (by omega)
      have u11 : P12[11]? = some (⟨63, 16384, 3, bm, 3, 3, bm, 3, 3, bm, 3, 3⟩ : Tv) := ux 11 (by omega)
      have u12 : P12[12]? = some (⟨63, 16384, 3, bm, 3, 3, bm, 3, 3, bm, 3, 3⟩ : Tv) := ux 12 (by omega)
      have u13 : P12[13]? = some (⟨63, 16384, 3, bm, 3, 3, bm, 3, 3, bm, 3, 3⟩ : Tv) := ux 13 (by omega)
      have u14 : P12[14]? = some (⟨63, 16384, 3, bm, 3, 3, bm, 3, 3, bm, 3, 3⟩ : Tv) := ux 14 (by omega)
      have hg12 : g < w12.heap.size := (own_in q1 _ _ rfl).2
      have h12V : ∀ t, 1 ≤ t → t ≤ 4 → w12.heap[rbF w1.heap.size t]? = some (.cells (aC (vars4 t)) 42 (0, 0)) := fun t h1 h4 => (kp12.block _ (lt_of_block (h5V t h1 h4)) (by intro e; cases e; have := hrb t; omega)).trans (h5V t h1 h4)
      have t7 : tm12.getD 7 undef = .slice (some ⟨g, 0, none⟩) 15 15 := hk12 7 (by decide)
      have t6 : tm12.getD 6 undef = .pointer (some ⟨gz, 0, none⟩) := hk12 6 (by decide)
      have tV : ∀ t, 1 ≤ t → t ≤ 4 → tm12.getD t undef = .pointer (some ⟨rbF w1.heap.size t, 0, none⟩) := by
        intro t h1 h4
        have : t = 1 ∨ t = 2 ∨ t = 3 ∨ t = 4 := by omega
        rcases this with rfl | rfl | rfl | rfl
        all_goals exact hk12 _ (by decide)
      clear q3 q4 ux hk12 p5 h5V
      refine reg_any (ops := ops13) (sp := sp13 g bm) (ds := ds13) (g := g) (base := g) (rb := rbF w1.heap.size) (P0 := P12) 29 sz13 ahead13 (fun h h1 h2 => step13 h h1 h2 (fun k hk1 hk2 => ?_)) hs12 rfl hg12 ⟨fun t h1 h4 => ⟨tV t h1 h4, h12V t h1 h4, hrn t⟩, t7⟩ q1 q2 ?_
      · have : k = 10 ∨ k = 11 ∨ k = 12 ∨ k = 13 ∨ k = 14 := by omega
        rcases this with rfl | rfl | rfl | rfl | rfl
        · exact u10
        · exact u11
        · exact u12
        · exact u13
        · exact u14
      intro tm13 w13 hs13 hk13 kp13 hm13
      obtain ⟨P13, r1, r2, r3, r4⟩ := hm13
      obtain ⟨b10, hb10, x10, rr10⟩ : ∃ b, w12.heap.size ≤ b ∧ P13[10]? = some (⟨63, 16384, 3, bm, 3, 3, bm, 3, 3, some ⟨b, 0, none⟩, 3, 3⟩ : Tv) ∧ Rd eIn w13 (some ⟨b, 0, none⟩) 3 [(9, 0, 0, 0), (10, 0, 0, 0), (0, 0, 0, 0)] := r4 16 (by omega)
      have x11 : P13[11]? = some (⟨63, 16384, 2, bm, 3, 3, bm, 3, 3, bm, 3, 3⟩ : Tv) := r4 19 (by omega)
      obtain ⟨b12, hb12, x12, rr12⟩ : ∃ b, w12.heap.size ≤ b ∧ P13[12]? = some (⟨63, 16384, 3, bm, 3, 3, some ⟨b, 0, none⟩, 4, 4, bm, 3, 3⟩ : Tv) ∧ Rd eIn w13 (some ⟨b, 0, none⟩) 4 [(1, 0, 0, 0), (1, 0, 0, 0), (1, 0, 0, 0), (0, 0, 0, 0)] := r4 22 (by omega)
      have x13 : P13[13]? = some (⟨-1, 16384, 3, bm, 3, 3, bm, 3, 3, bm, 3, 3⟩ : Tv) := r4 25 (by omega)
      have x14 : P13[14]? = some (⟨63, 16384, 3, none, 0, 0, bm, 3, 3, bm, 3, 3⟩ : Tv) := r4 28 (by omega)
      have vx : ∀ k, k < 10 → P13[k]? = P12[k]? := fun k h => r3 k fun j _ => no13 g bm k (by omega) j
      have x0 : P13[0]? = some (⟨-1, 16384, 3, bm, 3, 3, bm, 3, 3, bm, 3, 3⟩ : Tv) := (vx 0 (by omega)).trans u0
      have x1 : P13[1]? = some (⟨64, 16384, 3, bm, 3, 3, bm, 3, 3, bm, 3, 3⟩ : Tv) := (vx 1 (by omega)).trans u1
      have x2 : P13[2]? = some (⟨63, 0, 3, bm, 3, 3, bm, 3, 3, bm, 3, 3⟩ : Tv) := (vx 2 (by omega)).trans u2
      have x3 : P13[3]? = some (⟨63, 16385, 3, bm, 3, 3, bm, 3, 3, bm, 3, 3⟩ : Tv) := (vx 3 (by omega)).trans u3
      have x4 : P13[4]? = some (⟨63, 16384, 0, bm, 3, 3, bm, 3, 3, bm, 3, 3⟩ : Tv) := (vx 4 (by omega)).trans u4
      have x5 : P13[5]? = some (⟨63, 2, 3, bm, 3, 3, bm, 3, 3, bm, 3, 3⟩ : Tv) := (vx 5 (by omega)).trans u5
      have x6 : P13[6]? = some (⟨63, 16384, 3, none, 0, 0, bm, 3, 3, bm, 3, 3⟩ : Tv) := (vx 6 (by omega)).trans u6
      have x7 : P13[7]? = some (⟨63, 16384, 3, some ⟨b7, 0, none⟩, 1, 1, bm, 3, 3, bm, 3, 3⟩ : Tv) := (vx 7 (by omega)).trans u7
      have x8 : P13[8]? = some (⟨63, 16384, 3, bm, 3, 3, some ⟨b8, 0, none⟩, 1, 1, bm, 3, 3⟩ : Tv) := (vx 8 (by omega)).trans u8
      have x9 : P13[9]? = some (⟨63, 16384, 3, bm, 3, 3, bm, 3, 3, some ⟨b9, 0, none⟩, 1, 1⟩ : Tv) := (vx 9 (by omega)).trans u9
      have hg13 : g < w13.heap.size := (own_in r1 _ _ rfl).2
      obtain ⟨f, et, hf⟩ := lit153 tm13 hs13
      have f6 : f 6 = .pointer (some ⟨gz, 0, none⟩) := (hf 6).trans ((hk13 6 (by decide)).trans t6)
      have f7 : f 7 = .slice (some ⟨g, 0, none⟩) 15 15 := (hf 7).trans ((hk13 7 (by decide)).trans t7)
      clear r3 r4 vx hk13 hf hs13 hs12 t6 t7 tV h12V q1 q2 hrows7 hrn hrb hs5 u0 u1 u2 u3 u4 u5 u6 u7 u8 u9 u10 u11 u12 u13 u14
      subst et
      rw [f6, f7]
      clear f6 f7
      have e13 : ∀ h : 13 < P13.length, P13[13] = (⟨-1, 16384, 3, bm, 3, 3, bm, 3, 3, bm, 3, 3⟩ : Tv) := fun h => getE x13 h
      have x14' : (P13.set 13 (⟨-1, 0, 3, bm, 3, 3, bm, 3, 3, bm, 3, 3⟩ : Tv))[14]? = some (⟨63, 16384, 3, none, 0, 0, bm, 3, 3, bm, 3, 3⟩ : Tv) := by rw [List.getElem?_set_ne (by decide)]; exact x14
      have e14 : ∀ h : 14 < (P13.set 13 (⟨-1, 0, 3, bm, 3, 3, bm, 3, 3, bm, 3, 3⟩ : Tv)).length, (P13.set 13 (⟨-1, 0, 3, bm, 3, 3, bm, 3, 3, bm, 3, 3⟩ : Tv))[14] = (⟨63, 16384, 3, none, 0, 0, bm, 3, 3, bm, 3, 3⟩ : Tv) := fun h => getE x14' h
      go_upto_region 15 with (first
        | (refine wpList_fld rfl 2 (.tmp 104) (.const (.int .i64 0)) rfl (.inl rfl) g g 15 _ s1 14 (by rw [List.length_set]; omega) 2 (by omega) 86 rfl (.int .i64 0) (.inl ⟨_, _, rfl⟩) (⟨63, 16384, 0, none, 0, 0, bm, 3, 3, bm, 3, 3⟩ : Tv) (by rw [e14]; rfl) rfl rfl ?_; intro z2 s2 l2; have l2 := Kp.trans l1 l2)
        | (refine wpList_fld rfl 2 (.tmp 102) (.const (.int .i64 0)) rfl (.inl rfl) g g 15 P13 r1 13 (by omega) 1 (by omega) 79 rfl (.int .i64 0) (.inl ⟨_, _, rfl⟩) (⟨-1, 0, 3, bm, 3, 3, bm, 3, 3, bm, 3, 3⟩ : Tv) (by rw [e13]; rfl) rfl rfl ?_; intro z1 s1 l1))
      obtain ⟨P14, hP14⟩ : ∃ P, (P13.set 13 (⟨-1, 0, 3, bm, 3, 3, bm, 3, 3, bm, 3, 3⟩ : Tv)).set 14 (⟨63, 16384, 0, none, 0, 0, bm, 3, 3, bm, 3, 3⟩ : Tv) = P := ⟨_, rfl⟩
      have y0 : P14[0]? = some (⟨-1, 16384, 3, bm, 3, 3, bm, 3, 3, bm, 3, 3⟩ : Tv) := by rw [← hP14, List.getElem?_set_ne (by decide), List.getElem?_set_ne (by decide)]; exact x0
      have y1 : P14[1]? = some (⟨64, 16384, 3, bm, 3, 3, bm, 3, 3, bm, 3, 3⟩ : Tv) := by rw [← hP14, List.getElem?_set_ne (by decide), List.getElem?_set_ne (by decide)]; exact x1
      have y2 : P14[2]? = some (⟨63, 0, 3, bm, 3, 3, bm, 3, 3, bm, 3, 3⟩ : Tv) := by rw [← hP14, List.getElem?_set_ne (by decide), List.getElem?_set_ne (by decide)]; exact x2
      have y3 : P14[3]? = some (⟨63, 16385, 3, bm, 3, 3, bm, 3, 3, bm, 3, 3⟩ : Tv) := by rw [← hP14, List.getElem?_set_ne (by decide), List.getElem?_set_ne (by decide)]; exact x3
      have y4 : P14[4]? = some (⟨63, 16384, 0, bm, 3, 3, bm, 3, 3, bm, 3, 3⟩ : Tv) := by rw [← hP14, List.getElem?_set_ne (by decide), List.getElem?_set_ne (by decide)]; exact x4
      have y5 : P14[5]? = some (⟨63, 2, 3, bm, 3, 3, bm, 3, 3, bm, 3, 3⟩ : Tv) := by rw [← hP14, List.getElem?_set_ne (by decide), List.getElem?_set_ne (by decide)]; exact x5
      have y6 : P14[6]? = some (⟨63, 16384, 3, none, 0, 0, bm, 3, 3, bm, 3, 3⟩ : Tv) := by rw [← hP14, List.getElem?_set_ne (by decide), List.getElem?_set_ne (by decide)]; exact x6
      have y7 : P14[7]? = some (⟨63, 16384, 3, some ⟨b7, 0, none⟩, 1, 1, bm, 3, 3, bm, 3, 3⟩ : Tv) := by rw [← hP14, List.getElem?_set_ne (by decide), List.getElem?_set_ne (by decide)]; exact x7
      have y8 : P14[8]? = some (⟨63, 16384, 3, bm, 3, 3, some ⟨b8, 0, none⟩, 1, 1, bm, 3, 3⟩ : Tv) := by rw [← hP14, List.getElem?_set_ne (by decide), List.getElem?_set_ne (by decide)]; exact x8
      have y9 : P14[9]? = some (⟨63, 16384, 3, bm, 3, 3, bm, 3, 3, some ⟨b9, 0, none⟩, 1, 1⟩ : Tv) := by rw [← hP14, List.getElem?_set_ne (by decide), List.getElem?_set_ne (by decide)]; exact x9
      have y10 : P14[10]? = some (⟨63, 16384, 3, bm, 3, 3, bm, 3, 3, some ⟨b10, 0, none⟩, 3, 3⟩ : Tv) := by rw [← hP14, List.getElem?_set_ne (by decide), List.getElem?_set_ne (by decide)]; exact x10
      have y11 : P14[11]? = some (⟨63, 16384, 2, bm, 3, 3, bm, 3, 3, bm, 3, 3⟩ : Tv) := by rw [← hP14, List.getElem?_set_ne (by decide), List.getElem?_set_ne (by decide)]; exact x11
      have y12 : P14[12]? = some (⟨63, 16384, 3, bm, 3, 3, some ⟨b12, 0, none⟩, 4, 4, bm, 3, 3⟩ : Tv) := by rw [← hP14, List.getElem?_set_ne (by decide), List.getElem?_set_ne (by decide)]; exact x12
      have y13 : P14[13]? = some (⟨-1, 0, 3, bm, 3, 3, bm, 3, 3, bm, 3, 3⟩ : Tv) := by rw [← hP14, List.getElem?_set_ne (by decide), List.getElem?_set_self (by omega)]
      have y14 : P14[14]? = some (⟨63, 16384, 0, none, 0, 0, bm, 3, 3, bm, 3, 3⟩ : Tv) := by rw [← hP14, List.getElem?_set_self (by rw [List.length_set]; omega)]
      rw [hP14] at s2
      have kB : Kp g w12 z2 := kp13.trans l2
      have kC : Kp g W7 z2 := (k5.trans kp12).trans kB
      have rM : Rd eIn z2 bm 3 mainL := rd_kp hM7 kC (fun b o e _ => Nat.ne_of_lt (hbm2 b o e))
      have rr7 := rd_kp0 rr7 (by omega) kB
      have rr8 := rd_kp0 rr8 (by omega) kB
      have rr9 := rd_kp0 rr9 (by omega) kB
      have rr10 := rd_kp0 rr10 (by omega) l2
      have rr12 := rd_kp0 rr12 (by omega) l2
      have hF : Fin z2 P14 := by
        intro k hk
        have : k = 0 ∨ k = 1 ∨ k = 2 ∨ k = 3 ∨ k = 4 ∨ k = 5 ∨ k = 6 ∨ k = 7 ∨ k = 8 ∨ k = 9 ∨ k = 10 ∨ k = 11 ∨ k = 12 ∨ k = 13 ∨ k = 14 := by omega
        rcases this with rfl | rfl | rfl | rfl | rfl | rfl | rfl | rfl | rfl | rfl | rfl | rfl | rfl | rfl | rfl
        · exact ⟨_, mainL, mainL, mainL, y0, ⟨⟨rM, rM, rM, rfl, rfl, rfl, (by decide : 3 ≤ 1000), (by decide : 3 ≤ 1000), (by decide : 3 ≤ 1000)⟩, i_m1, i_16384, i_3⟩, er_0⟩
        · exact ⟨_, mainL, mainL, mainL, y1, ⟨⟨rM, rM, rM, rfl, rfl, rfl, (by decide : 3 ≤ 1000), (by decide : 3 ≤ 1000), (by decide : 3 ≤ 1000)⟩, i_64, i_16384, i_3⟩, er_1⟩
        · exact ⟨_, mainL, mainL, mainL, y2, ⟨⟨rM, rM, rM, rfl, rfl, rfl, (by decide : 3 ≤ 1000), (by decide : 3 ≤ 1000), (by decide : 3 ≤ 1000)⟩, i_63, i_0, i_3⟩, er_2⟩
        · exact ⟨_, mainL, mainL, mainL, y3, ⟨⟨rM, rM, rM, rfl, rfl, rfl, (by decide : 3 ≤ 1000), (by decide : 3 ≤ 1000), (by decide : 3 ≤ 1000)⟩, i_63, i_16385, i_3⟩, er_3⟩
        · exact ⟨_, mainL, mainL, mainL, y4, ⟨⟨rM, rM, rM, rfl, rfl, rfl, (by decide : 3 ≤ 1000), (by decide : 3 ≤ 1000), (by decide : 3 ≤ 1000)⟩, i_63, i_16384, i_0⟩, er_4⟩
        · exact ⟨_, mainL, mainL, mainL, y5, ⟨⟨rM, rM, rM, rfl, rfl, rfl, (by decide : 3 ≤ 1000), (by decide : 3 ≤ 1000), (by decide : 3 ≤ 1000)⟩, i_63, i_2, i_3⟩, er_5⟩
        · exact ⟨_, [], mainL, mainL, y6, ⟨⟨rd_zero _, rM, rM, rfl, rfl, rfl, (by decide : 0 ≤ 1000), (by decide : 3 ≤ 1000), (by decide : 3 ≤ 1000)⟩, i_63, i_16384, i_3⟩, er_6⟩
        · exact ⟨_, [(1, 0, 0, 0)], mainL, mainL, y7, ⟨⟨rr7, rM, rM, rfl, rfl, rfl, (by decide : 1 ≤ 1000), (by decide : 3 ≤ 1000), (by decide : 3 ≤ 1000)⟩, i_63, i_16384, i_3⟩, er_7⟩
        · exact ⟨_, mainL, [(1, 0, 0, 0)], mainL, y8, ⟨⟨rM, rr8, rM, rfl, rfl, rfl, (by decide : 3 ≤ 1000), (by decide : 1 ≤ 1000), (by decide : 3 ≤ 1000)⟩, i_63, i_16384, i_3⟩, er_8⟩
        · exact ⟨_, mainL, mainL, [(1, 0, 0, 0)], y9, ⟨⟨rM, rM, rr9, rfl, rfl, rfl, (by decide : 3 ≤ 1000), (by decide : 3 ≤ 1000), (by decide : 1 ≤ 1000)⟩, i_63, i_16384, i_3⟩, er_9⟩
        · exact ⟨_, mainL, mainL, [(9, 0, 0, 0), (10, 0, 0, 0), (0, 0, 0, 0)], y10, ⟨⟨rM, rM, rr10, rfl, rfl, rfl, (by decide : 3 ≤ 1000), (by decide : 3 ≤ 1000), (by decide : 3 ≤ 1000)⟩, i_63, i_16384, i_3⟩, er_10⟩
        · exact ⟨_, mainL, mainL, mainL, y11, ⟨⟨rM, rM, rM, rfl, rfl, rfl, (by decide : 3 ≤ 1000), (by decide : 3 ≤ 1000), (by decide : 3 ≤ 1000)⟩, i_63, i_16384, i_2⟩, er_11⟩
        · exact ⟨_, mainL, [(1, 0, 0, 0), (1, 0, 0, 0), (1, 0, 0, 0), (0, 0, 0, 0)], mainL, y12, ⟨⟨rM, rr12, rM, rfl, rfl, rfl, (by decide : 3 ≤ 1000), (by decide : 4 ≤ 1000), (by decide : 3 ≤ 1000)⟩, i_63, i_16384, i_3⟩, er_12⟩
        · exact ⟨_, mainL, mainL, mainL, y13, ⟨⟨rM, rM, rM, rfl, rfl, rfl, (by decide : 3 ≤ 1000), (by decide : 3 ≤ 1000), (by decide : 3 ≤ 1000)⟩, i_m1, i_0, i_3⟩, er_13⟩
        · exact ⟨_, [], mainL, mainL, y14, ⟨⟨rd_zero _, rM, rM, rfl, rfl, rfl, (by decide : 0 ≤ 1000), (by decide : 3 ≤ 1000), (by decide : 3 ≤ 1000)⟩, i_63, i_16384, i_0⟩, er_14⟩
      have hGz : Lv z2 gz _ 24 := hG7.kp kC (Nat.ne_of_lt hlt5)
      have B14 := bel_kp hB7 kC hwg (by have := hB7.size; exact this)
      have hz14 : g < z2.heap.size := (own_in s2 _ _ rfl).2
      clear x0 y0 x1 y1 x2 y2 x3 y3 x4 y4 x5 y5 x6 y6 x7 y7 x8 y8 x9 y9 x10 y10 x11 y11 x12 y12 x13 y13 x14 y14 rr7 hb7 rr8 hb8 rr9 hb9 rr10 hb10 rr12 hb12 e13 e14 x14' hP14 s1 l1 l2 r1 r2 kB kC kp12 kp13 k5 hM7 hG7 hB7 hbm2 hg12 hg13 hg5
      obtain ⟨z3, hz3⟩ : ∃ z, z2.alloc (.cells #[.int .i64 1, .int .i64 1, .int .i64 9, .int .i64 9, .int .i64 9, .int .i64 9, .int .i64 2, .int .i64 2, .int .i64 2, .int .i64 2, .int .i64 2, .int .i64 10, .int .i64 12, .int .i64 1, .int .i64 9] 36) = z := ⟨_, rfl⟩
      obtain ⟨be, hbe⟩ : ∃ b, z2.heap.size = b := ⟨_, rfl⟩
      have b3 : Below z2.heap.size z2 z3 := by rw [← hz3]; exact bel_self _ _
      have hEr : Lv z3 be #[.int .i64 1, .int .i64 1, .int .i64 9, .int .i64 9, .int .i64 9, .int .i64 9, .int .i64 2, .int .i64 2, .int .i64 2, .int .i64 2, .int .i64 2, .int .i64 10, .int .i64 12, .int .i64 1, .int .i64 9] 36 := by rw [← hz3, ← hbe]; exact Lv.new _ _ _
      have o3 := own_below s2 b3
      have hF3 := hF.below b3
      have hGz3 := hGz.below b3
      have rM3 := rM.below b3
      have B15 := bel_call B14 (Nat.le_refl _) b3
      clear b3 s2 hF hGz rM B14
      go_wp2
      go_loopw [10] (fun i wr => ∃ k : Nat, k ≤ 15 ∧ i = .int .i64 k ∧ Below z3.heap.size z3 wr) (fun i _ => 15 - (intOf i).toNat)
      case atStart => exact ⟨0, by omega, rfl, Below.refl _ _⟩
      case round =>
        obtain ⟨k, hk, rfl, hbw⟩ := hrel
        clear hz3 hbe hz14
        by_cases hlt : k < 15
        · have dk : decide ((k : Int) < 15) = true := by simp; omega
          have hkI : (k : Int) < 15 := by omega
          have dg : decide ((15 : Int) ≤ (k : Int)) = false := by simp; omega
          have hng : ¬ (15 : Int) ≤ (k : Int) := by omega
          obtain ⟨⟨r, p, e, mp, mn, mc, wp, wn, wc, op, on, oc⟩, M, W, O, hX, hG, hE⟩ := (hF3.below hbw) k hlt
          obtain ⟨E, hE0⟩ : ∃ E, errs15.getD k 0 = E := ⟨_, rfl⟩
          have hne : E ≠ 0 := by rw [← hE0]; exact errs_ne k hlt
          have hEk : (#[.int .i64 1, .int .i64 1, .int .i64 9, .int .i64 9, .int .i64 9, .int .i64 9, .int .i64 2, .int .i64 2, .int .i64 2, .int .i64 2, .int .i64 2, .int .i64 10, .int .i64 12, .int .i64 1, .int .i64 9] : Array Value)[k]? = some (.int .i64 E) := by rw [← hE0]; exact errs_at k hlt
          rw [hE0] at hE
          have hcel := fun w' (hb : Below wr.heap.size wr w') => fld_at (own_below o3 (bel_call hbw (Nat.le_refl _) hb)) hX
          have hce := fun w' (hb : Below wr.heap.size wr w') => (hEr.below (bel_call hbw (Nat.le_refl _) hb)).c k hEk
          have K2 := fun w' (hb : Below wr.heap.size wr w') => costs_any r p e mp mn mc wp wn wc op on oc M W O w' (hG.k.below hb) hG.r hG.p hG.e E hE 0 0 (if_neg hne) (if_neg hne) 0 (by unfold spaT; rw [if_neg hne]; rfl)
          have K1 := fun w' (hb : Below wr.heap.size wr w') => tmay_any r p e mp mn mc wp wn wc op on oc M W O w' (hG.k.below hb) hG.r hG.p hG.e E hE
          clear hG hE hE0 hEk hne hX
          obtain ⟨y0, y1, y2, y3, y4, y5⟩ := hcel wr (Below.refl _ _)
          go_upto_region 20 with (go_at_call 11; (with_reducible (refine (K2 _ (Below.refl _ _)).mono ?_)); rintro e9 w11 ⟨⟨q, d, rfl, own11⟩, b11⟩)
          clear y0 y1 y2 y3 y4 y5 K2 own11
          refine wp_region_held_drew (S := fun w' => Below w11.heap.size w11 w') (by kernel_rfl) (Below.refl _ _).drew (fun hHeld => ?_)
          refine wpAnyH_take (i := 0) (oi := _) (v := ?_) rfl (by kernel_rfl) (by kernel_rfl) (by kernel_rfl) (fun _ _ _ h => h) (Or.inl ⟨by rfl, ?_⟩) hHeld ?_
          rotate_left
          · intro w' hSw
            (go_simp <;> with_reducible rfl)
          try simp only [Act.put, List.getElem_toArray, List.getElem_cons_zero, List.setIfInBounds_toArray, List.set_cons_zero, List.set_cons_succ]
          refine wpAnyH_take (i := 1) (oi := _) (v := ?_) rfl (by kernel_rfl) (by kernel_rfl) (by kernel_rfl) (fun _ _ _ h => h) (Or.inl ⟨by rfl, ?_⟩) hHeld ?_
          rotate_left
          · intro w' hSw
            (go_simp <;> with_reducible rfl)
          try simp only [Act.put, List.getElem_toArray, List.getElem_cons_succ, List.getElem_cons_zero, List.setIfInBounds_toArray, List.set_cons_zero, List.set_cons_succ]
          refine wpAnyH_take (i := 2) (oi := _) (v := ?_) rfl (by kernel_rfl) (by kernel_rfl) (by kernel_rfl) (fun _ _ _ h => h) (Or.inl ⟨by rfl, ?_⟩) hHeld ?_
          rotate_left
          · intro w' hSw
            (go_simp <;> with_reducible rfl)
          try simp only [Act.put, List.getElem_toArray, List.getElem_cons_succ, List.getElem_cons_zero, List.setIfInBounds_toArray, List.set_cons_zero, List.set_cons_succ]
          refine wpAnyH_take (i := 3) (oi := _) (v := ?_) rfl (by kernel_rfl) (by kernel_rfl) (by kernel_rfl) (fun _ _ _ h => h) (Or.inl ⟨by rfl, ?_⟩) hHeld ?_
          rotate_left
          · intro w' hSw
            (go_simp <;> with_reducible rfl)
          try simp only [Act.put, List.getElem_toArray, List.getElem_cons_succ, List.getElem_cons_zero, List.setIfInBounds_toArray, List.set_cons_zero, List.set_cons_succ]
          refine wpAnyH_take (i := 4) (oi := _) (v := ?_) rfl (by kernel_rfl) (by kernel_rfl) (by kernel_rfl) (fun _ _ _ h => h) (Or.inl ⟨by rfl, ?_⟩) hHeld ?_
          rotate_left
          · intro w' hSw
            (go_simp <;> with_reducible rfl)
          try simp only [Act.put, List.getElem_toArray, List.getElem_cons_succ, List.getElem_cons_zero, List.setIfInBounds_toArray, List.set_cons_zero, List.set_cons_succ]
          refine wpAnyH_take (i := 5) (oi := _) (v := ?_) rfl (by kernel_rfl) (by kernel_rfl) (by kernel_rfl) (fun _ _ _ h => h) (Or.inl ⟨by rfl, ?_⟩) hHeld ?_
          rotate_left
          · intro w' hSw
            (go_simp <;> with_reducible rfl)
          try simp only [Act.put, List.getElem_toArray, List.getElem_cons_succ, List.getElem_cons_zero, List.setIfInBounds_toArray, List.set_cons_zero, List.set_cons_succ]
          refine wpAnyH_take (i := 6) (oi := _) (v := ?_) rfl (by kernel_rfl) (by kernel_rfl) (by kernel_rfl) (fun _ _ _ h => h) (Or.inl ⟨by rfl, ?_⟩) hHeld ?_
          rotate_left
          · intro w' hSw
            (go_simp <;> with_reducible rfl)
          try simp only [Act.put, List.getElem_toArray, List.getElem_cons_succ, List.getElem_cons_zero, List.setIfInBounds_toArray, List.set_cons_zero, List.set_cons_succ]
          refine wpAnyH_take (i := 7) (oi := _) (v := ?_) rfl (by kernel_rfl) (by kernel_rfl) (by kernel_rfl) (fun _ _ _ h => h) (Or.inl ⟨by rfl, ?_⟩) hHeld ?_
          rotate_left
          · intro w' hSw
            (go_simp <;> with_reducible rfl)
          try simp only [Act.put, List.getElem_toArray, List.getElem_cons_succ, List.getElem_cons_zero, List.setIfInBounds_toArray, List.set_cons_zero, List.set_cons_succ]
          refine wpAnyH_take (i := 8) (oi := _) (v := ?_) rfl (by kernel_rfl) (by kernel_rfl) (by kernel_rfl) (fun _ _ _ h => h) (Or.inl ⟨by rfl, ?_⟩) hHeld ?_
          rotate_left
          · intro w' hSw
            obtain ⟨y0, y1, y2, y3, y4, y5⟩ := hcel w' (bel_call b11 (Nat.le_refl _) hSw)
            (go_simp <;> with_reducible rfl)
          try simp only [Act.put, List.getElem_toArray, List.getElem_cons_succ, List.getElem_cons_zero, List.setIfInBounds_toArray, List.set_cons_zero, List.set_cons_succ]
          refine wpAnyH_take (i := 10) (oi := _) (v := ?_) rfl (by kernel_rfl) (by kernel_rfl) (by kernel_rfl) (fun _ _ _ h => h) (Or.inl ⟨by rfl, ?_⟩) hHeld ?_
          rotate_left
          · intro w' hSw
            (go_simp <;> with_reducible rfl)
          try simp only [Act.put, List.getElem_toArray, List.getElem_cons_succ, List.getElem_cons_zero, List.setIfInBounds_toArray, List.set_cons_zero, List.set_cons_succ]
          refine wpAnyH_take (i := 11) (oi := _) (v := ?_) rfl (by kernel_rfl) (by kernel_rfl) (by kernel_rfl) (fun _ _ _ h => h) (Or.inl ⟨by rfl, ?_⟩) hHeld ?_
          rotate_left
          · intro w' hSw
            (go_simp <;> with_reducible rfl)
          try simp only [Act.put, List.getElem_toArray, List.getElem_cons_succ, List.getElem_cons_zero, List.setIfInBounds_toArray, List.set_cons_zero, List.set_cons_succ]
          refine wpAnyH_take (i := 12) (oi := _) (v := ?_) rfl (by kernel_rfl) (by kernel_rfl) (by kernel_rfl) (fun _ _ _ h => h) (Or.inl ⟨by rfl, ?_⟩) hHeld ?_
          rotate_left
          · intro w' hSw
            (go_simp <;> with_reducible rfl)
          try simp only [Act.put, List.getElem_toArray, List.getElem_cons_succ, List.getElem_cons_zero, List.setIfInBounds_toArray, List.set_cons_zero, List.set_cons_succ]
          refine wpAnyH_take (i := 13) (oi := _) (v := ?_) rfl (by kernel_rfl) (by kernel_rfl) (by kernel_rfl) (fun _ _ _ h => h) (Or.inl ⟨by rfl, ?_⟩) hHeld ?_
          rotate_left
          · intro w' hSw
            have ce := hce w' (bel_call b11 (Nat.le_refl _) hSw)
            (go_simp <;> with_reducible rfl)
          try simp only [Act.put, List.getElem_toArray, List.getElem_cons_succ, List.getElem_cons_zero, List.setIfInBounds_toArray, List.set_cons_zero, List.set_cons_succ]
          refine wpAnyH_ready (rs := [9]) (by kernel_rfl) (by simp) ?_
          refine AllReadyH.cons (o := _) rfl (fun K hK => ?_) AllReadyH.nil
          go_simp
          go_at_call 13; (with_reducible (refine (K1 _ (bel_call b11 (Nat.le_refl _) hHeld)).mono ?_))
          rintro e9 w13 ⟨rfl, b13⟩
          have b13 := bel_call hHeld (Nat.le_refl _) b13
          refine hK.out _ _ b13 (fun _ => ?_)
          refine wpAnyH_weaken (S' := fun w' => Below w13.heap.size w13 w') (fun w' h => bel_call b13 (Nat.le_refl _) h) _ _ _ _ ?_
          clear hHeld hK K
          have hHeld : Below w13.heap.size w13 w13 := Below.refl _ _
          try simp only [Act.put, List.getElem_toArray, List.getElem_cons_succ, List.getElem_cons_zero, List.setIfInBounds_toArray, List.set_cons_zero, List.set_cons_succ]
          refine wpAnyH_take (i := 14) (oi := _) (v := ?_) rfl (by kernel_rfl) (by kernel_rfl) (by kernel_rfl) (fun _ _ _ h => h) (Or.inl ⟨by rfl, ?_⟩) hHeld ?_
          rotate_left
          · intro w' hSw
            (go_simp <;> with_reducible rfl)
          try simp only [Act.put, List.getElem_toArray, List.getElem_cons_succ, List.getElem_cons_zero, List.setIfInBounds_toArray, List.set_cons_zero, List.set_cons_succ]
          refine wpAnyH_take (i := 15) (oi := _) (v := ?_) rfl (by kernel_rfl) (by kernel_rfl) (by kernel_rfl) (fun _ _ _ h => h) (Or.inl ⟨by rfl, ?_⟩) hHeld ?_
          rotate_left
          · intro w' hSw
            (go_simp <;> with_reducible rfl)
          try simp only [Act.put, List.getElem_toArray, List.getElem_cons_succ, List.getElem_cons_zero, List.setIfInBounds_toArray, List.set_cons_zero, List.set_cons_succ]
          refine wpAnyH_take (i := 16) (oi := _) (v := ?_) rfl (by kernel_rfl) (by kernel_rfl) (by kernel_rfl) (fun _ _ _ h => h) (Or.inl ⟨by rfl, ?_⟩) hHeld ?_
          rotate_left
          · intro w' hSw
            (go_simp <;> with_reducible rfl)
          try simp only [Act.put, List.getElem_toArray, List.getElem_cons_succ, List.getElem_cons_zero, List.setIfInBounds_toArray, List.set_cons_zero, List.set_cons_succ]
          refine wpAnyH_take (i := 17) (oi := _) (v := ?_) rfl (by kernel_rfl) (by kernel_rfl) (by kernel_rfl) (fun _ _ _ h => h) (Or.inl ⟨by rfl, ?_⟩) hHeld ?_
          rotate_left
          · intro w' hSw
            (go_simp <;> with_reducible rfl)
          try simp only [Act.put, List.getElem_toArray, List.getElem_cons_succ, List.getElem_cons_zero, List.setIfInBounds_toArray, List.set_cons_zero, List.set_cons_succ]
          refine wpAnyH_take (i := 18) (oi := _) (v := ?_) rfl (by kernel_rfl) (by kernel_rfl) (by kernel_rfl) (fun _ _ _ h => h) (Or.inl ⟨by rfl, ?_⟩) hHeld ?_
          rotate_left
          · intro w' hSw
            (go_simp <;> with_reducible rfl)
          try simp only [Act.put, List.getElem_toArray, List.getElem_cons_succ, List.getElem_cons_zero, List.setIfInBounds_toArray, List.set_cons_zero, List.set_cons_succ]
          refine wpAnyH_take (i := 19) (oi := _) (v := ?_) rfl (by kernel_rfl) (by kernel_rfl) (by kernel_rfl) (fun _ _ _ h => h) (Or.inl ⟨by rfl, ?_⟩) hHeld ?_
          rotate_left
          · intro w' hSw
            (go_simp <;> with_reducible rfl)
          try simp only [Act.put, List.getElem_toArray, List.getElem_cons_succ, List.getElem_cons_zero, List.setIfInBounds_toArray, List.set_cons_zero, List.set_cons_succ]
          refine wpAnyH_take (i := 20) (oi := _) (v := ?_) rfl (by kernel_rfl) (by kernel_rfl) (by kernel_rfl) (fun _ _ _ h => h) (Or.inl ⟨by rfl, ?_⟩) hHeld ?_
          rotate_left
          · intro w' hSw
            (go_simp <;> with_reducible rfl)
          try simp only [Act.put, List.getElem_toArray, List.getElem_cons_succ, List.getElem_cons_zero, List.setIfInBounds_toArray, List.set_cons_zero, List.set_cons_succ]
          refine wpAnyH_take (i := 21) (oi := _) (v := ?_) rfl (by kernel_rfl) (by kernel_rfl) (by kernel_rfl) (fun _ _ _ h => h) (Or.inl ⟨by rfl, ?_⟩) hHeld ?_
          rotate_left
          · intro w' hSw
            (go_simp <;> with_reducible rfl)
          try simp only [Act.put, List.getElem_toArray, List.getElem_cons_succ, List.getElem_cons_zero, List.setIfInBounds_toArray, List.set_cons_zero, List.set_cons_succ]
          refine wpAnyH_take (i := 22) (oi := _) (v := ?_) rfl (by kernel_rfl) (by kernel_rfl) (by kernel_rfl) (fun _ _ _ h => h) (Or.inl ⟨by rfl, ?_⟩) hHeld ?_
          rotate_left
          · intro w' hSw
            (go_simp <;> with_reducible rfl)
          try simp only [Act.put, List.getElem_toArray, List.getElem_cons_succ, List.getElem_cons_zero, List.setIfInBounds_toArray, List.set_cons_zero, List.set_cons_succ]
          refine wpAnyH_take (i := 23) (oi := _) (v := ?_) rfl (by kernel_rfl) (by kernel_rfl) (by kernel_rfl) (fun _ _ _ h => h) (Or.inl ⟨by rfl, ?_⟩) hHeld ?_
          rotate_left
          · intro w' hSw
            (go_simp <;> with_reducible rfl)
          try simp only [Act.put, List.getElem_toArray, List.getElem_cons_succ, List.getElem_cons_zero, List.setIfInBounds_toArray, List.set_cons_zero, List.set_cons_succ]
          refine wpAnyH_take (i := 24) (oi := _) (v := ?_) rfl (by kernel_rfl) (by kernel_rfl) (by kernel_rfl) (fun _ _ _ h => h) (Or.inl ⟨by rfl, ?_⟩) hHeld ?_
          rotate_left
          · intro w' hSw
            (go_simp <;> with_reducible rfl)
          try simp only [Act.put, List.getElem_toArray, List.getElem_cons_succ, List.getElem_cons_zero, List.setIfInBounds_toArray, List.set_cons_zero, List.set_cons_succ]
          refine wpAnyH_take (i := 25) (oi := _) (v := ?_) rfl (by kernel_rfl) (by kernel_rfl) (by kernel_rfl) (fun _ _ _ h => h) (Or.inl ⟨by rfl, ?_⟩) hHeld ?_
          rotate_left
          · intro w' hSw
            (go_simp <;> with_reducible rfl)
          try simp only [Act.put, List.getElem_toArray, List.getElem_cons_succ, List.getElem_cons_zero, List.setIfInBounds_toArray, List.set_cons_zero, List.set_cons_succ]
          refine wpAnyH_take (i := 26) (oi := _) (v := ?_) rfl (by kernel_rfl) (by kernel_rfl) (by kernel_rfl) (fun _ _ _ h => h) (Or.inl ⟨by rfl, ?_⟩) hHeld ?_
          rotate_left
          · intro w' hSw
            (go_simp <;> with_reducible rfl)
          try simp only [Act.put, List.getElem_toArray, List.getElem_cons_succ, List.getElem_cons_zero, List.setIfInBounds_toArray, List.set_cons_zero, List.set_cons_succ]
          refine wpAnyH_take (i := 27) (oi := _) (v := ?_) rfl (by kernel_rfl) (by kernel_rfl) (by kernel_rfl) (fun _ _ _ h => h) (Or.inl ⟨by rfl, ?_⟩) hHeld ?_
          rotate_left
          · intro w' hSw
            (go_simp <;> with_reducible rfl)
          try simp only [Act.put, List.getElem_toArray, List.getElem_cons_succ, List.getElem_cons_zero, List.setIfInBounds_toArray, List.set_cons_zero, List.set_cons_succ]
          refine wpAnyH_take (i := 28) (oi := _) (v := ?_) rfl (by kernel_rfl) (by kernel_rfl) (by kernel_rfl) (fun _ _ _ h => h) (Or.inl ⟨by rfl, ?_⟩) hHeld ?_
          rotate_left
          · intro w' hSw
            (go_simp <;> with_reducible rfl)
          try simp only [Act.put, List.getElem_toArray, List.getElem_cons_succ, List.getElem_cons_zero, List.setIfInBounds_toArray, List.set_cons_zero, List.set_cons_succ]
          refine wpAnyH_done (by kernel_rfl) ?_ _
          go_wp2
          go_roundw
          case rel => exact ⟨k + 1, by omega, by go_num, bel_call hbw (Nat.le_refl _) (bel_call b11 (Nat.le_refl _) b13)⟩
          case measure => simp [intOf]; omega
        · obtain rfl : k = 15 := by omega
          have dk : decide (((15 : Nat) : Int) < 15) = false := by decide
          have G4 := hGz3.below hbw
          have a0 := G4.c 0 rfl
          have a1 := G4.c 1 rfl
          have a2 := G4.c 2 rfl
          have a3 := G4.c 3 rfl
          have a4 := G4.c 4 rfl
          have a5 := G4.c 5 rfl
          have rM4 := rM3.below hbw
          have K0 := tmay_any 63 16384 3 bm 3 3 bm 3 3 bm 3 3 mainL mainL mainL wr ⟨rM4, rM4, rM4, rfl, rfl, rfl, by decide, by decide, by decide⟩ i_63 i_16384 i_3 0 er_g
          have B16 := bel_call B15 (Nat.le_refl _) hbw
          clear rM4 rM3 hGz3 G4 hF3 o3 hEr B15 hbw hlt hk
          go_wp2_with (go_at_call 13; (with_reducible (refine K0.mono ?_)); rintro e9 w9 ⟨rfl, b9⟩)
          go_ret
          exact ⟨rfl, bel_call B16 (Nat.le_refl _) b9⟩
end Go.Proofs.Ytonholadabebbaa
