/-
  Where a machine is behind a Rep, by the program.
-/
import Derived.Test.YtboffjabffcddaaVmoved
namespace Go.Proofs.Ytboffjabffcddaa
open Go.ChangeShapes Go.WideShapes Go.ChangeAt Go.RowKit
attribute [local go_sem ↓] Go.wp_at_zero Go.wp_at_succ

theorem own_other {α : Type} {E : Elt α} {w w' : World} {base g : Nat} {e t : TypeId} {p : Option Addr} {c : Nat} {l : List α} {cs : Array Value} {fr : Nat × Nat} (h : Own E w base e p c l) (hg : w.heap[g]? = some (.cells cs t fr)) (ht : t ≠ e) (hw : ∀ b, b ≠ g → w'.heap[b]? = w.heap[b]?) : Own E w' base e p c l := by
  refine ⟨h.1, ?_⟩
  rcases h.2 with hn | ⟨g1, cap, cur, h1, h2, h3, h4⟩
  · exact .inl hn
  · refine .inr ⟨g1, cap, cur, h1, h2, (hw g1 ?_).trans h3, h4⟩
    rintro rfl
    rw [hg] at h3
    simp only [Option.some.injEq, Obj.cells.injEq] at h3
    exact ht h3.2.1
theorem Stays.trans {a b c : World} {p : Option Addr} (h : Stays a b p) (k : Stays b c p) (hs : a.heap.size ≤ b.heap.size) : Stays a c p := fun i hi hn => (k i (by omega) hn).trans (h i hi hn)
theorem stays_of_below {a b : World} {p : Option Addr} (h : Below a.heap.size a b) : Stays a b p := fun i hi _ => h.block i hi
/-- what follows of an append to what is repeated: the machine's variable at block r, new since w, what is told at r + 2 -/
theorem rep9 {w W w7 : World} {pc : Int} {mem : List Int} {q p7 : Option Addr} {k d c7 base : Nat} {R RL : List Rp} {Z : Array Value} {kk : Nat} (hm : mem.length = 8) (oR : Own eRp w base 73 q d R) (hbz : base ≤ w.heap.size)
    (hB : Below w.heap.size w W) (h3 : W.heap[w.heap.size]? = some (.cells (mcell pc mem q k d false) 47 (0, 0))) (h4 : W.heap[w.heap.size + 1 + 1]? = some (.cells Z 47 (0, 0)))
    (b7 : Below base W w7) (st7 : Stays W w7 q) (o7 : Own eRp w7 base 73 p7 c7 RL) :
    Mc w7 w.heap.size pc mem q k d false ∧ w7.heap[w.heap.size + 1 + 1]? = some (.cells Z 47 (0, 0)) ∧ (w7.setCell ⟨w.heap.size, 9, none⟩ (.slice p7 kk c7)).heap[w.heap.size + 1 + 1]? = some (.cells Z 47 (0, 0)) ∧
    ∀ cs, Own eRp ((w7.setCell ⟨w.heap.size, 9, none⟩ (.slice p7 kk c7)).setRow (w.heap.size + 1 + 1) cs) base 73 p7 c7 RL ∧ Below base w ((w7.setCell ⟨w.heap.size, 9, none⟩ (.slice p7 kk c7)).setRow (w.heap.size + 1 + 1) cs) ∧ Stays w ((w7.setCell ⟨w.heap.size, 9, none⟩ (.slice p7 kk c7)).setRow (w.heap.size + 1 + 1) cs) q := by
  have hne : ∀ i, w.heap.size ≤ i → ∀ g, q = some ⟨g, 0, none⟩ → i ≠ g := fun i hi g e => by
    have := (own_blk oR g e).2
    omega
  have hz3 := lt_of_block h3
  have hz4 := lt_of_block h4
  have k3 : w7.heap[w.heap.size]? = _ := (st7 _ hz3 (hne _ (Nat.le_refl _))).trans h3
  have k4 : w7.heap[w.heap.size + 1 + 1]? = _ := (st7 _ hz4 (hne _ (by omega))).trans h4
  have k5 : (w7.setCell ⟨w.heap.size, 9, none⟩ (.slice p7 kk c7)).heap[w.heap.size + 1 + 1]? = _ := (heap_setCell_other _ _ _ _ (by simp <;> omega)).trans k4
  refine ⟨⟨k3, hm⟩, k4, k5, fun cs => ⟨?_, ?_, ?_⟩⟩
  · exact own_other (own_other o7 k3 (by decide) (fun b hb => heap_setCell_other _ _ _ _ (by simpa using hb))) k5 (by decide) (fun b hb => setRow_other _ _ _ _ hb)
  · exact below_setRow (((hB.mono hbz).trans b7).setCell (by simpa using hbz) _) (by omega) _
  · intro b hb hn
    refine (setRow_other _ _ _ _ (by omega)).trans ((heap_setCell_other _ _ _ _ (by simp; omega)).trans ((st7 b ?_ hn).trans (hB.block b hb)))
    exact Nat.lt_of_lt_of_le hb hB.size
set_option maxRecDepth 100000 in
set_option maxHeartbeats 8000000 in
theorem moved_rep (pc : Int) (hp0 : 0 ≤ pc) (hp1 : pc ≤ 1000) (mem : List Int) (hm : mem.length = 8) (q : Option Addr) (k d : Nat) (xo xa xb xn : Int) (w : World) (hx : xo = 8) (hb0 : 0 ≤ xb) (hb1 : xb ≤ 1000) (hn0 : 1 ≤ xn) (hn1 : xn ≤ 1000) (base : Nat) (hbz : base ≤ w.heap.size) (R : List Rp) (hk : R.length = k) (hk3 : k ≤ 1000) (oR : Own eRp w base 73 q d R) : Calls Try.prog 39 #[.agg (mcell pc mem q k d false), .agg #[.int .i64 xo, .int .i64 xa, .int .i64 xb, .int .i64 xn]] w fun e w' => (∃ (p7 : Option Addr) (c7 : Nat), e = .returned (.agg (mcell (pc + 1) mem p7 (k + 1) c7 false)) ∧ Own eRp w' base 73 p7 c7 (R ++ [(pc + 1, pc + xb, xn - 1)])) ∧ Below base w w' ∧ Stays w w' q := by
  have e0 : (xo == 0) = false := by simp; omega
  have e7 : (xo == 7) = false := by simp; omega
  have e8 : (xo == 8) = true := by simp [hx]
  have q0 := mcell_0 pc mem q k d false
  have q1 := mcell_0 (pc + 1) mem q k d false
  have q9 := mcell_9 (pc := pc + 1) (q := q) (k := k) (d := d) (ov := false) hm
  have q2 := mset_0 pc (pc + 1) mem q k d false
  have hxb : pc + 1 + xb - 1 = pc + xb := by omega
  have HK : Hid (R.length = k) := hk
  clear hk hx
  go_enter Try.func39, Try.ntmps39
  go_wp2_with (first
    | (at_builtin; go_must (refine wpList_app tRp _ rfl _ _ rfl base _ _ R k HK.out rfl (by repeat (first | exact oR | refine own_al ?_ _)) _ 1 [(pc + 1, pc + xb, xn - 1)] 1 rfl rfl (rd_rp (heap_at (by first | rfl | simp))) (by omega) (by simp <;> omega) (k + 1) rfl ?_); intro p7 c7 w7 o7 b7 st7
       go_must (obtain ⟨M7, k4, k5, hfin⟩ := rep9 (kk := k + 1) hm oR hbz ((by repeat (first | exact Below.refl _ _ | refine Below.alloc ?_ (by simp <;> omega) _ | refine Below.setCell ?_ (by simp <;> omega) _))) ((Below.heap_alloc _ _ _ (by simp <;> omega)).trans ((Below.heap_alloc _ _ _ (by simp <;> omega)).trans ((Below.heap_alloc _ _ _ (by simp <;> omega)).trans (heap_at rfl)))) ((Below.heap_alloc _ _ _ (by simp <;> omega)).trans (heap_at (by simp))) b7 st7 o7)
       have k9 := M7.c9
       have k0 := M7.c0
       have kfr := M7.fr
       have k3z := M7.lt)
    | (refine wpList_load_row rfl 47 (.tmp 2) rfl w.heap.size rfl 47 (mcell (pc + 1) mem p7 (k + 1) c7 false) (0, 0) _ (M7.s9 _ _ _).at_ Try.underlying47 rfl (by rw [mcell_size hm]; exact info38) ?_)
    | (refine wpList_store_row rfl 47 (.tmp 4) (.tmp 53) rfl (w.heap.size + 1 + 1) (mcell (pc + 1) mem p7 (k + 1) c7 false) rfl rfl 47 _ k5 (by rw [mcell_size hm]; exact info38) (by rw [mcell_size hm]; rfl) (mcell_one _ _ _ _ _ _) ?_))
  refine bodyPost_ret (v := .agg (mcell (pc + 1) mem p7 (k + 1) c7 false)) (res29 hm rfl (setRow_heap _ _ _ _ _ _ k5)) rfl ?_
  exact ⟨⟨_, _, rfl, (hfin _).1⟩, (hfin _).2.1, (hfin _).2.2⟩
end Go.Proofs.Ytboffjabffcddaa
