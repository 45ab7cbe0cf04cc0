/-
  Words for a slice that is read, whatever its elements' cells are, and what append does with such rows; nothing of a program's text.
-/
import Derived.WalkKit
import Derived.ProofKit
import Derived.Maps.AppendAt
import Derived.Laws.CopyOwn
import Derived.Lib.AppendZerosOnto
import Derived.Deep.AppendLies
import Derived.Laws.BytesArg
import Derived.OwnWalk
import Derived.Deep.QuietTactic
import Derived.BigQuiet
namespace Go.Proofs.Ytonholadabebbaa
open Go.RowKit

/-- How an element lies in cells. -/
structure Elt (α : Type) where
  k : Nat
  enc : α → List Value
  len : ∀ x, (enc x).length = k
  one : ∀ x, ∀ v ∈ enc x, v.oneCell' = true
  pos : 0 < k

/-- The cells of a row. -/
def fl {α : Type} (E : Elt α) : List α → List Value
  | [] => []
  | x :: r => E.enc x ++ fl E r

section
variable {α : Type} (E : Elt α)
theorem fl_length : ∀ l : List α, (fl E l).length = l.length * E.k
  | [] => by simp [fl]
  | x :: r => by simp [fl, fl_length r, E.len, Nat.add_mul]; omega
theorem fl_append : ∀ a b : List α, fl E (a ++ b) = fl E a ++ fl E b
  | [], b => rfl
  | x :: r, b => by simp [fl, fl_append r b]
theorem fl_take : ∀ (l : List α) (n : Nat), (fl E l).take (n * E.k) = fl E (l.take n)
  | _, 0 => by simp [fl]
  | [], n + 1 => by simp [fl]
  | x :: r, n + 1 => by
    rw [List.take_succ_cons, fl, fl, List.take_append, E.len, Nat.succ_mul, Nat.add_sub_cancel, fl_take r n]
    rw [List.take_of_length_le (by rw [E.len]; omega)]
theorem fl_drop : ∀ (l : List α) (n : Nat), (fl E l).drop (n * E.k) = fl E (l.drop n)
  | _, 0 => by simp
  | [], n + 1 => by simp [fl]
  | x :: r, n + 1 => by
    rw [List.drop_succ_cons, fl, List.drop_append, E.len, Nat.succ_mul, Nat.add_sub_cancel, fl_drop r n]
    rw [List.drop_of_length_le (by rw [E.len]; omega)]
    rfl
theorem fl_one : ∀ (l : List α), ∀ v ∈ fl E l, v.oneCell' = true
  | x :: r, v, hv => by
    simp only [fl, List.mem_append] at hv
    rcases hv with hv | hv
    · exact E.one x v hv
    · exact fl_one r v hv
theorem fl_get : ∀ (l : List α) (i : Nat) (h : i < l.length) (j : Nat), j < E.k → (fl E l)[i * E.k + j]? = (E.enc l[i])[j]?
  | x :: r, 0, _, j, hj => by
    simp only [fl, Nat.zero_mul, Nat.zero_add, List.getElem_cons_zero]
    rw [List.getElem?_append_left (by rw [E.len]; exact hj)]
  | x :: r, i + 1, h, j, hj => by
    rw [fl, List.getElem?_append_right (by rw [E.len, Nat.succ_mul]; omega), E.len]
    have := fl_get r i (by simpa using h) j hj
    rw [Nat.succ_mul, show i * E.k + E.k + j - E.k = i * E.k + j by omega]
    simpa using this

/-- The slice that begins at p, of capacity c, reads in w as l. -/
structure Rd (w : World) (p : Option Addr) (c : Nat) (l : List α) : Prop where
  cap : l.length ≤ c
  at_ : (p = none ∧ l = [] ∧ c = 0) ∨ ∃ b o s, p = some ⟨b, o, s⟩ ∧ (l ≠ [] → s = none) ∧ ∀ j v, (fl E l)[j]? = some v → w.cell? ⟨b, o + j, none⟩ = some v

/-- .. and it lies, alone, in a block from base on. -/
def Own (w : World) (base : Nat) (e : TypeId) (p : Option Addr) (c : Nat) (l : List α) : Prop := w.ownsRow base e E.k (.slice p l.length c) l.length (fl E l)
end

theorem lt_of_cell {w : World} {b o : Nat} {v : Value} (h : w.cell? ⟨b, o, none⟩ = some v) : b < w.heap.size := World.block_lt_of_cell? w ⟨b, o, none⟩ h
theorem add_plain (b o j : Nat) : (⟨b, o, none⟩ : Addr).add j = ⟨b, o + j, none⟩ := by unfold Addr.add; split <;> simp_all

section
variable {α : Type} {E : Elt α}
theorem Rd.nil (w : World) : Rd E w none 0 [] := ⟨by simp, .inl ⟨rfl, rfl, rfl⟩⟩

theorem Rd.pos {w : World} {p : Option Addr} {c : Nat} {l : List α} (h : Rd E w p c l) (hl : 0 < l.length) :
    ∃ b o, p = some ⟨b, o, none⟩ ∧ b < w.heap.size ∧ ∀ j v, (fl E l)[j]? = some v → w.cell? ⟨b, o + j, none⟩ = some v := by
  rcases h.at_ with ⟨_, rfl, _⟩ | ⟨b, o, s, e, hs, hc⟩
  · simp at hl
  · have hn := hs (List.length_pos_iff.1 hl)
    subst hn
    have h0 : 0 < (fl E l).length := by rw [fl_length]; exact Nat.mul_pos hl E.pos
    exact ⟨b, o, e, lt_of_cell (hc 0 _ (List.getElem?_eq_getElem h0)), hc⟩

/-- The cells of an element. -/
theorem Rd.cells {w : World} {p : Option Addr} {c : Nat} {l : List α} (h : Rd E w p c l) (i : Nat) (hi : i < l.length) :
    ∃ b o, p = some ⟨b, o, none⟩ ∧ b < w.heap.size ∧ ∀ j v, (E.enc l[i])[j]? = some v → w.cell? ⟨b, o + i * E.k + j, none⟩ = some v := by
  obtain ⟨b, o, e, hb, hc⟩ := h.pos (by omega)
  refine ⟨b, o, e, hb, fun j v hj => ?_⟩
  have hjk : j < E.k := by
    rw [← E.len l[i]]
    exact (List.getElem?_eq_some_iff.1 hj).1
  rw [Nat.add_assoc]
  exact hc _ _ (by rw [fl_get E l i hi j hjk]; exact hj)

theorem Rd.below {w w' : World} {p : Option Addr} {c : Nat} {l : List α} (h : Rd E w p c l) (hb : Below w.heap.size w w') : Rd E w' p c l := by
  refine ⟨h.cap, ?_⟩
  rcases h.at_ with h0 | ⟨b, o, s, rfl, hs, hc⟩
  · exact .inl h0
  · exact .inr ⟨b, o, s, rfl, hs, fun j v hj => (hb.cell (p := ⟨b, o + j, none⟩) (lt_of_cell (hc j v hj))).trans (hc j v hj)⟩

theorem Rd.drop {w : World} {p : Option Addr} {c : Nat} {l : List α} (h : Rd E w p c l) (n : Nat) (hn : n ≤ l.length) : Rd E w (if c = n then p else p.map (·.add (n * E.k))) (c - n) (l.drop n) := by
  refine ⟨by simp; have := h.cap; omega, ?_⟩
  have hcap := h.cap
  rcases h.at_ with ⟨rfl, rfl, rfl⟩ | ⟨b, o, s, rfl, hs, hc⟩
  · simp at hn
    subst hn
    exact .inl ⟨by simp, by simp, by simp⟩
  · right
    by_cases hcn : c = n
    · rw [if_pos hcn]
      have : l.drop n = [] := List.drop_of_length_le (by omega)
      rw [this]
      exact ⟨b, o, s, rfl, fun h => absurd rfl h, fun j v hj => by simp [fl] at hj⟩
    · rw [if_neg hcn]
      by_cases h0 : n = 0
      · subst h0
        exact ⟨b, o, s, by simp [Addr.add], by simpa using hs, by simpa using hc⟩
      · refine ⟨b, o + n * E.k, none, ?_, fun _ => rfl, fun j v hj => ?_⟩
        · have : n * E.k ≠ 0 := by have := Nat.mul_pos (Nat.pos_of_ne_zero h0) E.pos; omega
          simp [Addr.add, this]
        · rw [← fl_drop, List.getElem?_drop] at hj
          rw [Nat.add_assoc]
          exact hc _ _ hj

theorem Rd.take {w : World} {p : Option Addr} {c : Nat} {l : List α} (h : Rd E w p c l) (n : Nat) : Rd E w p c (l.take n) := by
  refine ⟨by simp; have := h.cap; omega, ?_⟩
  rcases h.at_ with ⟨rfl, rfl, rfl⟩ | ⟨b, o, s, rfl, hs, hc⟩
  · exact .inl ⟨rfl, by simp, rfl⟩
  · refine .inr ⟨b, o, s, rfl, fun hne => hs (by intro e; simp [e] at hne), fun j v hj => hc j v ?_⟩
    rw [← fl_take] at hj
    rw [List.getElem?_take] at hj
    split at hj
    · exact hj
    · cases hj

theorem own_rd {w : World} {base : Nat} {e : TypeId} {p : Option Addr} {c : Nat} {l : List α} (h : Own E w base e p c l) : Rd E w p c l := by
  rcases h.2 with ⟨h1, h2⟩ | ⟨g, cap, cur, h1, h2, h3, h4, h5, h6, h7⟩
  · simp only [Value.slice.injEq] at h1
    obtain ⟨rfl, h1, rfl⟩ := h1
    exact ⟨by omega, .inl ⟨rfl, List.eq_nil_of_length_eq_zero h1, rfl⟩⟩
  · simp only [Value.slice.injEq, true_and] at h1
    obtain ⟨rfl, rfl⟩ := h1
    refine ⟨h4, .inr ⟨g, 0, none, rfl, fun _ => rfl, fun j v hj => ?_⟩⟩
    have := World.ownsRow.cells h (g := g) rfl j v hj
    rwa [add_plain] at this

theorem own_nil (w : World) (base : Nat) (e : TypeId) : Own E w base e none 0 [] := World.ownsRow_nil w base e E.k
theorem own_cap {w : World} {base : Nat} {e : TypeId} {p : Option Addr} {c : Nat} {l : List α} (h : Own E w base e p c l) : l.length ≤ c := (own_rd h).cap
theorem own_below {w w' : World} {base : Nat} {e : TypeId} {p : Option Addr} {c : Nat} {l : List α} (h : Own E w base e p c l) (hb : Below w.heap.size w w') : Own E w' base e p c l :=
  World.ownsRow.kept h (row := none) ⟨hb.os, hb.tape, hb.output, hb.size, fun k hk _ => hb.block k hk⟩ (by cases hv : (Value.slice p l.length c).ownBlock <;> simp)
theorem own_mono {w : World} {base base' : Nat} {e : TypeId} {p : Option Addr} {c : Nat} {l : List α} (h : Own E w base e p c l) (hb : base' ≤ base) : Own E w base' e p c l :=
  ⟨h.1, h.2.imp id fun ⟨g, cap, cur, h1, h2, h3⟩ => ⟨g, cap, cur, h1, Nat.le_trans hb h2, h3⟩⟩

/-- A block that was made of a row's cells. -/
theorem rd_block {w : World} {vb : Nat} {cs : Array Value} {l : List α} {t : TypeId} {fr : Nat × Nat} (h : w.heap[vb]? = some (.cells cs t fr)) (n : Nat) (hn : l.length = n) (hl : cs.toList = fl E l) : Rd E w (some ⟨vb, 0, none⟩) n l :=
  ⟨by omega, .inr ⟨vb, 0, none, rfl, fun _ => rfl, fun j v hj => by
    have := World.news_of_block h j v (by rw [hl]; exact hj)
    rwa [add_plain] at this⟩⟩
theorem own_block {w : World} {base : Nat} {cs : Array Value} {l : List α} {e : TypeId} (hb : base ≤ w.heap.size) (hl : cs.toList = fl E l) (n : Nat) (hn : l.length = n) (hm : n ≤ maxLen) : Own E (w.alloc (.cells cs e)) base e (some ⟨w.heap.size, 0, none⟩) n l := by
  subst hn
  refine ⟨fl_length E l, .inr ⟨w.heap.size, l.length, cs, rfl, hb, heap_alloc_new w _, Nat.le_refl _, hm, ?_, ?_⟩⟩
  · rw [← Array.length_toList, hl, fl_length]
  · rw [hl]
    exact List.take_of_length_le (by rw [fl_length]; exact Nat.le_refl _)
end

/-- What is left as it was: all blocks but p's. -/
def Stays (w w' : World) (p : Option Addr) : Prop := ∀ b, b < w.heap.size → (∀ g, p = some ⟨g, 0, none⟩ → b ≠ g) → w'.heap[b]? = w.heap[b]?

/-- A slice type of the program whose elements lie so. -/
structure Ty {α : Type} (P : Program) (E : Elt α) (t e : TypeId) : Prop where
  und : P.underlying t = some (.slice e)
  info : ∃ i z, P.info? e = some i ∧ i.zero = some z ∧ i.size = E.k ∧ z.cells.size = E.k ∧ i.bytes ≤ 1000

theorem run_app {α : Type} {P : Program} {E : Elt α} {t e : TypeId} (T : Ty P E t e) (w : World) (ty : TypeId) (base : Nat) (p : Option Addr) (c : Nat) (l : List α) (hown : Own E w base e p c l) (q : Option Addr) (d : Nat) (m : List α) (hr : Rd E w q d m) (hlen : l.length + m.length ≤ 2000) (hbase : base ≤ w.heap.size) :
    ∃ p' c' w', (Builtin.append_ #[t, t] ty #[.slice p l.length c, .slice q m.length d]).run P w = .ok (.slice p' (l.length + m.length) c') w' ∧ Own E w' base e p' c' (l ++ m) ∧ Below base w w' ∧ Stays w w' p := by
  obtain ⟨i, z, hi, hz0, hz1, hz3, hz2⟩ := T.info
  have hcap := own_cap hown
  by_cases h0 : m = []
  · subst h0
    refine ⟨p, c, w, ?_, by simpa using hown, Below.refl _ _, fun _ _ _ => rfl⟩
    have hp : p = none ∨ ∃ g, p = some ⟨g, 0, none⟩ := by
      rcases hown.2 with ⟨h1, _⟩ | ⟨g, cap, cur, h1, _⟩
      · simp only [Value.slice.injEq] at h1; exact .inl h1.1
      · simp only [Value.slice.injEq] at h1; exact .inr ⟨g, h1.1⟩
    rcases hr.at_ with ⟨rfl, _, rfl⟩ | ⟨b, o, s, rfl, _, _⟩ <;> rcases hp with rfl | ⟨g, rfl⟩
    all_goals simp [Builtin.append_, run_underlying T.und, sizeOf, typeInfo, hi, Builtin.lenOf, Builtin.firstCells, storeCells, loadCells, loadCellsFrom, hcap]
  · have hpos : 0 < m.length := List.length_pos_iff.2 h0
    obtain ⟨b, o, rfl, hb, hc⟩ := hr.pos hpos
    have hby : (l.length + m.length) * i.bytes ≤ 140737488355328 := by
      have := Nat.mul_le_mul hlen hz2
      omega
    obtain ⟨v', w', hrun, h2, h3, h4, h5⟩ := run_append_own_at (P := P) w base t ty e i z E.k i.bytes T.und hi hz0 hz1 rfl hz3 E.pos (.slice p l.length c) l.length (fl E l) hown ⟨b, o, none⟩ m.length d (fl E m) (fl_length E m)
      (fun j u hu => by rw [add_plain]; exact hc j u hu) (fl_one E m) (by simp only [maxLen]; omega) hby hbase
    obtain ⟨g, cap, rfl, _, _⟩ := World.ownsRow.form h2 (by omega)
    have hlo := World.ownsRow.lt hown
    refine ⟨_, _, _, hrun, ?_, (Below.refl _ _).grown h3 hbase (fun k hk => (hlo k hk).1), fun x hx hne => h3.block x hx (fun e => ?_)⟩
    · unfold Own
      rw [fl_append, List.length_append]
      exact h2
    · cases p with
      | none => simp [Value.ownBlock] at e
      | some a =>
        rcases hown.2 with ⟨h1, _⟩ | ⟨g', cap', cur', h1, _⟩
        · simp only [Value.slice.injEq] at h1; cases h1.1
        · simp only [Value.slice.injEq] at h1
          obtain ⟨h1, _⟩ := h1
          cases h1
          simp [Value.ownBlock] at e
          exact hne g' rfl e

theorem step_append_run {P : Program} {ops : Array Oper} {o : Oper} {a : Act} {w : World} {K : Act → World → Prop} {Q : Exit → Act → World → Prop} {G : Prop}
    (hg : o.guard = none) (d x : Operand) (dT sT : TypeId) (hop : o.op = Op.call { callee := Callee.builtin Builtin.append, args := #[d, x], argTypes := #[dT, sT] })
    (v u : Value) (hd : a.eval d = v) (hx : a.eval x = u) {v' : Value} {w' : World} (hr : (Builtin.append_ #[dT, sT] o.type #[v, u]).run P w = .ok v' w') (hK : K (a.put o.dst v') w') :
    if Region.wanted o (yielded ops a.tmps) = true then Oper.wp P o a w K Q else G := by
  have hw : Region.wanted o (yielded ops a.tmps) = true := by simp [Region.wanted, hg]
  rw [if_pos hw]
  unfold Oper.wp
  simp [execOp, hop, resolve, invoke, builtin, hd, hx, hr, Result.andThen]
  exact hK

theorem wpList_app {α : Type} {P : Program} {E : Elt α} {t e : TypeId} (T : Ty P E t e) (w : World) {ops : Array Oper} {rest : List Oper} {o : Oper} {a : Act} {Q : Exit → Act → World → Prop} (hgd : o.guard = none) (s x : Operand)
    (ho : o.op = .call { callee := .builtin .append, args := #[s, x], argTypes := #[t, t] }) (base : Nat) (p : Option Addr) (c : Nat) (l : List α) (N : Nat) (hN : l.length = N) (hs : a.eval s = .slice p N c) (hown : Own E w base e p c l)
    (q : Option Addr) (d : Nat) (m : List α) (M : Nat) (hM : m.length = M) (hx : a.eval x = .slice q M d) (hr : Rd E w q d m) (hlen : N + M ≤ 2000) (hbase : base ≤ w.heap.size) (R : Nat) (hR : N + M = R)
    (h : ∀ p' c' w', Own E w' base e p' c' (l ++ m) → Below base w w' → Stays w w' p → wpList P ops Q rest (a.put o.dst (.slice p' R c')) w') : wpList P ops Q (o :: rest) a w := by
  subst hN hM hR
  obtain ⟨p', c', w', hrun, h1, h2, h3⟩ := run_app T w o.type base p c l hown q d m hr hlen hbase
  exact Lib.wpList_append_run w hgd s x t t ho _ _ hs hx _ _ hrun (h p' c' w' h1 h2 h3)

theorem step_app {α : Type} {P : Program} {E : Elt α} {t e : TypeId} (T : Ty P E t e) (w : World) {ops : Array Oper} {o : Oper} {a : Act} {K : Act → World → Prop} {Q : Exit → Act → World → Prop} {G : Prop} (hgd : o.guard = none) (s x : Operand)
    (ho : o.op = .call { callee := .builtin .append, args := #[s, x], argTypes := #[t, t] }) (base : Nat) (p : Option Addr) (c : Nat) (l : List α) (N : Nat) (hN : l.length = N) (hs : a.eval s = .slice p N c) (hown : Own E w base e p c l)
    (q : Option Addr) (d : Nat) (m : List α) (M : Nat) (hM : m.length = M) (hx : a.eval x = .slice q M d) (hr : Rd E w q d m) (hlen : N + M ≤ 2000) (hbase : base ≤ w.heap.size) (R : Nat) (hR : N + M = R)
    (h : ∀ p' c' w', Own E w' base e p' c' (l ++ m) → Below base w w' → Stays w w' p → K (a.put o.dst (.slice p' R c')) w') :
    if Region.wanted o (yielded ops a.tmps) = true then Oper.wp P o a w K Q else G := by
  subst hN hM hR
  obtain ⟨p', c', w', hrun, h1, h2, h3⟩ := run_app T w o.type base p c l hown q d m hr hlen hbase
  exact step_append_run hgd s x t t ho _ _ hs hx hrun (h p' c' w' h1 h2 h3)

theorem bel_call {B : Nat} {W w0 w1 : World} (h : Below B W w0) (hB : B ≤ W.heap.size) (hb : Below w0.heap.size w0 w1) : Below B W w1 := h.trans (hb.mono (Nat.le_trans hB h.size))
theorem bel_draws {B : Nat} {w w' : World} (h : Below B w w') (n : Nat) : Below B w (w'.drewN n) := ⟨h.os, h.tape, h.output, h.size, h.block⟩

/-- Nothing but block g has turned. -/
def Kp (g : Nat) (w w' : World) : Prop := w.grownBy w' (some g)
theorem Kp.refl (g : Nat) (w : World) : Kp g w w := ⟨rfl, rfl, rfl, Nat.le_refl _, fun _ _ _ => rfl⟩
theorem Kp.trans {g : Nat} {a b c : World} (h : Kp g a b) (k : Kp g b c) : Kp g a c :=
  ⟨k.os.trans h.os, k.tape.trans h.tape, k.output.trans h.output, Nat.le_trans h.size k.size, fun i hi hn => (k.block i (Nat.lt_of_lt_of_le hi h.size) hn).trans (h.block i hi hn)⟩
theorem Kp.of_below {g : Nat} {w w' : World} (h : Below w.heap.size w w') : Kp g w w' := ⟨h.os, h.tape, h.output, h.size, fun k hk _ => h.block k hk⟩
theorem Kp.below {g B : Nat} {w w' : World} (h : Kp g w w') (hg : B ≤ g) (hB : B ≤ w.heap.size) : Below B w w' :=
  ⟨h.os, h.tape, h.output, h.size, fun k hk => h.block k (by omega) (by intro e; cases e; omega)⟩
theorem Kp.set {g : Nat} {w : World} {a : Addr} (ha : a.block = g) (u : Value) : Kp g w (w.setCell a u) :=
  ⟨rfl, rfl, rfl, by simp [World.setCell], fun k _ hn => Below.heap_setCell _ _ _ _ (by intro e; subst e; exact hn (by rw [ha]))⟩
theorem Kp.draws {g : Nat} {w w' : World} (h : Kp g w w') (n : Nat) : Kp g w (w'.drewN n) := ⟨h.os, h.tape, h.output, h.size, h.block⟩
theorem Kp.drew {g : Nat} {w w' : World} (h : Kp g w w') : Kp g w w'.drew := ⟨h.os, h.tape, h.output, h.size, h.block⟩
theorem own_kp {α : Type} {E : Elt α} {w w' : World} {base g : Nat} {e : TypeId} {p : Option Addr} {c : Nat} {l : List α} (h : Own E w base e p c l) (hk : Kp g w w') (hg : g < base) : Own E w' base e p c l := by
  refine World.ownsRow.kept h hk ?_
  cases hv : (Value.slice p l.length c).ownBlock with
  | none => simp
  | some b =>
    right
    have := World.ownsRow.lt h b hv
    intro e
    cases e
    omega
/-- A row that lies at a block other than g. -/
theorem rd_kp {α : Type} {E : Elt α} {w w' : World} {g : Nat} {p : Option Addr} {c : Nat} {l : List α} (h : Rd E w p c l) (hk : Kp g w w') (hg : ∀ b o, p = some ⟨b, o, none⟩ → l ≠ [] → b ≠ g) : Rd E w' p c l := by
  refine ⟨h.cap, ?_⟩
  rcases h.at_ with h0 | ⟨b, o, s, rfl, hs, hc⟩
  · exact .inl h0
  · by_cases hl : l = []
    · subst hl
      exact .inr ⟨b, o, s, rfl, fun h => absurd rfl h, fun j v hj => by simp [fl] at hj⟩
    · have := hs hl
      subst this
      have hne := hg b o rfl hl
      exact .inr ⟨b, o, none, rfl, fun _ => rfl, fun j v hj => World.grownBy.cell hk (hc j v hj) (by intro e; cases e; exact hne rfl)⟩

end Go.Proofs.Ytonholadabebbaa
