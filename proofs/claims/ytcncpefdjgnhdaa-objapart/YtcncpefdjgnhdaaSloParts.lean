/-
  Words for a slice that is read and for a slice that a call has made, and what append onto an empty slice does with them; nothing of a program's text.
-/
import Derived.WalkKit
import Derived.ProofKit
import Derived.Maps.AppendAt
namespace Go.Proofs.Ytcncpefdjgnhdaa.Slo
open Go.RowKit

/-- The slice that begins at p, of capacity c, reads in w as the list l, each element by f. -/
structure Rd {α : Type} (w : World) (f : α → Value) (p : Option Addr) (c : Nat) (l : List α) : Prop where
  cap : l.length ≤ c
  at_ : (p = none ∧ l = [] ∧ c = 0) ∨ ∃ b o s, p = some ⟨b, o, s⟩ ∧ (l ≠ [] → s = none) ∧ ∀ i (h : i < l.length), w.cell? ⟨b, o + i, none⟩ = some (f l[i])

/-- .. and it lies in a block from base on that may be written. -/
structure Own {α : Type} (w : World) (base : Nat) (f : α → Value) (p : Option Addr) (c : Nat) (l : List α) : Prop where
  rd : Rd w f p c l
  own : l ≠ [] → ∃ b, p = some ⟨b, 0, none⟩ ∧ base ≤ b ∧ b < w.heap.size ∧ ∀ i, w.frozen? ⟨b, i, none⟩ = false

theorem lt_of_cell {w : World} {b o : Nat} {v : Value} (h : w.cell? ⟨b, o, none⟩ = some v) : b < w.heap.size := World.block_lt_of_cell? w ⟨b, o, none⟩ h

theorem Rd.below {α : Type} {w w' : World} {f : α → Value} {p : Option Addr} {c : Nat} {l : List α} (h : Rd w f p c l) (hb : Below w.heap.size w w') : Rd w' f p c l := by
  refine ⟨h.cap, ?_⟩
  rcases h.at_ with h0 | ⟨b, o, s, rfl, hs, hc⟩
  · exact .inl h0
  · exact .inr ⟨b, o, s, rfl, hs, fun i hi => (hb.cell (p := ⟨b, o + i, none⟩) (lt_of_cell (hc i hi))).trans (hc i hi)⟩

theorem Own.below {α : Type} {w w' : World} {base : Nat} {f : α → Value} {p : Option Addr} {c : Nat} {l : List α} (h : Own w base f p c l) (hb : Below w.heap.size w w') : Own w' base f p c l := by
  refine ⟨h.rd.below hb, fun hl => ?_⟩
  obtain ⟨b, e, h1, h2, h3⟩ := h.own hl
  exact ⟨b, e, h1, Nat.lt_of_lt_of_le h2 hb.size, fun i => (hb.frozen (p := ⟨b, i, none⟩) h2).trans (h3 i)⟩

theorem Own.mono {α : Type} {w : World} {base base' : Nat} {f : α → Value} {p : Option Addr} {c : Nat} {l : List α} (h : Own w base f p c l) (hb : base' ≤ base) : Own w base' f p c l :=
  ⟨h.rd, fun hl => by obtain ⟨b, e, h1, r⟩ := h.own hl; exact ⟨b, e, Nat.le_trans hb h1, r⟩⟩

/-- The slice's head lies where a cell is read. -/
theorem Rd.some {α : Type} {w : World} {f : α → Value} {p : Option Addr} {c : Nat} {l : List α} (h : Rd w f p c l) (hl : 0 < l.length) :
    ∃ b o, p = some ⟨b, o, none⟩ ∧ b < w.heap.size ∧ ∀ i (h : i < l.length), w.cell? ⟨b, o + i, none⟩ = some (f l[i]) := by
  rcases h.at_ with ⟨_, rfl, _⟩ | ⟨b, o, s, e, hs, hc⟩
  · simp at hl
  · have hn := hs (List.length_pos_iff.1 hl)
    subst hn
    exact ⟨b, o, e, lt_of_cell (hc 0 hl), hc⟩

/-- The cells of an owned slice. -/
theorem Own.cells {α : Type} {w : World} {base : Nat} {f : α → Value} {p : Option Addr} {c : Nat} {l : List α} (h : Own w base f p c l) (hl : 0 < l.length) :
    ∃ b, p = Option.some ⟨b, 0, none⟩ ∧ base ≤ b ∧ b < w.heap.size ∧ (∀ i, w.frozen? ⟨b, i, none⟩ = false) ∧ ∀ i (h : i < l.length), w.cell? ⟨b, i, none⟩ = Option.some (f l[i]) := by
  obtain ⟨b, e, h1, h2, h3⟩ := h.own (by intro e; simp [e] at hl)
  obtain ⟨b', o', e', _, hc⟩ := h.rd.some hl
  rw [e] at e'
  simp only [Option.some.injEq, Addr.mk.injEq, and_true] at e'
  obtain ⟨rfl, rfl⟩ := e'
  exact ⟨b, e, h1, h2, h3, fun i hi => by simpa using hc i hi⟩

/-- A store elsewhere. -/
theorem Own.setFar {α : Type} {w : World} {base : Nat} {f : α → Value} {p : Option Addr} {c : Nat} {l : List α} (h : Own w base f p c l) {a : Addr} (ha : ∀ b, p = some ⟨b, 0, none⟩ → l ≠ [] → b ≠ a.block) (u : Value) : Own (w.setCell a u) base f p c l := by
  by_cases hl : l = []
  · subst hl
    refine ⟨⟨h.rd.cap, ?_⟩, fun e => absurd rfl e⟩
    rcases h.rd.at_ with h0 | ⟨b, o, s, e, _, _⟩
    · exact .inl h0
    · exact .inr ⟨b, o, s, e, fun h => absurd rfl h, fun i hi => by simp at hi⟩
  · obtain ⟨b, e, h1, h2, h3, hc⟩ := h.cells (List.length_pos_iff.2 hl)
    have hne := ha b e hl
    have hh : (w.setCell a u).heap[b]? = w.heap[b]? := Below.heap_setCell w a u b hne
    refine ⟨⟨h.rd.cap, .inr ⟨b, 0, none, e, fun _ => rfl, fun i hi => ?_⟩⟩, fun _ => ⟨b, e, h1, by simpa [World.setCell] using h2, fun i => ?_⟩⟩
    · rw [World.cell?_of_block (w := w) (a := ⟨b, 0 + i, none⟩) hh]; simpa using hc i hi
    · rw [World.frozen?_of_block (w := w) (a := ⟨b, i, none⟩) hh]; exact h3 i

/-- A store into its own cell k. -/
theorem Own.setAt {α : Type} {w : World} {base b : Nat} {f : α → Value} {c : Nat} {l : List α} (h : Own w base f (some ⟨b, 0, none⟩) c l) (k : Nat) (hk : k < l.length) (x : α) : Own (w.setCell ⟨b, k, none⟩ (f x)) base f (some ⟨b, 0, none⟩) c (l.set k x) := by
  obtain ⟨b', e, h1, h2, h3, hc⟩ := h.cells (by omega)
  simp only [Option.some.injEq, Addr.mk.injEq, and_true] at e
  subst e
  refine ⟨⟨by simpa using h.rd.cap, .inr ⟨b, 0, none, rfl, fun _ => rfl, fun i hi => ?_⟩⟩, fun _ => ⟨b, rfl, h1, by simpa [World.setCell] using h2, fun i => by rw [World.frozen?_setCell]; exact h3 i⟩⟩
  have hi' : i < l.length := by simpa using hi
  rw [Nat.zero_add, List.getElem_set]
  by_cases e : k = i
  · subst e
    rw [if_pos rfl, World.cell?_setCell_same w ⟨b, k, none⟩ _ (hc k hk)]
  · rw [if_neg e, World.cell?_setCell_other w ⟨b, k, none⟩ ⟨b, i, none⟩ _ (by simp)]
    exact hc i hi'

theorem add_plain (b o j : Nat) : (⟨b, o, none⟩ : Addr).add j = ⟨b, o + j, none⟩ := by unfold Addr.add; split <;> simp_all

/-- append of a slice that is read onto an empty one: the new slice owns it, and nothing old has turned. -/
theorem run_copy_rd {P : Program} {α : Type} (w : World) (f : α → Value) (t ty e : TypeId) (z : Value) (bytes : Nat) (ht : P.underlying t = some (.slice e))
    (hinfo : (P.info? e).map (fun i => (i.zero, i.size, i.bytes)) = some (some z, 1, bytes))
    (N : Nat) (p : Option Addr) (c : Nat) (l : List α) (hr : Rd w f p c l) (hl : l.length ≤ 64) (hby : bytes ≤ 8) :
    ∃ p' c' w', (Builtin.append_ #[t, t] ty #[.slice (some ⟨N, 0, none⟩) 0 0, .slice p l.length c]).run P w = .ok (.slice p' l.length c') w' ∧ Own w' w.heap.size f p' c' l ∧ Below w.heap.size w w' := by
  obtain ⟨i, hi, hz0, hz1, hz2⟩ := info_parts hinfo
  by_cases h0 : l = []
  · subst h0
    refine ⟨some ⟨N, 0, none⟩, 0, w, ?_, ⟨⟨by simp, .inr ⟨N, 0, none, rfl, fun _ => rfl, fun i hi => by simp at hi⟩⟩, fun e => absurd rfl e⟩, Below.refl _ _⟩
    rcases hr.at_ with ⟨rfl, _, rfl⟩ | ⟨b, o, s, rfl, _, _⟩
    · simp [Builtin.append_, run_underlying ht, sizeOf, typeInfo, hi, Builtin.lenOf, Builtin.firstCells, storeCells]
    · simp [Builtin.append_, run_underlying ht, sizeOf, typeInfo, hi, Builtin.lenOf, Builtin.firstCells, storeCells, loadCells, loadCellsFrom]
  · have hpos : 0 < l.length := List.length_pos_iff.2 h0
    obtain ⟨b, o, rfl, hb, hc⟩ := hr.some hpos
    have hr' := run_append_grow (P := P) w t ty e i z ht hi hz0 ⟨N, 0, none⟩ 0 0 [] (by simp) (by simp) ⟨b, o, none⟩ l.length c (l.map f) (by simp [hz1])
      (fun j u hu => by
        rw [add_plain]
        simp only [List.getElem?_map, Option.map_eq_some_iff] at hu
        obtain ⟨x, hx, rfl⟩ := hu
        obtain ⟨hj, rfl⟩ := List.getElem?_eq_some_iff.1 hx
        exact hc j hj) (by omega) (by omega)
      (growslice_fits (by omega) (by rw [hz2, Nat.zero_add]; exact Nat.le_trans (Nat.mul_le_mul hl hby) (by decide)))
    rw [Nat.zero_add] at hr'
    refine ⟨_, _, _, hr', ⟨⟨grownCap_ge _ _ _ _, .inr ⟨w.heap.size, 0, none, rfl, fun _ => rfl, fun j hj => ?_⟩⟩, fun _ => ⟨w.heap.size, rfl, Nat.le_refl _, by simp, fun j => ?_⟩⟩, (Below.refl _ _).drew.alloc (Nat.le_refl _) _⟩
    · rw [cell_of_row _ w.heap.size _ _ e (0, 0) (heap_alloc_new w.drew _)]
      rw [show ([].toArray : Array Value) = #[] from rfl, Array.empty_append, Nat.zero_add, Array.getElem?_append_left (by simpa using hj)]
      simp [hj]
    · unfold World.frozen?
      rw [show (w.drew.alloc (Obj.cells ([].toArray ++ (List.map f l).toArray ++ Builtin.zeroCells z.cells (grownCap w l.length 0 e - l.length)) e)).heap[w.heap.size]? = _ from heap_alloc_new w.drew _]
      simp

/-- .. at a plain region's list. -/
theorem wpList_copy_rd {P : Program} {α : Type} (w : World) {ops : Array Oper} {rest : List Oper} {op : Oper} {a : Act} {Q : Exit → Act → World → Prop} (hgd : op.guard = none) (s x : Operand) (t : TypeId)
    (ho : op.op = .call { callee := .builtin .append, args := #[s, x], argTypes := #[t, t] })
    (f : α → Value) (e : TypeId) (z : Value) (bytes : Nat) (ht : P.underlying t = some (.slice e))
    (hinfo : (P.info? e).map (fun i => (i.zero, i.size, i.bytes)) = some (some z, 1, bytes))
    (N : Nat) (hs : a.eval s = .slice (some ⟨N, 0, none⟩) 0 0) (p : Option Addr) (c : Nat) (l : List α) (hx : a.eval x = .slice p l.length c) (hr : Rd w f p c l) (hl : l.length ≤ 64) (hby : bytes ≤ 8)
    (h : ∀ p' c' w', Own w' w.heap.size f p' c' l → Below w.heap.size w w' → wpList P ops Q rest (a.put op.dst (.slice p' l.length c')) w') : wpList P ops Q (op :: rest) a w := by
  refine wpList_plain hgd fun K hK => ?_
  obtain ⟨p', c', w', hrun, h2, h3⟩ := run_copy_rd (P := P) w f t op.type e z bytes ht hinfo N p c l hr hl hby
  unfold Oper.wp
  simp [execOp, ho, resolve, invoke, builtin, hs, hx, hrun, Result.andThen]
  exact hK _ _ (h p' c' w' h2 h3)

/-- .. at a step of a region that draws its order. -/
theorem step_copy_rd {P : Program} {α : Type} (w : World) {ops : Array Oper} {op : Oper} {a : Act} {K : Act → World → Prop} {Q : Exit → Act → World → Prop} {E : Prop} (hgd : op.guard = none) (s x : Operand) (t : TypeId)
    (ho : op.op = .call { callee := .builtin .append, args := #[s, x], argTypes := #[t, t] })
    (f : α → Value) (e : TypeId) (z : Value) (bytes : Nat) (ht : P.underlying t = some (.slice e))
    (hinfo : (P.info? e).map (fun i => (i.zero, i.size, i.bytes)) = some (some z, 1, bytes))
    (N : Nat) (hs : a.eval s = .slice (some ⟨N, 0, none⟩) 0 0) (p : Option Addr) (c : Nat) (l : List α) (hx : a.eval x = .slice p l.length c) (hr : Rd w f p c l) (hl : l.length ≤ 64) (hby : bytes ≤ 8)
    (h : ∀ p' c' w', Own w' w.heap.size f p' c' l → Below w.heap.size w w' → K (a.put op.dst (.slice p' l.length c')) w') :
    if Region.wanted op (yielded ops a.tmps) = true then Oper.wp P op a w K Q else E := by
  have hw : Region.wanted op (yielded ops a.tmps) = true := by simp [Region.wanted, hgd]
  rw [if_pos hw]
  obtain ⟨p', c', w', hrun, h2, h3⟩ := run_copy_rd (P := P) w f t op.type e z bytes ht hinfo N p c l hr hl hby
  unfold Oper.wp
  simp [execOp, ho, resolve, invoke, builtin, hs, hx, hrun, Result.andThen]
  exact h p' c' w' h2 h3

theorem bel_call {B : Nat} {W w0 w1 : World} (h : Below B W w0) (hB : B ≤ W.heap.size) (hb : Below w0.heap.size w0 w1) : Below B W w1 := h.trans (hb.mono (Nat.le_trans hB h.size))

/-- e hands back a pair of slices of the call's own that read as gs and bs. -/
def Cloned (w w' : World) (gs : List Int) (bs : List Bool) (e : Ending) : Prop :=
  ∃ gp gc ip ic, e = .returned (.agg #[.slice gp gs.length gc, .slice ip bs.length ic]) ∧ Own w' w.heap.size (Value.int .i64) gp gc gs ∧ Own w' w.heap.size Value.bool ip ic bs ∧
    (gs ≠ [] → bs ≠ [] → gp ≠ ip) ∧ Below w.heap.size w w'

theorem apart_of {α β : Type} {w1 w2 : World} {b1 : Nat} {f : α → Value} {g : β → Value} {p q : Option Addr} {c d : Nat} {l : List α} {m : List β} (h1 : Own w1 b1 f p c l) (h2 : Own w2 w1.heap.size g q d m) (hl : l ≠ []) (hm : m ≠ []) : p ≠ q := by
  obtain ⟨b, rfl, _, h3, _⟩ := h1.own hl
  obtain ⟨b', rfl, h4, _⟩ := h2.own hm
  intro e
  simp only [Option.some.injEq, Addr.mk.injEq, and_true] at e
  omega

end Go.Proofs.Ytcncpefdjgnhdaa.Slo
