/-
  Rows of semaphores, of integers, of bytes; a store into an own row.
-/
import Derived.Test.YtfankdhkcjknaaaParts
import Derived.Test.YtfankdhkcjknaaaMath
import Derived.Test.YtfankdhkcjknaaaChecked
import Derived.Deep.QuietTactic
import Derived.BigQuiet
import Derived.Deep.RegionHeld3
import Derived.Deep.RegionLaw
import Derived.Deep.DrawnRows
import Derived.WalkLawsBesides
import Derived.Lib.SliceRun
import Derived.Lib.Overlaps
import Derived.WalkSpells
namespace Go.Proofs.Ytfankdhkcjknaaa
open Go.ChangeShapes Go.WideShapes Go.ChangeAt Go.RowKit
attribute [local go_sem ↓] Go.wp_at_zero Go.wp_at_succ

theorem info_parts {o : Option TypeInfo} {z : Option Value} {s b : Nat} (h : o.map (fun i => (i.zero, i.size, i.bytes)) = some (z, s, b)) : ∃ i, o = some i ∧ i.zero = z ∧ i.size = s ∧ i.bytes = b := by
  cases o with
  | none => simp at h
  | some i => simp at h; exact ⟨i, rfl, h.1, h.2.1, h.2.2⟩
def eS : Elt Sm := ⟨2, fun x => [.int .i64 x.1, .int .i64 x.2], fun _ => rfl, by intro x v hv; simp at hv; rcases hv with rfl | rfl <;> rfl, by decide⟩
def eI : Elt Int := ⟨1, fun x => [.int .i64 x], fun _ => rfl, by intro x v hv; simp at hv; subst hv; rfl, by decide⟩
def eB : Elt Int := ⟨1, fun x => [.int .u8 x], fun _ => rfl, by intro x v hv; simp at hv; subst hv; rfl, by decide⟩
theorem Try.info36 : (Try.prog.info? 36).map (fun i => (i.zero, i.size, i.bytes)) = some (some (.agg #[.int .i64 0, .int .i64 0]), 2, 16) := by kernel_rfl
theorem Try.info3 : (Try.prog.info? 3).map (fun i => (i.zero, i.size, i.bytes)) = some (some (.int .i64 0), 1, 8) := by kernel_rfl
theorem tS : Ty Try.prog eS 22 36 := by
  obtain ⟨i, hi, h0, h1, h2⟩ := info_parts Try.info36
  exact ⟨Try.underlying22, i, _, hi, h0, h1, rfl, by omega⟩
theorem tI : Ty Try.prog eI 23 3 := by
  obtain ⟨i, hi, h0, h1, h2⟩ := info_parts Try.info3
  exact ⟨Try.underlying23, i, _, hi, h0, h1, rfl, by omega⟩
theorem flI : ∀ l : List Int, fl eI l = l.map (Value.int .i64)
  | [] => rfl
  | x :: r => by rw [fl, flI r]; rfl
theorem flB : ∀ l : List Int, fl eB l = l.map (Value.int .u8)
  | [] => rfl
  | x :: r => by rw [fl, flB r]; rfl
theorem Rd.num {w : World} {p : Option Addr} {c : Nat} {l : List Int} (h : Rd eI w p c l) (i : Nat) (hi : i < l.length) :
    ∃ b o, p = some ⟨b, o, none⟩ ∧ b < w.heap.size ∧ w.cell? ⟨b, o + i, none⟩ = some (.int .i64 l[i]) := by
  obtain ⟨b, o, e, hb, hc⟩ := h.cells i hi
  have := hc 0 _ rfl
  exact ⟨b, o, e, hb, by simpa [eI] using this⟩
theorem Rd.byte {w : World} {p : Option Addr} {c : Nat} {l : List Int} (h : Rd eB w p c l) (i : Nat) (hi : i < l.length) :
    ∃ b o, p = some ⟨b, o, none⟩ ∧ b < w.heap.size ∧ w.cell? ⟨b, o + i, none⟩ = some (.int .u8 l[i]) := by
  obtain ⟨b, o, e, hb, hc⟩ := h.cells i hi
  have := hc 0 _ rfl
  exact ⟨b, o, e, hb, by simpa [eB] using this⟩
/-- the two cells of a semaphore -/
theorem Rd.sem {w : World} {p : Option Addr} {c : Nat} {l : List Sm} (h : Rd eS w p c l) (i : Nat) (hi : i < l.length) :
    ∃ b o, p = some ⟨b, o, none⟩ ∧ b < w.heap.size ∧ w.cell? ⟨b, o + i * 2, none⟩ = some (.int .i64 l[i].1) ∧ w.cell? ⟨b, o + i * 2 + 1, none⟩ = some (.int .i64 l[i].2) := by
  obtain ⟨b, o, e, hb, hc⟩ := h.cells i hi
  exact ⟨b, o, e, hb, hc 0 _ rfl, hc 1 _ rfl⟩
theorem heap_at {w : World} {o : Obj} {k : Nat} (h : w.heap.size = k) : (w.alloc o).heap[k]? = some o := by subst h; exact heap_alloc_new w o
theorem own_blockg {α : Type} {E : Elt α} {w : World} {base g : Nat} {cs : Array Value} {l : List α} {e : TypeId} (hs : w.heap.size = g) (hb : base ≤ g) (hl : cs.toList = fl E l) (n : Nat) (hn : l.length = n) (hm : n ≤ maxLen) : Own E (w.alloc (.cells cs e)) base e (some ⟨g, 0, none⟩) n l := by
  subst hs
  exact own_block hb hl n hn hm

theorem flS_set : ∀ (l : List Sm) (i : Nat) (h : i < l.length) (v : Int), fl eS (l.set i (l[i].1, v)) = (fl eS l).set (i * 2 + 1) (.int .i64 v)
  | y :: r, 0, _, v => by simp [fl, eS]
  | y :: r, i + 1, hi, v => by
    have ih := flS_set r i (by simpa using hi) v
    have e : (i + 1) * 2 + 1 = i * 2 + 1 + 2 := by omega
    show eS.enc y ++ fl eS (r.set i _) = _
    simp only [List.getElem_cons_succ]
    rw [ih, e]
    rfl
/-- A store of a holder into an own row. -/
theorem own_hold {w : World} {base : Nat} {e : TypeId} {p : Option Addr} {c : Nat} {l : List Sm} (h : Own eS w base e p c l) (i : Nat) (hi : i < l.length) :
    ∃ b, p = some ⟨b, 0, none⟩ ∧ base ≤ b ∧ b < w.heap.size ∧ (∀ j, w.frozen? ⟨b, j, none⟩ = false) ∧ (w.cell? ⟨b, i * 2, none⟩ = some (.int .i64 l[i].1) ∧ w.cell? ⟨b, i * 2 + 1, none⟩ = some (.int .i64 l[i].2)) ∧
      ∀ v : Int, Own eS (w.setCell ⟨b, i * 2 + 1, none⟩ (.int .i64 v)) base e p c (l.set i (l[i].1, v)) := by
  have hc := (own_rd h).sem i hi
  rcases h.2 with ⟨h1, h2⟩ | ⟨g, cap, cur, h1, h2, h3, h4, h5, h6, h7⟩
  · simp only [Value.slice.injEq] at h1
    omega
  · simp only [Value.slice.injEq, true_and] at h1
    obtain ⟨rfl, rfl⟩ := h1
    obtain ⟨b', o', e', hb, c0, c1⟩ := hc
    cases e'
    rw [Nat.zero_add] at c0 c1
    refine ⟨g, rfl, h2, (Array.getElem?_eq_some_iff.1 h3).1, fun j => by simp [World.frozen?, h3], ⟨c0, c1⟩, fun v => ?_⟩
    rw [setCell_eq_setRow w g (i * 2 + 1) _ _ _ _ h3]
    have g1 := setRow_heap w g _ (cur.setIfInBounds (i * 2 + 1) (.int .i64 v)) e _ h3
    refine ⟨fl_length eS _, .inr ⟨g, c, _, by simp, h2, g1, by simpa using h4, h5, by simpa using h6, ?_⟩⟩
    rw [flS_set l i hi v, ← h7]
    simp only [Array.toList_setIfInBounds, List.length_set, List.take_set]
end Go.Proofs.Ytfankdhkcjknaaa
