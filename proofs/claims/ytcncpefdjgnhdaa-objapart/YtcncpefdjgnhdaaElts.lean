/-
  Rows of who waits, of integers, of bools, of handles, of things, of rows; blocks that are known whole; stores.
-/
import Derived.Test.YtcncpefdjgnhdaaParts
import Derived.Test.YtcncpefdjgnhdaaChecked
import Derived.Test.YtcncpefdjgnhdaaMath
import Derived.Deep.QuietTactic
import Derived.BigQuiet
import Derived.Deep.RegionHeld3
import Derived.Deep.RegionLaw
import Derived.Deep.DrawnRows
import Derived.WalkLawsBesides
import Derived.Lib.SliceRun
import Derived.Lib.Overlaps
import Derived.WalkSpells
namespace Go.Proofs.Ytcncpefdjgnhdaa
open Go.ChangeShapes Go.WideShapes Go.ChangeAt Go.RowKit
attribute [local go_sem ↓] Go.wp_at_zero Go.wp_at_succ

theorem info_parts {o : Option TypeInfo} {z : Option Value} {s b : Nat} (h : o.map (fun i => (i.zero, i.size, i.bytes)) = some (z, s, b)) : ∃ i, o = some i ∧ i.zero = z ∧ i.size = s ∧ i.bytes = b := by
  cases o with
  | none => simp at h
  | some i => simp at h; exact ⟨i, rfl, h.1, h.2.1, h.2.2⟩
def eW : Elt Wt := ⟨2, fun x => [.int .i64 x.1, .int .u32 (x.2 : Int)], fun _ => rfl, by intro x v hv; simp at hv; rcases hv with rfl | rfl <;> rfl, by decide⟩
def eI : Elt Int := ⟨1, fun x => [.int .i64 x], fun _ => rfl, by intro x v hv; simp at hv; subst hv; rfl, by decide⟩
def eB : Elt Bool := ⟨1, fun x => [.bool x], fun _ => rfl, by intro x v hv; simp at hv; subst hv; rfl, by decide⟩
/-- a handle -/
def eH : Elt (Int × Int) := ⟨2, fun x => [.int .i64 x.1, .int .i64 x.2], fun _ => rfl, by intro x v hv; simp at hv; rcases hv with rfl | rfl <;> rfl, by decide⟩
/-- a slice, as a cell -/
def eS : Elt (Option Addr × Nat × Nat) := ⟨1, fun x => [.slice x.1 x.2.1 x.2.2], fun _ => rfl, by intro x v hv; simp at hv; subst hv; rfl, by decide⟩
/-- a thing's cells -/
structure Tc where
  k : Int
  a : Int
  g : Int
  c : Int
  h : Int
  lp : Option Addr
  ln : Nat
  lc : Nat
  wp : Option Addr
  wn : Nat
  wc : Nat
  b : Nat
  fp : Option Addr
  fn : Nat
  fc : Nat
  s : Nat
def tcs (x : Tc) : List Value := [.int .i64 x.k, .int .i64 x.a, .int .i64 x.g, .int .i64 x.c, .int .i64 x.h, .slice x.lp x.ln x.lc, .slice x.wp x.wn x.wc, .int .u32 (x.b : Int), .slice x.fp x.fn x.fc, .int .u32 (x.s : Int)]
def eT : Elt Tc := ⟨10, tcs, fun _ => rfl, by intro x v hv; simp [tcs] at hv; rcases hv with rfl | rfl | rfl | rfl | rfl | rfl | rfl | rfl | rfl | rfl <;> rfl, by decide⟩
/-- a thing of which nothing is said -/
def tc0 : Tc := ⟨0, 0, 0, 0, 0, none, 0, 0, none, 0, 0, 0, none, 0, 0, 0⟩
theorem Try.info138 : (Try.prog.info? 138).map (fun i => (i.zero, i.size, i.bytes)) = some (some (.agg #[.int .i64 0, .int .u32 0]), 2, 16) := by kernel_rfl
theorem Try.info3 : (Try.prog.info? 3).map (fun i => (i.zero, i.size, i.bytes)) = some (some (.int .i64 0), 1, 8) := by kernel_rfl
theorem Try.info2 : (Try.prog.info? 2).map (fun i => (i.zero, i.size, i.bytes)) = some (some (.int .i64 0), 1, 8) := by kernel_rfl
theorem Try.info4 : (Try.prog.info? 4).map (fun i => (i.zero, i.size, i.bytes)) = some (some (.bool false), 1, 1) := by kernel_rfl
theorem Try.info38 : (Try.prog.info? 38).map (fun i => (i.zero, i.size, i.bytes)) = some (some (.agg #[.int .i64 0, .int .i64 0]), 2, 16) := by kernel_rfl
theorem Try.info24 : (Try.prog.info? 24).map (fun i => (i.zero, i.size, i.bytes)) = some (some (.slice none 0 0), 1, 24) := by kernel_rfl
theorem Try.info58 : (Try.prog.info? 58).map (fun i => (i.zero, i.size, i.bytes)) = some (some (.agg #[.int .i64 0, .int .i64 0, .int .i64 0, .int .i64 0, .int .i64 0, .slice none 0 0, .slice none 0 0, .int .u32 0, .slice none 0 0, .int .u32 0]), 10, 128) := by kernel_rfl
theorem Try.info56 : (Try.prog.info? 56).map (fun i => (i.zero, i.size, i.bytes)) = some (some (.agg #[.int .i64 0, .int .i64 0, .int .i64 0, .int .i64 0, .int .i64 0, .slice none 0 0, .slice none 0 0, .int .u32 0, .slice none 0 0, .int .u32 0]), 10, 128) := by kernel_rfl
theorem tW : Ty Try.prog eW 45 138 := by
  obtain ⟨i, hi, h0, h1, h2⟩ := info_parts Try.info138
  exact ⟨Try.underlying45, i, _, hi, h0, h1, rfl, by omega⟩
theorem tI : Ty Try.prog eI 24 3 := by
  obtain ⟨i, hi, h0, h1, h2⟩ := info_parts Try.info3
  exact ⟨Try.underlying24, i, _, hi, h0, h1, rfl, by omega⟩
theorem tL : Ty Try.prog eI 41 2 := by
  obtain ⟨i, hi, h0, h1, h2⟩ := info_parts Try.info2
  exact ⟨Try.underlying41, i, _, hi, h0, h1, rfl, by omega⟩
theorem tB : Ty Try.prog eB 25 4 := by
  obtain ⟨i, hi, h0, h1, h2⟩ := info_parts Try.info4
  exact ⟨Try.underlying25, i, _, hi, h0, h1, rfl, by omega⟩
theorem tH : Ty Try.prog eH 88 38 := by
  obtain ⟨i, hi, h0, h1, h2⟩ := info_parts Try.info38
  exact ⟨Try.underlying88, i, _, hi, h0, h1, rfl, by omega⟩
theorem tS : Ty Try.prog eS 65 24 := by
  obtain ⟨i, hi, h0, h1, h2⟩ := info_parts Try.info24
  exact ⟨Try.underlying65, i, _, hi, h0, h1, rfl, by omega⟩
theorem tT : Ty Try.prog eT 28 58 := by
  obtain ⟨i, hi, h0, h1, h2⟩ := info_parts Try.info58
  exact ⟨Try.underlying28, i, _, hi, h0, h1, rfl, by omega⟩
theorem tD : Ty Try.prog eT 33 56 := by
  obtain ⟨i, hi, h0, h1, h2⟩ := info_parts Try.info56
  exact ⟨Try.underlying33, i, _, hi, h0, h1, rfl, by omega⟩
theorem Rd.num {w : World} {p : Option Addr} {c : Nat} {l : List Int} (h : Rd eI w p c l) (i : Nat) (hi : i < l.length) :
    ∃ b o, p = some ⟨b, o, none⟩ ∧ b < w.heap.size ∧ w.cell? ⟨b, o + i, none⟩ = some (.int .i64 l[i]) := by
  obtain ⟨b, o, e, hb, hc⟩ := h.cells i hi
  have := hc 0 _ rfl
  exact ⟨b, o, e, hb, by simpa [eI] using this⟩
/-- one that waits: its client, its mask -/
theorem Rd.wt {w : World} {p : Option Addr} {c : Nat} {l : List Wt} (h : Rd eW w p c l) (i : Nat) (hi : i < l.length) :
    ∃ b o, p = some ⟨b, o, none⟩ ∧ b < w.heap.size ∧ w.cell? ⟨b, o + i * 2, none⟩ = some (.int .i64 (l[i]).1) ∧ w.cell? ⟨b, o + i * 2 + 1, none⟩ = some (.int .u32 (((l[i]).2 : Nat) : Int)) := by
  obtain ⟨b, o, e, hb, hc⟩ := h.cells i hi
  have h0 := hc 0 _ rfl
  have h1 := hc 1 _ rfl
  exact ⟨b, o, e, hb, by simpa [eW] using h0, by simpa [eW] using h1⟩
theorem Rd.bool {w : World} {p : Option Addr} {c : Nat} {l : List Bool} (h : Rd eB w p c l) (i : Nat) (hi : i < l.length) :
    ∃ b o, p = some ⟨b, o, none⟩ ∧ b < w.heap.size ∧ w.cell? ⟨b, o + i, none⟩ = some (.bool l[i]) := by
  obtain ⟨b, o, e, hb, hc⟩ := h.cells i hi
  have := hc 0 _ rfl
  exact ⟨b, o, e, hb, by simpa [eB] using this⟩
theorem Rd.row {w : World} {p : Option Addr} {c : Nat} {l : List (Option Addr × Nat × Nat)} (h : Rd eS w p c l) (i : Nat) (hi : i < l.length) :
    ∃ b o, p = some ⟨b, o, none⟩ ∧ b < w.heap.size ∧ w.cell? ⟨b, o + i, none⟩ = some (.slice l[i].1 l[i].2.1 l[i].2.2) := by
  obtain ⟨b, o, e, hb, hc⟩ := h.cells i hi
  have := hc 0 _ rfl
  exact ⟨b, o, e, hb, by simpa [eS] using this⟩
theorem Rd.hnd {w : World} {p : Option Addr} {c : Nat} {l : List (Int × Int)} (h : Rd eH w p c l) (i : Nat) (hi : i < l.length) :
    ∃ b o, p = some ⟨b, o, none⟩ ∧ b < w.heap.size ∧ w.cell? ⟨b, o + i * 2, none⟩ = some (.int .i64 (l[i]).1) ∧ w.cell? ⟨b, o + i * 2 + 1, none⟩ = some (.int .i64 (l[i]).2) := by
  obtain ⟨b, o, e, hb, hc⟩ := h.cells i hi
  have h0 := hc 0 _ rfl
  have h1 := hc 1 _ rfl
  exact ⟨b, o, e, hb, by simpa [eH] using h0, by simpa [eH] using h1⟩
/-- the ten cells of a thing at b, o -/
structure At10 (w : World) (b o : Nat) (x : Tc) : Prop where
  c0 : w.cell? ⟨b, o, none⟩ = some (.int .i64 x.k)
  c1 : w.cell? ⟨b, o + 1, none⟩ = some (.int .i64 x.a)
  c2 : w.cell? ⟨b, o + 2, none⟩ = some (.int .i64 x.g)
  c3 : w.cell? ⟨b, o + 3, none⟩ = some (.int .i64 x.c)
  c4 : w.cell? ⟨b, o + 4, none⟩ = some (.int .i64 x.h)
  c5 : w.cell? ⟨b, o + 5, none⟩ = some (.slice x.lp x.ln x.lc)
  c6 : w.cell? ⟨b, o + 6, none⟩ = some (.slice x.wp x.wn x.wc)
  c7 : w.cell? ⟨b, o + 7, none⟩ = some (.int .u32 (x.b : Int))
  c8 : w.cell? ⟨b, o + 8, none⟩ = some (.slice x.fp x.fn x.fc)
  c9 : w.cell? ⟨b, o + 9, none⟩ = some (.int .u32 (x.s : Int))
theorem Rd.thing {w : World} {p : Option Addr} {c : Nat} {l : List Tc} (h : Rd eT w p c l) (i : Nat) (hi : i < l.length) :
    ∃ b o, p = some ⟨b, o, none⟩ ∧ b < w.heap.size ∧ At10 w b (o + i * 10) l[i] := by
  obtain ⟨b, o, e, hb, hc⟩ := h.cells i hi
  exact ⟨b, o, e, hb, hc 0 _ rfl, hc 1 _ rfl, hc 2 _ rfl, hc 3 _ rfl, hc 4 _ rfl, hc 5 _ rfl, hc 6 _ rfl, hc 7 _ rfl, hc 8 _ rfl, hc 9 _ rfl⟩
theorem heap_at {w : World} {o : Obj} {k : Nat} (h : w.heap.size = k) : (w.alloc o).heap[k]? = some o := by subst h; exact heap_alloc_new w o
theorem own_blockg {α : Type} {E : Elt α} {w : World} {base g : Nat} {cs : Array Value} {l : List α} {e : TypeId} (hs : w.heap.size = g) (hb : base ≤ g) (hl : cs.toList = fl E l) (n : Nat) (hn : l.length = n) (hm : n ≤ maxLen) : Own E (w.alloc (.cells cs e)) base e (some ⟨g, 0, none⟩) n l := by
  subst hs
  exact own_block hb hl n hn hm
theorem own_lt {α : Type} {E : Elt α} {w : World} {base : Nat} {e : TypeId} {b o d : Nat} {l : List α} (h : Own E w base e (some ⟨b, o, none⟩) d l) : b < w.heap.size := by
  rcases h.2 with ⟨h1, _⟩ | ⟨g', cap, cur, h1, h2, h3, _⟩
  · simp at h1
  · simp at h1
    have := (Array.getElem?_eq_some_iff.1 h3).1
    omega
theorem own_ge {α : Type} {E : Elt α} {w : World} {base : Nat} {e : TypeId} {b o d : Nat} {l : List α} (h : Own E w base e (some ⟨b, o, none⟩) d l) : base ≤ b := by
  rcases h.2 with ⟨h1, _⟩ | ⟨g', cap, cur, h1, h2, h3, _⟩
  · simp at h1
  · simp at h1
    omega
theorem Far.low {α : Type} {E : Elt α} {w : World} {base : Nat} {e : TypeId} {q : Option Addr} {d : Nat} {l : List α} (h : Own E w base e q d l) {g : Nat} (hg : g < base) : Far q g := by
  rintro b o rfl
  have := own_ge h
  omega
theorem Far.high {α : Type} {E : Elt α} {w : World} {base : Nat} {e : TypeId} {q : Option Addr} {d : Nat} {l : List α} (h : Own E w base e q d l) {g : Nat} (hg : w.heap.size ≤ g) : Far q g := by
  rintro b o rfl
  have := own_lt h
  omega
/-- A block that is known whole. -/
def Lv (w : World) (g : Nat) (cs : Array Value) (e : TypeId) : Prop := w.heap[g]? = some (.cells cs e (0, 0))
theorem Lv.lt {w : World} {g : Nat} {cs : Array Value} {e : TypeId} (h : Lv w g cs e) : g < w.heap.size := (Array.getElem?_eq_some_iff.1 h).1
theorem Lv.below {w w' : World} {g : Nat} {cs : Array Value} {e : TypeId} (h : Lv w g cs e) (hb : Below w.heap.size w w') : Lv w' g cs e := (hb.block g h.lt).trans h
theorem Lv.new (w : World) (cs : Array Value) (e : TypeId) : Lv (w.alloc (.cells cs e)) w.heap.size cs e := heap_alloc_new _ _
theorem Lv.fz {w : World} {g : Nat} {cs : Array Value} {e : TypeId} (h : Lv w g cs e) (j : Nat) : w.frozen? ⟨g, j, none⟩ = false := by
  have h' : w.heap[g]? = some (.cells cs e (0, 0)) := h
  simp [World.frozen?, h']
theorem Lv.c {w : World} {g : Nat} {cs : Array Value} {e : TypeId} (h : Lv w g cs e) (j : Nat) {v : Value} (hv : cs[j]? = some v) : w.cell? ⟨g, j, none⟩ = some v := by
  rw [cell_of_row _ _ _ _ _ _ h]
  exact hv
theorem Lv.set {w : World} {g : Nat} {cs : Array Value} {e : TypeId} (h : Lv w g cs e) (j : Nat) (v : Value) : Lv (w.setCell ⟨g, j, none⟩ v) g (cs.setIfInBounds j v) e := heap_setCell_same _ _ _ _ _ _ h
theorem Lv.far {w : World} {g : Nat} {cs : Array Value} {e : TypeId} (h : Lv w g cs e) {a : Addr} (hn : a.block ≠ g) (v : Value) : Lv (w.setCell a v) g cs e := (Below.heap_setCell w a v g (fun e => hn e.symm)).trans h
theorem Lv.draw {w : World} {g : Nat} {cs : Array Value} {e : TypeId} (h : Lv w g cs e) : Lv w.drew g cs e := h
theorem bel_self (w : World) (o : Obj) : Below w.heap.size w (w.alloc o) := (Below.refl _ _).alloc (Nat.le_refl _) _
/-- A row that lies elsewhere, behind a store. -/
theorem own_setFar {α : Type} {E : Elt α} {w : World} {base g : Nat} {e : TypeId} {p : Option Addr} {c : Nat} {l : List α} (h : Own E w base e p c l) (hf : Far p g) (j : Nat) (v : Value) : Own E (w.setCell ⟨g, j, none⟩ v) base e p c l := by
  rcases h.2 with ⟨h1, h2⟩ | ⟨b, cap, cur, h1, h2, h3, r⟩
  · exact ⟨h.1, .inl ⟨h1, h2⟩⟩
  · have hb : b ≠ g := by
      simp only [Value.slice.injEq] at h1
      exact hf b 0 h1.1
    exact ⟨h.1, .inr ⟨b, cap, cur, h1, h2, (Below.heap_setCell w ⟨g, j, none⟩ v b hb).trans h3, r⟩⟩
theorem rd_setFar {α : Type} {E : Elt α} {w : World} {g : Nat} {p : Option Addr} {c : Nat} {l : List α} (h : Rd E w p c l) (hf : Far p g) (j : Nat) (v : Value) : Rd E (w.setCell ⟨g, j, none⟩ v) p c l :=
  rd_kp h (Kp.set rfl v) (fun b o e _ => hf b o e)
/-- An own row is there whatever else turns, if its own block is as it was. -/
theorem own_block_eq {α : Type} {E : Elt α} {w w' : World} {base : Nat} {e : TypeId} {p : Option Addr} {c : Nat} {l : List α} (h : Own E w base e p c l) (hh : ∀ b o, p = some ⟨b, o, none⟩ → w'.heap[b]? = w.heap[b]?) : Own E w' base e p c l := by
  rcases h.2 with ⟨h1, h2⟩ | ⟨b, cap, cur, h1, h2, h3, r⟩
  · exact ⟨h.1, .inl ⟨h1, h2⟩⟩
  · exact ⟨h.1, .inr ⟨b, cap, cur, h1, h2, (hh b 0 (by simp only [Value.slice.injEq] at h1; exact h1.1)).trans h3, r⟩⟩
/-- A row is appended to an empty row of its own: nothing old turns. -/
theorem run_fresh {α : Type} {P : Program} {E : Elt α} {t e : TypeId} (T : Ty P E t e) (w : World) (ty : TypeId) (base g : Nat) (h : Lv w g #[] e) (hb : base ≤ g) (q : Option Addr) (d : Nat) (m : List α) (hr : Rd E w q d m) (hlen : m.length ≤ 2000) :
    ∃ p' c' w', (Builtin.append_ #[t, t] ty #[.slice (some ⟨g, 0, none⟩) 0 0, .slice q m.length d]).run P w = .ok (.slice p' m.length c') w' ∧ Own E w' base e p' c' m ∧ Below w.heap.size w w' ∧ (p' = some ⟨g, 0, none⟩ ∨ Own E w' w.heap.size e p' c' m) := by
  have hown : Own E w base e (some ⟨g, 0, none⟩) 0 [] := ⟨by simp [fl], .inr ⟨g, 0, #[], rfl, hb, h, Nat.le_refl _, Nat.zero_le _, by simp, by simp [fl]⟩⟩
  obtain ⟨i, z, hi, hz0, hz1, hz3, hz2⟩ := T.info
  by_cases h0 : m = []
  · subst h0
    refine ⟨some ⟨g, 0, none⟩, 0, w, ?_, hown, Below.refl _ _, .inl rfl⟩
    rcases hr.at_ with ⟨rfl, _, rfl⟩ | ⟨b, o, s, rfl, _, _⟩
    all_goals simp [Builtin.append_, run_underlying T.und, sizeOf, typeInfo, hi, Builtin.lenOf, Builtin.firstCells, storeCells, loadCells, loadCellsFrom]
  · have hpos : 0 < m.length := List.length_pos_iff.2 h0
    have hgl := h.lt
    obtain ⟨b, o, rfl, hbl, hc⟩ := hr.pos hpos
    obtain ⟨p', c', w', hrun, h1, h2, h3⟩ := run_app T w ty w.heap.size none 0 [] (own_nil _ _ _) (some ⟨b, o, none⟩) d m hr (by simpa using hlen) (Nat.le_refl _)
    simp only [List.nil_append, List.length_nil, Nat.zero_add] at hrun h1
    have hby : m.length * i.bytes ≤ 281474976710656 := by
      have := Nat.mul_le_mul hlen hz2
      omega
    have hl63 : ((m.length : Nat) : Int) ≤ 9223372036854775807 := by omega
    have hnw : ∀ j u, (fl E m)[j]? = some u → w.cell? ((⟨b, o, none⟩ : Addr).add j) = some u := fun j u hu => by rw [add_plain]; exact hc j u hu
    have r1 := run_append_nil (P := P) (w := w) t ty e i z T.und hi hz0 ⟨b, o, none⟩ m.length d (fl E m) (by rw [fl_length, hz1]) hnw hpos hl63 hby
    have r2 := run_append_grow (P := P) (w := w) t ty e i z T.und hi hz0 ⟨g, 0, none⟩ 0 0 [] (by simp) (by simp) ⟨b, o, none⟩ m.length d (fl E m) (by rw [fl_length, hz1]) hnw (by omega) (by simpa using hl63) (by rw [Nat.zero_add, nextslicecap_zero hpos]; exact hby)
    have hrr : (Builtin.append_ #[t, t] ty #[.slice (some ⟨g, 0, none⟩) 0 0, .slice (some ⟨b, o, none⟩) m.length d]).run P w = (Builtin.append_ #[t, t] ty #[.slice none 0 0, .slice (some ⟨b, o, none⟩) m.length d]).run P w := by
      rw [r1, r2]
      simp
    exact ⟨p', c', w', hrr.trans hrun, own_mono h1 (Nat.le_trans hb (Nat.le_of_lt hgl)), h2, .inr h1⟩
theorem run_freshN {α : Type} {P : Program} {E : Elt α} {t e : TypeId} (T : Ty P E t e) (w : World) (ty : TypeId) (base g : Nat) (h : Lv w g #[] e) (hb : base ≤ g) (q : Option Addr) (d : Nat) (m : List α) (N : Nat) (hN : m.length = N) (hr : Rd E w q d m) (hlen : N ≤ 2000) :
    ∃ p' c' w', (Builtin.append_ #[t, t] ty #[.slice (some ⟨g, 0, none⟩) 0 0, .slice q N d]).run P w = .ok (.slice p' N c') w' ∧ Own E w' base e p' c' m ∧ Below w.heap.size w w' ∧ (p' = some ⟨g, 0, none⟩ ∨ Own E w' w.heap.size e p' c' m) := by
  subst hN
  exact run_fresh T w ty base g h hb q d m hr hlen
theorem step_fresh {α : Type} {P : Program} {E : Elt α} {t e : TypeId} (T : Ty P E t e) (w : World) {ops : Array Oper} {o : Oper} {a : Act} {K : Act → World → Prop} {Q : Exit → Act → World → Prop} {G : Prop} (hgd : o.guard = none) (s x : Operand)
    (ho : o.op = .call { callee := .builtin .append, args := #[s, x], argTypes := #[t, t] }) (base g : Nat) (h : Lv w g #[] e) (hb : base ≤ g) (hs : a.eval s = .slice (some ⟨g, 0, none⟩) 0 0)
    (q : Option Addr) (d : Nat) (m : List α) (N : Nat) (hN : m.length = N) (hx : a.eval x = .slice q N d) (hr : Rd E w q d m) (hlen : N ≤ 2000)
    (hK : ∀ p' c' w', Own E w' base e p' c' m → Below w.heap.size w w' → (p' = some ⟨g, 0, none⟩ ∨ Own E w' w.heap.size e p' c' m) → K (a.put o.dst (.slice p' N c')) w') :
    if Region.wanted o (yielded ops a.tmps) = true then Oper.wp P o a w K Q else G := by
  obtain ⟨p', c', w', hrun, h1, h2, h3⟩ := run_freshN T w o.type base g h hb q d m N hN hr hlen
  exact step_append_run hgd s x t t ho _ _ hs hx hrun (hK p' c' w' h1 h2 h3)
/-- Two own rows in unlike blocks. -/
def Two (p q : Option Addr) : Prop := ∀ b o, q = some ⟨b, o, none⟩ → Far p b
theorem Two.symm {p q : Option Addr} (h : Two p q) : Two q p := fun b o e b' o' e' he => h b' o' e' b o e he.symm
theorem Two.nil (q : Option Addr) : Two none q := fun b o e b' o' e' => by cases e'
theorem Own.grew {α : Type} {E : Elt α} {w w' : World} {base : Nat} {e : TypeId} {p p' q : Option Addr} {d : Nat} {L : List α} (h : Own E w base e q d L) (hg : Grew w w' p p') (ht : Two p q) : Own E w' base e q d L :=
  own_block_eq h fun b o hq => hg.stays b (by subst hq; exact own_lt h) (ht b o hq)
theorem Two.grew {α : Type} {E : Elt α} {w w' : World} {base : Nat} {e : TypeId} {p p' q : Option Addr} {d : Nat} {L : List α} (h : Own E w base e q d L) (hg : Grew w w' p p') (ht : Two p q) : Two p' q := fun b o hq =>
  hg.far b (by subst hq; exact own_lt h) (ht b o hq)
theorem Lv.grew {w w' : World} {g : Nat} {cs : Array Value} {e : TypeId} {p p' : Option Addr} (h : Lv w g cs e) (hg : Grew w w' p p') (hf : Far p g) : Lv w' g cs e := (hg.stays g h.lt hf).trans h
/-- Blocks of unlike element types are apart. -/
theorem Far.type {α : Type} {E : Elt α} {w : World} {base : Nat} {e t : TypeId} {q : Option Addr} {d : Nat} {l : List α} (h : Own E w base e q d l) {g : Nat} {cs : Array Value} (hl : Lv w g cs t) (hne : e ≠ t) : Far q g := by
  rintro b o rfl
  rintro rfl
  rcases h.2 with ⟨h1, _⟩ | ⟨g', cap, cur, h1, h2, h3, _⟩
  · simp at h1
  · simp at h1
    obtain ⟨⟨rfl, rfl⟩, _⟩ := h1
    have := h3.symm.trans hl
    simp at this
    exact hne this.2
theorem Two.type {α β : Type} {E : Elt α} {F : Elt β} {w : World} {base base2 : Nat} {e t : TypeId} {p q : Option Addr} {c d : Nat} {l : List α} {m : List β} (h : Own E w base e p c l) (h' : Own F w base2 t q d m) (hne : e ≠ t) : Two p q := by
  rintro b o rfl
  rcases h'.2 with ⟨h1, _⟩ | ⟨g', cap, cur, h1, h2, h3, _⟩
  · simp at h1
  · simp at h1
    obtain ⟨⟨rfl, rfl⟩, _⟩ := h1
    exact Far.type h h3 hne
/-- p lies in blocks from B on -/
def Nw (B : Nat) (p : Option Addr) : Prop := ∀ b o, p = some ⟨b, o, none⟩ → B ≤ b
theorem Nw.own {α : Type} {E : Elt α} {w : World} {base B : Nat} {e : TypeId} {q : Option Addr} {d : Nat} {l : List α} (h : Own E w base e q d l) (hB : B ≤ base) : Nw B q := by
  rintro b o rfl
  have := own_ge h
  omega
theorem Nw.far {B g : Nat} {p : Option Addr} (h : Nw B p) (hg : g < B) : Far p g := fun b o e he => by
  have := h b o e
  omega
/-- a variable that is a thing -/
def Vt (w : World) (g : Nat) (x : Tc) (e : TypeId) : Prop := Lv w g #[.int .i64 x.k, .int .i64 x.a, .int .i64 x.g, .int .i64 x.c, .int .i64 x.h, .slice x.lp x.ln x.lc, .slice x.wp x.wn x.wc, .int .u32 (x.b : Int), .slice x.fp x.fn x.fc, .int .u32 (x.s : Int)] e
structure Av (w : World) (b : Nat) (x : Tc) : Prop where
  c0 : w.cell? ⟨b, 0, none⟩ = some (.int .i64 x.k)
  c1 : w.cell? ⟨b, 1, none⟩ = some (.int .i64 x.a)
  c2 : w.cell? ⟨b, 2, none⟩ = some (.int .i64 x.g)
  c3 : w.cell? ⟨b, 3, none⟩ = some (.int .i64 x.c)
  c4 : w.cell? ⟨b, 4, none⟩ = some (.int .i64 x.h)
  c5 : w.cell? ⟨b, 5, none⟩ = some (.slice x.lp x.ln x.lc)
  c6 : w.cell? ⟨b, 6, none⟩ = some (.slice x.wp x.wn x.wc)
  c7 : w.cell? ⟨b, 7, none⟩ = some (.int .u32 (x.b : Int))
  c8 : w.cell? ⟨b, 8, none⟩ = some (.slice x.fp x.fn x.fc)
  c9 : w.cell? ⟨b, 9, none⟩ = some (.int .u32 (x.s : Int))
theorem Vt.at {w : World} {g : Nat} {x : Tc} {e : TypeId} (h : Vt w g x e) : Av w g x := ⟨Lv.c h 0 rfl, Lv.c h 1 rfl, Lv.c h 2 rfl, Lv.c h 3 rfl, Lv.c h 4 rfl, Lv.c h 5 rfl, Lv.c h 6 rfl, Lv.c h 7 rfl, Lv.c h 8 rfl, Lv.c h 9 rfl⟩
theorem Vt.below {w w' : World} {g : Nat} {x : Tc} {e : TypeId} (h : Vt w g x e) (hb : Below w.heap.size w w') : Vt w' g x e := Lv.below h hb
theorem Vt.lt {w : World} {g : Nat} {x : Tc} {e : TypeId} (h : Vt w g x e) : g < w.heap.size := Lv.lt h
theorem Vt.new (w : World) (x : Tc) (e : TypeId) : Vt (w.alloc (.cells #[.int .i64 x.k, .int .i64 x.a, .int .i64 x.g, .int .i64 x.c, .int .i64 x.h, .slice x.lp x.ln x.lc, .slice x.wp x.wn x.wc, .int .u32 (x.b : Int), .slice x.fp x.fn x.fc, .int .u32 (x.s : Int)] e)) w.heap.size x e := Lv.new _ _ _
theorem Vt.z {w : World} {g : Nat} {x : Tc} {e : TypeId} (h : Vt w g x e) (j : Nat) : w.frozen? ⟨g, j, none⟩ = false := Lv.fz h j
/-- a variable that is a table -/
def Vb (w : World) (g : Nat) (gp : Option Addr) (gn gc : Nat) (ip : Option Addr) (im ic : Nat) (tp : Option Addr) (tn tc : Nat) (e : TypeId) : Prop := Lv w g #[.slice gp gn gc, .slice ip im ic, .slice tp tn tc] e
/-- The cells of x read as t. -/
structure Ok (w : World) (x : Tc) (t : Th) : Prop where
  k : x.k = t.k
  a : x.a = t.a
  g : x.g = t.g
  c : x.c = t.c
  h : x.h = t.h
  ln : t.L.length = x.ln
  wn : t.W.length = x.wn
  fn : t.F.length = x.fn
  b : x.b = t.b
  s : x.s = t.s
  L : Rd eI w x.lp x.lc t.L
  W : Rd eI w x.wp x.wc t.W
  F : Rd eW w x.fp x.fc t.F
  l9 : x.ln ≤ 100
  w9 : x.wn ≤ 100
  f9 : x.fn ≤ 100
  b9 : x.b < 4294967296
  s9 : x.s < 4294967296
  U : UL t.F
theorem Ok.below {w w' : World} {x : Tc} {t : Th} (h : Ok w x t) (hb : Below w.heap.size w w') : Ok w' x t :=
  { h with L := h.L.below hb, W := h.W.below hb, F := h.F.below hb }
theorem Ok.nil (w : World) (k a g c : Int) (s : Nat) (hs : s < 4294967296) : Ok w ⟨k, a, g, c, 0, none, 0, 0, none, 0, 0, 0, none, 0, 0, s⟩ ⟨k, a, g, c, 0, [], [], 0, [], s⟩ :=
  ⟨rfl, rfl, rfl, rfl, rfl, rfl, rfl, rfl, rfl, rfl, Rd.nil w, Rd.nil w, Rd.nil w, Nat.zero_le _, Nat.zero_le _, Nat.zero_le _, by show (0 : Nat) < _; omega, hs, fun x hx => by cases hx⟩
theorem Ok.zero (w : World) : Ok w tc0 th0 := Ok.nil w 0 0 0 0 0 (by omega)
/-- another sum -/
theorem Ok.sum {w : World} {x : Tc} {t : Th} (h : Ok w x t) (s : Nat) (hs : s < 4294967296) : Ok w { x with s := s } { t with s := s } :=
  { h with s := rfl, s9 := hs }
/-- A row of things that reads as l. -/
def Ts (w : World) (xs : List Tc) (l : List Th) : Prop := xs.length = l.length ∧ ∀ (i : Nat) (h' : i < xs.length) (h : i < l.length), Ok w xs[i] l[i]
theorem Ts.below {w w' : World} {xs : List Tc} {l : List Th} (h : Ts w xs l) (hb : Below w.heap.size w w') : Ts w' xs l := ⟨h.1, fun i h1 h2 => (h.2 i h1 h2).below hb⟩
theorem Ts.set {w : World} {xs : List Tc} {l : List Th} (h : Ts w xs l) (n : Nat) {x : Tc} {t : Th} (ho : Ok w x t) : Ts w (xs.set n x) (l.set n t) :=
  ⟨by simp [h.1], fun i h1 h2 => by
    rw [List.getElem_set, List.getElem_set]
    split
    · exact ho
    · exact h.2 i (by simpa using h1) (by simpa using h2)⟩
theorem Ts.snoc {w : World} {xs : List Tc} {l : List Th} (h : Ts w xs l) {x : Tc} {t : Th} (ho : Ok w x t) : Ts w (xs ++ [x]) (l ++ [t]) :=
  ⟨by simp [h.1], fun i h1 h2 => by
    by_cases hi : i < l.length
    · rw [List.getElem_append_left (by rw [h.1]; exact hi), List.getElem_append_left hi]
      exact h.2 i (by rw [h.1]; exact hi) hi
    · have e : i = l.length := by simp at h2; omega
      subst e
      have e1 : (xs ++ [x])[l.length]'h1 = x := by simp [← h.1]
      have e2 : (l ++ [t])[l.length]'h2 = t := by simp
      rw [e1, e2]
      exact ho⟩
end Go.Proofs.Ytcncpefdjgnhdaa
