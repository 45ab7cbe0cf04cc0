/-
  Rows of integers, of bytes; blocks that are known whole.
-/
import Derived.Test.YtfghondhonflaaaParts
import Derived.Test.YtfghondhonflaaaChecked
import Derived.Deep.QuietTactic
import Derived.BigQuiet
import Derived.Deep.RegionHeld3
import Derived.Deep.RegionLaw
import Derived.Deep.DrawnRows
import Derived.WalkLawsBesides
import Derived.Lib.SliceRun
import Derived.Lib.Overlaps
import Derived.WalkSpells
namespace Go.Proofs.Ytfghondhonflaaa
open Go.ChangeShapes Go.WideShapes Go.ChangeAt Go.RowKit
attribute [local go_sem ↓] Go.wp_at_zero Go.wp_at_succ

theorem info_parts {o : Option TypeInfo} {z : Option Value} {s b : Nat} (h : o.map (fun i => (i.zero, i.size, i.bytes)) = some (z, s, b)) : ∃ i, o = some i ∧ i.zero = z ∧ i.size = s ∧ i.bytes = b := by
  cases o with
  | none => simp at h
  | some i => simp at h; exact ⟨i, rfl, h.1, h.2.1, h.2.2⟩
def eI : Elt Int := ⟨1, fun x => [.int .i64 x], fun _ => rfl, by intro x v hv; simp at hv; subst hv; rfl, by decide⟩
def eB : Elt Int := ⟨1, fun x => [.int .u8 x], fun _ => rfl, by intro x v hv; simp at hv; subst hv; rfl, by decide⟩
theorem Try.info2 : (Try.prog.info? 2).map (fun i => (i.zero, i.size, i.bytes)) = some (some (.int .i64 0), 1, 8) := by kernel_rfl
theorem Try.info3 : (Try.prog.info? 3).map (fun i => (i.zero, i.size, i.bytes)) = some (some (.int .i64 0), 1, 8) := by kernel_rfl
theorem tL : Ty Try.prog eI 22 2 := by
  obtain ⟨i, hi, h0, h1, h2⟩ := info_parts Try.info2
  exact ⟨Try.underlying22, i, _, hi, h0, h1, rfl, by omega⟩
theorem tI : Ty Try.prog eI 23 3 := by
  obtain ⟨i, hi, h0, h1, h2⟩ := info_parts Try.info3
  exact ⟨Try.underlying23, i, _, hi, h0, h1, rfl, by omega⟩
theorem flI : ∀ l : List Int, fl eI l = l.map (Value.int .i64)
  | [] => rfl
  | x :: r => by rw [fl, flI r]; rfl
theorem Rd.num {w : World} {p : Option Addr} {c : Nat} {l : List Int} (h : Rd eI w p c l) (i : Nat) (hi : i < l.length) :
    ∃ b o, p = some ⟨b, o, none⟩ ∧ b < w.heap.size ∧ w.cell? ⟨b, o + i, none⟩ = some (.int .i64 l[i]) := by
  obtain ⟨b, o, e, hb, hc⟩ := h.cells i hi
  have := hc 0 _ rfl
  exact ⟨b, o, e, hb, by simpa [eI] using this⟩
theorem Rd.byte {w : World} {p : Option Addr} {c : Nat} {l : List Int} (h : Rd eB w p c l) (i : Nat) (hi : i < l.length) :
    ∃ b o, p = some ⟨b, o, none⟩ ∧ b < w.heap.size ∧ w.cell? ⟨b, o + i, none⟩ = some (.int .u8 l[i]) := by
  obtain ⟨b, o, e, hb, hc⟩ := h.cells i hi
  have := hc 0 _ rfl
  exact ⟨b, o, e, hb, by simpa [eB] using this⟩
theorem heap_at {w : World} {o : Obj} {k : Nat} (h : w.heap.size = k) : (w.alloc o).heap[k]? = some o := by subst h; exact heap_alloc_new w o
theorem own_blockg {α : Type} {E : Elt α} {w : World} {base g : Nat} {cs : Array Value} {l : List α} {e : TypeId} (hs : w.heap.size = g) (hb : base ≤ g) (hl : cs.toList = fl E l) (n : Nat) (hn : l.length = n) (hm : n ≤ maxLen) : Own E (w.alloc (.cells cs e)) base e (some ⟨g, 0, none⟩) n l := by
  subst hs
  exact own_block hb hl n hn hm
theorem own_lt {α : Type} {E : Elt α} {w : World} {base : Nat} {e : TypeId} {b o d : Nat} {l : List α} (h : Own E w base e (some ⟨b, o, none⟩) d l) : b < w.heap.size := by
  rcases h.2 with ⟨h1, _⟩ | ⟨g', cap, cur, h1, h2, h3, _⟩
  · simp at h1
  · simp at h1
    have := (Array.getElem?_eq_some_iff.1 h3).1
    omega
theorem own_ge {α : Type} {E : Elt α} {w : World} {base : Nat} {e : TypeId} {b o d : Nat} {l : List α} (h : Own E w base e (some ⟨b, o, none⟩) d l) : base ≤ b := by
  rcases h.2 with ⟨h1, _⟩ | ⟨g', cap, cur, h1, h2, h3, _⟩
  · simp at h1
  · simp at h1
    omega
/-- p is no address in block g. -/
def Far (p : Option Addr) (g : Nat) : Prop := ∀ b o, p = some ⟨b, o, none⟩ → b ≠ g
theorem Far.low {α : Type} {E : Elt α} {w : World} {base : Nat} {e : TypeId} {q : Option Addr} {d : Nat} {l : List α} (h : Own E w base e q d l) {g : Nat} (hg : g < base) : Far q g := by
  rintro b o rfl
  have := own_ge h
  omega
theorem Far.high {α : Type} {E : Elt α} {w : World} {base : Nat} {e : TypeId} {q : Option Addr} {d : Nat} {l : List α} (h : Own E w base e q d l) {g : Nat} (hg : w.heap.size ≤ g) : Far q g := by
  rintro b o rfl
  have := own_lt h
  omega
/-- A block that is known whole. -/
def Lv (w : World) (g : Nat) (cs : Array Value) (e : TypeId) : Prop := w.heap[g]? = some (.cells cs e (0, 0))
theorem Lv.lt {w : World} {g : Nat} {cs : Array Value} {e : TypeId} (h : Lv w g cs e) : g < w.heap.size := (Array.getElem?_eq_some_iff.1 h).1
theorem Lv.below {w w' : World} {g : Nat} {cs : Array Value} {e : TypeId} (h : Lv w g cs e) (hb : Below w.heap.size w w') : Lv w' g cs e := (hb.block g h.lt).trans h
theorem Lv.new (w : World) (cs : Array Value) (e : TypeId) : Lv (w.alloc (.cells cs e)) w.heap.size cs e := heap_alloc_new _ _
theorem Lv.fz {w : World} {g : Nat} {cs : Array Value} {e : TypeId} (h : Lv w g cs e) (j : Nat) : w.frozen? ⟨g, j, none⟩ = false := by
  have h' : w.heap[g]? = some (.cells cs e (0, 0)) := h
  simp [World.frozen?, h']
theorem Lv.c {w : World} {g : Nat} {cs : Array Value} {e : TypeId} (h : Lv w g cs e) (j : Nat) {v : Value} (hv : cs[j]? = some v) : w.cell? ⟨g, j, none⟩ = some v := by
  rw [cell_of_row _ _ _ _ _ _ h]
  exact hv
theorem Lv.set {w : World} {g : Nat} {cs : Array Value} {e : TypeId} (h : Lv w g cs e) (j : Nat) (v : Value) : Lv (w.setCell ⟨g, j, none⟩ v) g (cs.setIfInBounds j v) e := heap_setCell_same _ _ _ _ _ _ h
theorem Lv.far {w : World} {g : Nat} {cs : Array Value} {e : TypeId} (h : Lv w g cs e) {a : Addr} (hn : a.block ≠ g) (v : Value) : Lv (w.setCell a v) g cs e := (Below.heap_setCell w a v g (fun e => hn e.symm)).trans h
theorem Lv.draw {w : World} {g : Nat} {cs : Array Value} {e : TypeId} (h : Lv w g cs e) : Lv w.drew g cs e := h
theorem bel_self (w : World) (o : Obj) : Below w.heap.size w (w.alloc o) := (Below.refl _ _).alloc (Nat.le_refl _) _
/-- A row that lies elsewhere, behind a store. -/
theorem own_setFar {α : Type} {E : Elt α} {w : World} {base g : Nat} {e : TypeId} {p : Option Addr} {c : Nat} {l : List α} (h : Own E w base e p c l) (hf : Far p g) (j : Nat) (v : Value) : Own E (w.setCell ⟨g, j, none⟩ v) base e p c l := by
  rcases h.2 with ⟨h1, h2⟩ | ⟨b, cap, cur, h1, h2, h3, r⟩
  · exact ⟨h.1, .inl ⟨h1, h2⟩⟩
  · have hb : b ≠ g := by
      simp only [Value.slice.injEq] at h1
      exact hf b 0 h1.1
    exact ⟨h.1, .inr ⟨b, cap, cur, h1, h2, (Below.heap_setCell w ⟨g, j, none⟩ v b hb).trans h3, r⟩⟩
theorem rd_setFar {α : Type} {E : Elt α} {w : World} {g : Nat} {p : Option Addr} {c : Nat} {l : List α} (h : Rd E w p c l) (hf : Far p g) (j : Nat) (v : Value) : Rd E (w.setCell ⟨g, j, none⟩ v) p c l :=
  rd_kp h (Kp.set rfl v) (fun b o e _ => hf b o e)
/-- An own row is there whatever else turns, if its own block is as it was. -/
theorem own_block_eq {α : Type} {E : Elt α} {w w' : World} {base : Nat} {e : TypeId} {p : Option Addr} {c : Nat} {l : List α} (h : Own E w base e p c l) (hh : ∀ b o, p = some ⟨b, o, none⟩ → w'.heap[b]? = w.heap[b]?) : Own E w' base e p c l := by
  rcases h.2 with ⟨h1, h2⟩ | ⟨b, cap, cur, h1, h2, h3, r⟩
  · exact ⟨h.1, .inl ⟨h1, h2⟩⟩
  · exact ⟨h.1, .inr ⟨b, cap, cur, h1, h2, (hh b 0 (by simp only [Value.slice.injEq] at h1; exact h1.1)).trans h3, r⟩⟩
/-- A row is appended to an empty row of its own: nothing old turns. -/
theorem run_fresh {α : Type} {P : Program} {E : Elt α} {t e : TypeId} (T : Ty P E t e) (w : World) (ty : TypeId) (base g : Nat) (h : Lv w g #[] e) (hb : base ≤ g) (q : Option Addr) (d : Nat) (m : List α) (hr : Rd E w q d m) (hlen : m.length ≤ 2000) :
    ∃ p' c' w', (Builtin.append_ #[t, t] ty #[.slice (some ⟨g, 0, none⟩) 0 0, .slice q m.length d]).run P w = .ok (.slice p' m.length c') w' ∧ Own E w' base e p' c' m ∧ Below w.heap.size w w' ∧ (p' = some ⟨g, 0, none⟩ ∨ Own E w' w.heap.size e p' c' m) := by
  have hown : Own E w base e (some ⟨g, 0, none⟩) 0 [] := ⟨by simp [fl], .inr ⟨g, 0, #[], rfl, hb, h, Nat.le_refl _, Nat.zero_le _, by simp, by simp [fl]⟩⟩
  obtain ⟨i, z, hi, hz0, hz1, hz3, hz2⟩ := T.info
  by_cases h0 : m = []
  · subst h0
    refine ⟨some ⟨g, 0, none⟩, 0, w, ?_, hown, Below.refl _ _, .inl rfl⟩
    rcases hr.at_ with ⟨rfl, _, rfl⟩ | ⟨b, o, s, rfl, _, _⟩
    all_goals simp [Builtin.append_, run_underlying T.und, sizeOf, typeInfo, hi, Builtin.lenOf, Builtin.firstCells, storeCells, loadCells, loadCellsFrom]
  · have hpos : 0 < m.length := List.length_pos_iff.2 h0
    have hgl := h.lt
    obtain ⟨b, o, rfl, hbl, hc⟩ := hr.pos hpos
    obtain ⟨p', c', w', hrun, h1, h2, h3⟩ := run_app T w ty w.heap.size none 0 [] (own_nil _ _ _) (some ⟨b, o, none⟩) d m hr (by simpa using hlen) (Nat.le_refl _)
    simp only [List.nil_append, List.length_nil, Nat.zero_add] at hrun h1
    have hby : m.length * i.bytes ≤ 281474976710656 := by
      have := Nat.mul_le_mul hlen hz2
      omega
    have hl63 : ((m.length : Nat) : Int) ≤ 9223372036854775807 := by omega
    have hnw : ∀ j u, (fl E m)[j]? = some u → w.cell? ((⟨b, o, none⟩ : Addr).add j) = some u := fun j u hu => by rw [add_plain]; exact hc j u hu
    have r1 := run_append_nil (P := P) (w := w) t ty e i z T.und hi hz0 ⟨b, o, none⟩ m.length d (fl E m) (by rw [fl_length, hz1]) hnw hpos hl63 hby
    have r2 := run_append_grow (P := P) (w := w) t ty e i z T.und hi hz0 ⟨g, 0, none⟩ 0 0 [] (by simp) (by simp) ⟨b, o, none⟩ m.length d (fl E m) (by rw [fl_length, hz1]) hnw (by omega) (by simpa using hl63) (by rw [Nat.zero_add, nextslicecap_zero hpos]; exact hby)
    have hrr : (Builtin.append_ #[t, t] ty #[.slice (some ⟨g, 0, none⟩) 0 0, .slice (some ⟨b, o, none⟩) m.length d]).run P w = (Builtin.append_ #[t, t] ty #[.slice none 0 0, .slice (some ⟨b, o, none⟩) m.length d]).run P w := by
      rw [r1, r2]
      simp
    exact ⟨p', c', w', hrr.trans hrun, own_mono h1 (Nat.le_trans hb (Nat.le_of_lt hgl)), h2, .inr h1⟩
theorem run_freshN {α : Type} {P : Program} {E : Elt α} {t e : TypeId} (T : Ty P E t e) (w : World) (ty : TypeId) (base g : Nat) (h : Lv w g #[] e) (hb : base ≤ g) (q : Option Addr) (d : Nat) (m : List α) (N : Nat) (hN : m.length = N) (hr : Rd E w q d m) (hlen : N ≤ 2000) :
    ∃ p' c' w', (Builtin.append_ #[t, t] ty #[.slice (some ⟨g, 0, none⟩) 0 0, .slice q N d]).run P w = .ok (.slice p' N c') w' ∧ Own E w' base e p' c' m ∧ Below w.heap.size w w' ∧ (p' = some ⟨g, 0, none⟩ ∨ Own E w' w.heap.size e p' c' m) := by
  subst hN
  exact run_fresh T w ty base g h hb q d m hr hlen
theorem step_fresh {α : Type} {P : Program} {E : Elt α} {t e : TypeId} (T : Ty P E t e) (w : World) {ops : Array Oper} {o : Oper} {a : Act} {K : Act → World → Prop} {Q : Exit → Act → World → Prop} {G : Prop} (hgd : o.guard = none) (s x : Operand)
    (ho : o.op = .call { callee := .builtin .append, args := #[s, x], argTypes := #[t, t] }) (base g : Nat) (h : Lv w g #[] e) (hb : base ≤ g) (hs : a.eval s = .slice (some ⟨g, 0, none⟩) 0 0)
    (q : Option Addr) (d : Nat) (m : List α) (N : Nat) (hN : m.length = N) (hx : a.eval x = .slice q N d) (hr : Rd E w q d m) (hlen : N ≤ 2000)
    (hK : ∀ p' c' w', Own E w' base e p' c' m → Below w.heap.size w w' → (p' = some ⟨g, 0, none⟩ ∨ Own E w' w.heap.size e p' c' m) → K (a.put o.dst (.slice p' N c')) w') :
    if Region.wanted o (yielded ops a.tmps) = true then Oper.wp P o a w K Q else G := by
  obtain ⟨p', c', w', hrun, h1, h2, h3⟩ := run_freshN T w o.type base g h hb q d m N hN hr hlen
  exact step_append_run hgd s x t t ho _ _ hs hx hrun (hK p' c' w' h1 h2 h3)
end Go.Proofs.Ytfghondhonflaaa
