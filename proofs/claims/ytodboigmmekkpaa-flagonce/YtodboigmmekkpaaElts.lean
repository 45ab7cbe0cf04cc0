/-
  Rows of who waits, of flags, of integers; blocks that are known whole; a store into an own row.
-/
import Derived.Test.YtodboigmmekkpaaParts
import Derived.Test.YtodboigmmekkpaaChecked
import Derived.Test.YtodboigmmekkpaaMath
import Derived.Deep.QuietTactic
import Derived.BigQuiet
import Derived.Deep.RegionHeld3
import Derived.Deep.RegionLaw
import Derived.Deep.DrawnRows
import Derived.WalkLawsBesides
import Derived.Lib.SliceRun
import Derived.Lib.Overlaps
import Derived.WalkSpells
namespace Go.Proofs.Ytodboigmmekkpaa
open Go.ChangeShapes Go.WideShapes Go.ChangeAt Go.RowKit
attribute [local go_sem ↓] Go.wp_at_zero Go.wp_at_succ

theorem info_parts {o : Option TypeInfo} {z : Option Value} {s b : Nat} (h : o.map (fun i => (i.zero, i.size, i.bytes)) = some (z, s, b)) : ∃ i, o = some i ∧ i.zero = z ∧ i.size = s ∧ i.bytes = b := by
  cases o with
  | none => simp at h
  | some i => simp at h; exact ⟨i, rfl, h.1, h.2.1, h.2.2⟩
def eW : Elt Wt := ⟨2, fun x => [.int .i64 x.1, .int .u32 (x.2 : Int)], fun _ => rfl, by intro x v hv; simp at hv; rcases hv with rfl | rfl <;> rfl, by decide⟩
def eU : Elt Nat := ⟨1, fun x => [.int .u32 (x : Int)], fun _ => rfl, by intro x v hv; simp at hv; subst hv; rfl, by decide⟩
def eI : Elt Int := ⟨1, fun x => [.int .i64 x], fun _ => rfl, by intro x v hv; simp at hv; subst hv; rfl, by decide⟩
theorem Try.info43 : (Try.prog.info? 43).map (fun i => (i.zero, i.size, i.bytes)) = some (some (.agg #[.int .i64 0, .int .u32 0]), 2, 16) := by kernel_rfl
theorem Try.info22 : (Try.prog.info? 22).map (fun i => (i.zero, i.size, i.bytes)) = some (some (.int .u32 0), 1, 4) := by kernel_rfl
theorem Try.info3 : (Try.prog.info? 3).map (fun i => (i.zero, i.size, i.bytes)) = some (some (.int .i64 0), 1, 8) := by kernel_rfl
theorem tW : Ty Try.prog eW 23 43 := by
  obtain ⟨i, hi, h0, h1, h2⟩ := info_parts Try.info43
  exact ⟨Try.underlying23, i, _, hi, h0, h1, rfl, by omega⟩
theorem tU : Ty Try.prog eU 45 22 := by
  obtain ⟨i, hi, h0, h1, h2⟩ := info_parts Try.info22
  exact ⟨Try.underlying45, i, _, hi, h0, h1, rfl, by omega⟩
theorem tI : Ty Try.prog eI 31 3 := by
  obtain ⟨i, hi, h0, h1, h2⟩ := info_parts Try.info3
  exact ⟨Try.underlying31, i, _, hi, h0, h1, rfl, by omega⟩
theorem flU : ∀ l : List Nat, fl eU l = l.map (fun x : Nat => Value.int .u32 (x : Int))
  | [] => rfl
  | x :: r => by rw [fl, flU r]; rfl
theorem flU_zero : ∀ n : Nat, fl eU (List.replicate n 0) = List.replicate n (.int .u32 0)
  | 0 => rfl
  | n + 1 => by rw [List.replicate_succ, fl, flU_zero n]; rfl
theorem Rd.num {w : World} {p : Option Addr} {c : Nat} {l : List Int} (h : Rd eI w p c l) (i : Nat) (hi : i < l.length) :
    ∃ b o, p = some ⟨b, o, none⟩ ∧ b < w.heap.size ∧ w.cell? ⟨b, o + i, none⟩ = some (.int .i64 l[i]) := by
  obtain ⟨b, o, e, hb, hc⟩ := h.cells i hi
  have := hc 0 _ rfl
  exact ⟨b, o, e, hb, by simpa [eI] using this⟩
theorem Rd.bits {w : World} {p : Option Addr} {c : Nat} {l : List Nat} (h : Rd eU w p c l) (i : Nat) (hi : i < l.length) :
    ∃ b o, p = some ⟨b, o, none⟩ ∧ b < w.heap.size ∧ w.cell? ⟨b, o + i, none⟩ = some (.int .u32 ((l[i] : Nat) : Int)) := by
  obtain ⟨b, o, e, hb, hc⟩ := h.cells i hi
  have := hc 0 _ rfl
  exact ⟨b, o, e, hb, by simpa [eU] using this⟩
/-- one that waits: its client, its mask -/
theorem Rd.wt {w : World} {p : Option Addr} {c : Nat} {l : List Wt} (h : Rd eW w p c l) (i : Nat) (hi : i < l.length) :
    ∃ b o, p = some ⟨b, o, none⟩ ∧ b < w.heap.size ∧ w.cell? ⟨b, o + i * 2, none⟩ = some (.int .i64 (l[i]).1) ∧ w.cell? ⟨b, o + i * 2 + 1, none⟩ = some (.int .u32 (((l[i]).2 : Nat) : Int)) := by
  obtain ⟨b, o, e, hb, hc⟩ := h.cells i hi
  have h0 := hc 0 _ rfl
  have h1 := hc 1 _ rfl
  exact ⟨b, o, e, hb, by simpa [eW] using h0, by simpa [eW] using h1⟩
theorem own_setU {w : World} {base : Nat} {p : Option Addr} {c : Nat} {l : List Nat} (h : Own eU w base 22 p c l) (k : Nat) (hk : k < l.length) :
    ∃ b, p = some ⟨b, 0, none⟩ ∧ base ≤ b ∧ b < w.heap.size ∧ w.frozen? ⟨b, k, none⟩ = false ∧ w.cell? ⟨b, k, none⟩ = some (.int .u32 ((l[k] : Nat) : Int)) ∧ ∀ v : Nat, Own eU (w.setCell ⟨b, k, none⟩ (.int .u32 (v : Int))) base 22 p c (l.set k v) := by
  have hc := (own_rd h).bits k hk
  rcases h.2 with ⟨h1, h2⟩ | ⟨g, cap, cur, h1, h2, h3, h4, h5, h6, h7⟩
  · simp only [Value.slice.injEq] at h1
    omega
  · simp only [Value.slice.injEq, true_and] at h1
    obtain ⟨rfl, rfl⟩ := h1
    obtain ⟨b', o', e', _, hcell⟩ := hc
    cases e'
    refine ⟨g, rfl, h2, (Array.getElem?_eq_some_iff.1 h3).1, by simp [World.frozen?, h3], by rw [Nat.zero_add] at hcell; exact hcell, fun v => ?_⟩
    refine ⟨fl_length eU _, .inr ⟨g, c, cur.setIfInBounds k (.int .u32 (v : Int)), by simp, h2, ?_, by simpa using h4, h5, by simpa using h6, ?_⟩⟩
    · rw [setCell_eq_setRow w g k _ _ _ _ h3]
      exact setRow_heap w g _ _ _ _ h3
    · have e1 : (fl eU (l.set k v)) = (fl eU l).set k (.int .u32 (v : Int)) := by rw [flU, flU, List.map_set]
      rw [e1, ← h7, Array.toList_setIfInBounds, List.length_set, List.take_set]
theorem heap_at {w : World} {o : Obj} {k : Nat} (h : w.heap.size = k) : (w.alloc o).heap[k]? = some o := by subst h; exact heap_alloc_new w o
theorem own_blockg {α : Type} {E : Elt α} {w : World} {base g : Nat} {cs : Array Value} {l : List α} {e : TypeId} (hs : w.heap.size = g) (hb : base ≤ g) (hl : cs.toList = fl E l) (n : Nat) (hn : l.length = n) (hm : n ≤ maxLen) : Own E (w.alloc (.cells cs e)) base e (some ⟨g, 0, none⟩) n l := by
  subst hs
  exact own_block hb hl n hn hm
theorem own_lt {α : Type} {E : Elt α} {w : World} {base : Nat} {e : TypeId} {b o d : Nat} {l : List α} (h : Own E w base e (some ⟨b, o, none⟩) d l) : b < w.heap.size := by
  rcases h.2 with ⟨h1, _⟩ | ⟨g', cap, cur, h1, h2, h3, _⟩
  · simp at h1
  · simp at h1
    have := (Array.getElem?_eq_some_iff.1 h3).1
    omega
theorem own_ge {α : Type} {E : Elt α} {w : World} {base : Nat} {e : TypeId} {b o d : Nat} {l : List α} (h : Own E w base e (some ⟨b, o, none⟩) d l) : base ≤ b := by
  rcases h.2 with ⟨h1, _⟩ | ⟨g', cap, cur, h1, h2, h3, _⟩
  · simp at h1
  · simp at h1
    omega
theorem Far.low {α : Type} {E : Elt α} {w : World} {base : Nat} {e : TypeId} {q : Option Addr} {d : Nat} {l : List α} (h : Own E w base e q d l) {g : Nat} (hg : g < base) : Far q g := by
  rintro b o rfl
  have := own_ge h
  omega
theorem Far.high {α : Type} {E : Elt α} {w : World} {base : Nat} {e : TypeId} {q : Option Addr} {d : Nat} {l : List α} (h : Own E w base e q d l) {g : Nat} (hg : w.heap.size ≤ g) : Far q g := by
  rintro b o rfl
  have := own_lt h
  omega
/-- A block that is known whole. -/
def Lv (w : World) (g : Nat) (cs : Array Value) (e : TypeId) : Prop := w.heap[g]? = some (.cells cs e (0, 0))
theorem Lv.lt {w : World} {g : Nat} {cs : Array Value} {e : TypeId} (h : Lv w g cs e) : g < w.heap.size := (Array.getElem?_eq_some_iff.1 h).1
theorem Lv.below {w w' : World} {g : Nat} {cs : Array Value} {e : TypeId} (h : Lv w g cs e) (hb : Below w.heap.size w w') : Lv w' g cs e := (hb.block g h.lt).trans h
theorem Lv.new (w : World) (cs : Array Value) (e : TypeId) : Lv (w.alloc (.cells cs e)) w.heap.size cs e := heap_alloc_new _ _
theorem Lv.fz {w : World} {g : Nat} {cs : Array Value} {e : TypeId} (h : Lv w g cs e) (j : Nat) : w.frozen? ⟨g, j, none⟩ = false := by
  have h' : w.heap[g]? = some (.cells cs e (0, 0)) := h
  simp [World.frozen?, h']
theorem Lv.c {w : World} {g : Nat} {cs : Array Value} {e : TypeId} (h : Lv w g cs e) (j : Nat) {v : Value} (hv : cs[j]? = some v) : w.cell? ⟨g, j, none⟩ = some v := by
  rw [cell_of_row _ _ _ _ _ _ h]
  exact hv
theorem Lv.set {w : World} {g : Nat} {cs : Array Value} {e : TypeId} (h : Lv w g cs e) (j : Nat) (v : Value) : Lv (w.setCell ⟨g, j, none⟩ v) g (cs.setIfInBounds j v) e := heap_setCell_same _ _ _ _ _ _ h
theorem Lv.far {w : World} {g : Nat} {cs : Array Value} {e : TypeId} (h : Lv w g cs e) {a : Addr} (hn : a.block ≠ g) (v : Value) : Lv (w.setCell a v) g cs e := (Below.heap_setCell w a v g (fun e => hn e.symm)).trans h
theorem Lv.draw {w : World} {g : Nat} {cs : Array Value} {e : TypeId} (h : Lv w g cs e) : Lv w.drew g cs e := h
theorem bel_self (w : World) (o : Obj) : Below w.heap.size w (w.alloc o) := (Below.refl _ _).alloc (Nat.le_refl _) _
/-- A row that lies elsewhere, behind a store. -/
theorem own_setFar {α : Type} {E : Elt α} {w : World} {base g : Nat} {e : TypeId} {p : Option Addr} {c : Nat} {l : List α} (h : Own E w base e p c l) (hf : Far p g) (j : Nat) (v : Value) : Own E (w.setCell ⟨g, j, none⟩ v) base e p c l := by
  rcases h.2 with ⟨h1, h2⟩ | ⟨b, cap, cur, h1, h2, h3, r⟩
  · exact ⟨h.1, .inl ⟨h1, h2⟩⟩
  · have hb : b ≠ g := by
      simp only [Value.slice.injEq] at h1
      exact hf b 0 h1.1
    exact ⟨h.1, .inr ⟨b, cap, cur, h1, h2, (Below.heap_setCell w ⟨g, j, none⟩ v b hb).trans h3, r⟩⟩
theorem rd_setFar {α : Type} {E : Elt α} {w : World} {g : Nat} {p : Option Addr} {c : Nat} {l : List α} (h : Rd E w p c l) (hf : Far p g) (j : Nat) (v : Value) : Rd E (w.setCell ⟨g, j, none⟩ v) p c l :=
  rd_kp h (Kp.set rfl v) (fun b o e _ => hf b o e)
/-- An own row is there whatever else turns, if its own block is as it was. -/
theorem own_block_eq {α : Type} {E : Elt α} {w w' : World} {base : Nat} {e : TypeId} {p : Option Addr} {c : Nat} {l : List α} (h : Own E w base e p c l) (hh : ∀ b o, p = some ⟨b, o, none⟩ → w'.heap[b]? = w.heap[b]?) : Own E w' base e p c l := by
  rcases h.2 with ⟨h1, h2⟩ | ⟨b, cap, cur, h1, h2, h3, r⟩
  · exact ⟨h.1, .inl ⟨h1, h2⟩⟩
  · exact ⟨h.1, .inr ⟨b, cap, cur, h1, h2, (hh b 0 (by simp only [Value.slice.injEq] at h1; exact h1.1)).trans h3, r⟩⟩
/-- A row is appended to an empty row of its own: nothing old turns. -/
theorem run_fresh {α : Type} {P : Program} {E : Elt α} {t e : TypeId} (T : Ty P E t e) (w : World) (ty : TypeId) (base g : Nat) (h : Lv w g #[] e) (hb : base ≤ g) (q : Option Addr) (d : Nat) (m : List α) (hr : Rd E w q d m) (hlen : m.length ≤ 2000) :
    ∃ p' c' w', (Builtin.append_ #[t, t] ty #[.slice (some ⟨g, 0, none⟩) 0 0, .slice q m.length d]).run P w = .ok (.slice p' m.length c') w' ∧ Own E w' base e p' c' m ∧ Below w.heap.size w w' ∧ (p' = some ⟨g, 0, none⟩ ∨ Own E w' w.heap.size e p' c' m) := by
  have hown : Own E w base e (some ⟨g, 0, none⟩) 0 [] := ⟨by simp [fl], .inr ⟨g, 0, #[], rfl, hb, h, Nat.le_refl _, Nat.zero_le _, by simp, by simp [fl]⟩⟩
  obtain ⟨i, z, hi, hz0, hz1, hz3, hz2⟩ := T.info
  by_cases h0 : m = []
  · subst h0
    refine ⟨some ⟨g, 0, none⟩, 0, w, ?_, hown, Below.refl _ _, .inl rfl⟩
    rcases hr.at_ with ⟨rfl, _, rfl⟩ | ⟨b, o, s, rfl, _, _⟩
    all_goals simp [Builtin.append_, run_underlying T.und, sizeOf, typeInfo, hi, Builtin.lenOf, Builtin.firstCells, storeCells, loadCells, loadCellsFrom]
  · have hpos : 0 < m.length := List.length_pos_iff.2 h0
    have hgl := h.lt
    obtain ⟨b, o, rfl, hbl, hc⟩ := hr.pos hpos
    obtain ⟨p', c', w', hrun, h1, h2, h3⟩ := run_app T w ty w.heap.size none 0 [] (own_nil _ _ _) (some ⟨b, o, none⟩) d m hr (by simpa using hlen) (Nat.le_refl _)
    simp only [List.nil_append, List.length_nil, Nat.zero_add] at hrun h1
    have hby : m.length * i.bytes ≤ 281474976710656 := by
      have := Nat.mul_le_mul hlen hz2
      omega
    have hl63 : ((m.length : Nat) : Int) ≤ 9223372036854775807 := by omega
    have hnw : ∀ j u, (fl E m)[j]? = some u → w.cell? ((⟨b, o, none⟩ : Addr).add j) = some u := fun j u hu => by rw [add_plain]; exact hc j u hu
    have r1 := run_append_nil (P := P) (w := w) t ty e i z T.und hi hz0 ⟨b, o, none⟩ m.length d (fl E m) (by rw [fl_length, hz1]) hnw hpos hl63 hby
    have r2 := run_append_grow (P := P) (w := w) t ty e i z T.und hi hz0 ⟨g, 0, none⟩ 0 0 [] (by simp) (by simp) ⟨b, o, none⟩ m.length d (fl E m) (by rw [fl_length, hz1]) hnw (by omega) (by simpa using hl63) (by rw [Nat.zero_add, nextslicecap_zero hpos]; exact hby)
    have hrr : (Builtin.append_ #[t, t] ty #[.slice (some ⟨g, 0, none⟩) 0 0, .slice (some ⟨b, o, none⟩) m.length d]).run P w = (Builtin.append_ #[t, t] ty #[.slice none 0 0, .slice (some ⟨b, o, none⟩) m.length d]).run P w := by
      rw [r1, r2]
      simp
    exact ⟨p', c', w', hrr.trans hrun, own_mono h1 (Nat.le_trans hb (Nat.le_of_lt hgl)), h2, .inr h1⟩
theorem run_freshN {α : Type} {P : Program} {E : Elt α} {t e : TypeId} (T : Ty P E t e) (w : World) (ty : TypeId) (base g : Nat) (h : Lv w g #[] e) (hb : base ≤ g) (q : Option Addr) (d : Nat) (m : List α) (N : Nat) (hN : m.length = N) (hr : Rd E w q d m) (hlen : N ≤ 2000) :
    ∃ p' c' w', (Builtin.append_ #[t, t] ty #[.slice (some ⟨g, 0, none⟩) 0 0, .slice q N d]).run P w = .ok (.slice p' N c') w' ∧ Own E w' base e p' c' m ∧ Below w.heap.size w w' ∧ (p' = some ⟨g, 0, none⟩ ∨ Own E w' w.heap.size e p' c' m) := by
  subst hN
  exact run_fresh T w ty base g h hb q d m hr hlen
theorem step_fresh {α : Type} {P : Program} {E : Elt α} {t e : TypeId} (T : Ty P E t e) (w : World) {ops : Array Oper} {o : Oper} {a : Act} {K : Act → World → Prop} {Q : Exit → Act → World → Prop} {G : Prop} (hgd : o.guard = none) (s x : Operand)
    (ho : o.op = .call { callee := .builtin .append, args := #[s, x], argTypes := #[t, t] }) (base g : Nat) (h : Lv w g #[] e) (hb : base ≤ g) (hs : a.eval s = .slice (some ⟨g, 0, none⟩) 0 0)
    (q : Option Addr) (d : Nat) (m : List α) (N : Nat) (hN : m.length = N) (hx : a.eval x = .slice q N d) (hr : Rd E w q d m) (hlen : N ≤ 2000)
    (hK : ∀ p' c' w', Own E w' base e p' c' m → Below w.heap.size w w' → (p' = some ⟨g, 0, none⟩ ∨ Own E w' w.heap.size e p' c' m) → K (a.put o.dst (.slice p' N c')) w') :
    if Region.wanted o (yielded ops a.tmps) = true then Oper.wp P o a w K Q else G := by
  obtain ⟨p', c', w', hrun, h1, h2, h3⟩ := run_freshN T w o.type base g h hb q d m N hN hr hlen
  exact step_append_run hgd s x t t ho _ _ hs hx hrun (hK p' c' w' h1 h2 h3)
/-- Two own rows in unlike blocks. -/
def Two (p q : Option Addr) : Prop := ∀ b o, q = some ⟨b, o, none⟩ → Far p b
theorem Two.symm {p q : Option Addr} (h : Two p q) : Two q p := fun b o e b' o' e' he => h b' o' e' b o e he.symm
theorem Two.nil (q : Option Addr) : Two none q := fun b o e b' o' e' => by cases e'
theorem Own.grew {α : Type} {E : Elt α} {w w' : World} {base : Nat} {e : TypeId} {p p' q : Option Addr} {d : Nat} {L : List α} (h : Own E w base e q d L) (hg : Grew w w' p p') (ht : Two p q) : Own E w' base e q d L :=
  own_block_eq h fun b o hq => hg.stays b (by subst hq; exact own_lt h) (ht b o hq)
theorem Two.grew {α : Type} {E : Elt α} {w w' : World} {base : Nat} {e : TypeId} {p p' q : Option Addr} {d : Nat} {L : List α} (h : Own E w base e q d L) (hg : Grew w w' p p') (ht : Two p q) : Two p' q := fun b o hq =>
  hg.far b (by subst hq; exact own_lt h) (ht b o hq)
theorem Lv.grew {w w' : World} {g : Nat} {cs : Array Value} {e : TypeId} {p p' : Option Addr} (h : Lv w g cs e) (hg : Grew w w' p p') (hf : Far p g) : Lv w' g cs e := (hg.stays g h.lt hf).trans h
/-- Blocks of unlike element types are apart. -/
theorem Far.type {α : Type} {E : Elt α} {w : World} {base : Nat} {e t : TypeId} {q : Option Addr} {d : Nat} {l : List α} (h : Own E w base e q d l) {g : Nat} {cs : Array Value} (hl : Lv w g cs t) (hne : e ≠ t) : Far q g := by
  rintro b o rfl
  rintro rfl
  rcases h.2 with ⟨h1, _⟩ | ⟨g', cap, cur, h1, h2, h3, _⟩
  · simp at h1
  · simp at h1
    obtain ⟨⟨rfl, rfl⟩, _⟩ := h1
    have := h3.symm.trans hl
    simp at this
    exact hne this.2
theorem Two.type {α β : Type} {E : Elt α} {F : Elt β} {w : World} {base base2 : Nat} {e t : TypeId} {p q : Option Addr} {c d : Nat} {l : List α} {m : List β} (h : Own E w base e p c l) (h' : Own F w base2 t q d m) (hne : e ≠ t) : Two p q := by
  rintro b o rfl
  rcases h'.2 with ⟨h1, _⟩ | ⟨g', cap, cur, h1, h2, h3, _⟩
  · simp at h1
  · simp at h1
    obtain ⟨⟨rfl, rfl⟩, _⟩ := h1
    exact Far.type h h3 hne
/-- p lies in blocks from B on -/
def Nw (B : Nat) (p : Option Addr) : Prop := ∀ b o, p = some ⟨b, o, none⟩ → B ≤ b
theorem Nw.own {α : Type} {E : Elt α} {w : World} {base B : Nat} {e : TypeId} {q : Option Addr} {d : Nat} {l : List α} (h : Own E w base e q d l) (hB : B ≤ base) : Nw B q := by
  rintro b o rfl
  have := own_ge h
  omega
theorem Nw.far {B g : Nat} {p : Option Addr} (h : Nw B p) (hg : g < B) : Far p g := fun b o e he => by
  have := h b o e
  omega
end Go.Proofs.Ytodboigmmekkpaa
