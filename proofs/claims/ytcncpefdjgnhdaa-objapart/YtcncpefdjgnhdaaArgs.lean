/-
  What came in, read: a slice whose elements lie in cells one behind the other, whatever they are; semaphores, boxes, flags, deeds, bytes, pairs of bytes.
-/
import Derived.Test.YtcncpefdjgnhdaaElts
import Derived.WalkKit
import Derived.ProofKit
import Derived.OpenShut
import Derived.ChangeOld
import Derived.ChangeSame
import Derived.ChangeArms
import Derived.Deep.Grids
import Derived.Deep.Slices
import Derived.Laws.IdiomArrays
import Derived.Lib.SmallJoins
namespace Go.Proofs.Ytcncpefdjgnhdaa
open Go.ChangeShapes Go.WideShapes Go.ChangeAt Go.RowKit

theorem spot_none {w : World} {x : Addr} {v : Value} (h : w.cell? (x.add 0) = some v) : x.spot = none := by
  have e : x.add 0 = x := by simp [Addr.add]
  rw [e] at h
  unfold World.cell? at h
  split at h
  · split at h
    · cases h
    · rename_i hs; simpa using hs
  · cases h
theorem cell_plain {w : World} {x : Addr} {i : Nat} {v : Value} (h : w.cell? (x.add i) = some v) : w.cell? ⟨x.block, x.off + i, none⟩ = some v := by
  by_cases hi : i = 0
  · subst hi
    have hs := spot_none h
    obtain ⟨b, o, s⟩ := x
    simp only at hs
    subst hs
    simpa [Addr.add] using h
  · simpa [Addr.add, hi] using h
theorem bound_u32 {n : Int} (h : (Lit.int .u32 n).wf = true) : 0 ≤ n ∧ n < 4294967296 := by
  have := bounds_u32 h
  omega
theorem bound_u8 {n : Int} (h : (Lit.int .u8 n).wf = true) : 0 ≤ n ∧ n ≤ 255 := by
  have := bounds_u8 h
  omega
section
variable {H : Type} {enc : TypeId × Value → H} {W : World}
/-- A slice that came in, its elements opened one by one. -/
theorem open_rows {α : Type} [Inhabited α] (E : Elt α) (Pr : α → Prop) {t e : TypeId} (hu : Try.prog.underlying t = some (.slice e)) (hk : Try.prog.cellsOf e = E.k)
    (hc : ∀ {fuel : Nat} {cs : List Value} {x : DataW H × List MemPlace}, cs.length = E.k → DataW.trod enc Try.prog W 0 (fun _ => true) true fuel e cs = some x → ∃ y, cs = E.enc y ∧ Pr y)
    {a : Option Addr} {len cap : Nat} {d : DataW H} {p : List MemPlace} (h : DataW.Trod enc Try.prog W 0 (fun _ => true) true t (.slice a len cap) d p) :
    ∃ L, Rd E W a cap L ∧ L.length = len ∧ len ≤ maxLen ∧ ∀ y ∈ L, Pr y := by
  obtain ⟨fuel, hf⟩ := h
  rcases Go.Deep.open_slice hu hf with ⟨hcs, _⟩ | ⟨x, l, c, m, n, D, Pl, hcs, _, hl, hm, hmm, _, hx⟩
  · simp [Value.cells] at hcs
    obtain ⟨rfl, rfl, rfl⟩ := hcs
    exact ⟨[], Rd.nil _, rfl, Nat.zero_le _, fun y hy => by simp at hy⟩
  · simp [Value.cells] at hcs
    obtain ⟨rfl, rfl, rfl⟩ := hcs
    have hmc : m = cap := by simpa using hmm
    have hlm : len ≤ m := by omega
    obtain ⟨T, hT⟩ := Go.Deep.choose_lt (α := α) (p := fun i t => Pr t ∧ ∀ j, j < E.k → W.cell? ((x.add (i * E.k)).add j) = (E.enc t)[j]?) (fun i hi => by
      obtain ⟨cs', h1, h2⟩ := hx i hi
      rw [hk] at h1
      obtain ⟨_, hlen, hg⟩ := World.cells?_some h1
      obtain ⟨y, rfl, hy⟩ := hc hlen h2
      exact ⟨y, hy, hg⟩)
    have hlen : ((List.range len).map T).length = len := by simp
    refine ⟨(List.range len).map T, ⟨by rw [hlen]; exact hl, .inr ⟨x.block, x.off, x.spot, by cases x; rfl, fun hne => ?_, fun j v hj => ?_⟩⟩, hlen, Nat.le_trans hl hm, fun y hy => ?_⟩
    · have h0 : 0 < len := by
        rcases Nat.eq_zero_or_pos len with h | h
        · exact absurd (by rw [h]; simp) hne
        · exact h
      have h1 := (hT 0 (by omega)).2 0 E.pos
      rw [Nat.zero_mul] at h1
      have h2 : (E.enc (T 0))[0]? = some ((E.enc (T 0))[0]'(by rw [E.len]; exact E.pos)) := List.getElem?_eq_getElem _
      rw [h2] at h1
      have e0 : (x.add 0).add 0 = x.add 0 := by simp [Addr.add]
      rw [e0] at h1
      exact spot_none h1
    · have hj4 : j < len * E.k := by
        have := (List.getElem?_eq_some_iff.1 hj).1
        rw [fl_length, hlen] at this
        exact this
      have hi : j / E.k < len := Nat.div_lt_of_lt_mul (by rw [Nat.mul_comm]; exact hj4)
      have hr : j % E.k < E.k := Nat.mod_lt _ E.pos
      have hjj : j = j / E.k * E.k + j % E.k := by rw [Nat.mul_comm]; exact (Nat.div_add_mod _ _).symm
      have hget := fl_get E ((List.range len).map T) (j / E.k) (by rw [hlen]; exact hi) (j % E.k) hr
      rw [← hjj, hj] at hget
      simp only [List.getElem_map, List.getElem_range] at hget
      have h1 := (hT (j / E.k) (by omega)).2 (j % E.k) hr
      rw [← hget, Go.Deep.add_add, ← hjj] at h1
      exact cell_plain h1
    · obtain ⟨i, hi, rfl⟩ := List.mem_map.1 hy
      exact (hT i (Nat.lt_of_lt_of_le (List.mem_range.1 hi) hlm)).1

/-- .. as a part of something else. -/
theorem open_rowsC {α : Type} [Inhabited α] (E : Elt α) (Pr : α → Prop) {t e : TypeId} (hu : Try.prog.underlying t = some (.slice e)) (hk : Try.prog.cellsOf e = E.k)
    (hc : ∀ {fuel : Nat} {cs : List Value} {x : DataW H × List MemPlace}, cs.length = E.k → DataW.trod enc Try.prog W 0 (fun _ => true) true fuel e cs = some x → ∃ y, cs = E.enc y ∧ Pr y)
    {fuel : Nat} {cs : List Value} {x0 : DataW H × List MemPlace} (hf : DataW.trod enc Try.prog W 0 (fun _ => true) true fuel t cs = some x0) :
    ∃ (a : Option Addr) (len cap : Nat) (L : List α), cs = [.slice a len cap] ∧ Rd E W a cap L ∧ L.length = len ∧ len ≤ maxLen ∧ ∀ y ∈ L, Pr y := by
  have hs : ∃ (a : Option Addr) (len cap : Nat), cs = [.slice a len cap] := by
    rcases Go.Deep.open_slice hu hf with ⟨hcs, _⟩ | ⟨x, l, c, m, n, D, Pl, hcs, _⟩
    · exact ⟨_, _, _, hcs⟩
    · exact ⟨_, _, _, hcs⟩
  obtain ⟨a, len, cap, rfl⟩ := hs
  have h : DataW.Trod enc Try.prog W 0 (fun _ => true) true t (.slice a len cap) x0.1 x0.2 := ⟨fuel, hf⟩
  obtain ⟨L, h1, h2, h3, h4⟩ := open_rows E Pr hu hk hc h
  exact ⟨a, len, cap, L, rfl, h1, h2, h3, h4⟩
theorem two_of {cs : Array Value} (h : cs.size = 2) : ∃ a b, cs = #[a, b] := by
  obtain ⟨l⟩ := cs
  match l, h with
  | [a, b], _ => exact ⟨a, b, rfl⟩
theorem cells2 : Try.prog.cellsOf 2 = 1 := by kernel_rfl
theorem cells3 : Try.prog.cellsOf 3 = 1 := by kernel_rfl
theorem cells5 : Try.prog.cellsOf 5 = 1 := by kernel_rfl
theorem cells44 : Try.prog.cellsOf 44 = 1 := by kernel_rfl
theorem cells24 : Try.prog.cellsOf 24 = 1 := by kernel_rfl
theorem cells41 : Try.prog.cellsOf 41 = 1 := by kernel_rfl
theorem cells45 : Try.prog.cellsOf 45 = 1 := by kernel_rfl
theorem cells38 : Try.prog.cellsOf 38 = 2 := by kernel_rfl
theorem cells40 : Try.prog.cellsOf 40 = 2 := by kernel_rfl
theorem cells43 : Try.prog.cellsOf 43 = 2 := by kernel_rfl
theorem cells47 : Try.prog.cellsOf 47 = 2 := by kernel_rfl
theorem cells49 : Try.prog.cellsOf 49 = 10 := by kernel_rfl
theorem cells89 : Try.prog.cellsOf 89 = 2 := by kernel_rfl
theorem cells138 : Try.prog.cellsOf 138 = 2 := by kernel_rfl
theorem list_two {cs : List Value} (h : cs.length = 2) : ∃ a b, cs = [a, b] := by
  match cs, h with
  | [a, b], _ => exact ⟨a, b, rfl⟩
theorem list_ten {cs : List Value} (h : cs.length = 10) : ∃ a b c d e f g h i j, cs = [a, b, c, d, e, f, g, h, i, j] := by
  match cs, h with
  | [a, b, c, d, e, f, g, h, i, j], _ => exact ⟨a, b, c, d, e, f, g, h, i, j, rfl⟩
theorem open_i64 {fuel : Nat} {cs : List Value} {x : DataW H × List MemPlace} (hx : DataW.trod enc Try.prog W 0 (fun _ => true) true fuel 3 cs = some x) : ∃ m : Int, cs = [.int .i64 m] ∧ (Lit.int .i64 m).wf = true := by
  obtain ⟨b, e0, _, wb⟩ := DataW.trod_int Try.underlying3 hx
  exact ⟨b, e0, wb⟩
theorem open_u32 {fuel : Nat} {cs : List Value} {x : DataW H × List MemPlace} (hx : DataW.trod enc Try.prog W 0 (fun _ => true) true fuel 44 cs = some x) : ∃ m : Nat, cs = [.int .u32 (m : Int)] ∧ m < 4294967296 := by
  obtain ⟨b, e0, _, wb⟩ := DataW.trod_int Try.underlying44 hx
  obtain ⟨h0, h1⟩ := bound_u32 wb
  obtain ⟨m, rfl⟩ := Int.eq_ofNat_of_zero_le h0
  exact ⟨m, e0, by omega⟩
theorem open_waiter {fuel : Nat} {cs : List Value} {x : DataW H × List MemPlace} (hl : cs.length = 2) (hx : DataW.trod enc Try.prog W 0 (fun _ => true) true fuel 138 cs = some x) : ∃ y : Wt, cs = eW.enc y ∧ y.2 < 4294967296 := by
  obtain ⟨a, b, rfl⟩ := list_two hl
  obtain ⟨y0, y1, n, e, _, h0, h1⟩ := trod_struct2 Try.underlying138 hx
  obtain ⟨c, e0, _⟩ := open_i64 h0
  obtain ⟨m, e1, hm⟩ := open_u32 h1
  simp [cells3] at e0
  simp [cells44] at e1
  subst e0 e1
  exact ⟨(c, m), rfl, hm⟩
theorem cells_sema {fuel : Nat} {cs : List Value} {x : DataW H × List MemPlace} (hl : cs.length = 2) (hx : DataW.trod enc Try.prog W 0 (fun _ => true) true fuel 40 cs = some x) : ∃ c h : Int, cs = [.int .i64 c, .int .i64 h] := by
  obtain ⟨a, b, rfl⟩ := list_two hl
  obtain ⟨y0, y1, n, e, _, h0, h1⟩ := trod_struct2 Try.underlying40 hx
  obtain ⟨c, e0, _⟩ := open_i64 h0
  obtain ⟨h, e1, _⟩ := open_i64 h1
  simp [cells3] at e0 e1
  subst e0 e1
  exact ⟨c, h, rfl⟩
theorem cells_handle {fuel : Nat} {cs : List Value} {x : DataW H × List MemPlace} (hl : cs.length = 2) (hx : DataW.trod enc Try.prog W 0 (fun _ => true) true fuel 38 cs = some x) : ∃ c h : Int, cs = [.int .i64 c, .int .i64 h] ∧ (Lit.int .i64 c).wf = true ∧ (Lit.int .i64 h).wf = true := by
  obtain ⟨a, b, rfl⟩ := list_two hl
  obtain ⟨y0, y1, n, e, _, h0, h1⟩ := trod_struct2 Try.underlying38 hx
  obtain ⟨c, e0, w0⟩ := open_i64 h0
  obtain ⟨h, e1, w1⟩ := open_i64 h1
  simp [cells3] at e0 e1
  subst e0 e1
  exact ⟨c, h, rfl, w0, w1⟩
theorem cells_box {fuel : Nat} {cs : List Value} {x : DataW H × List MemPlace} (hl : cs.length = 2) (hx : DataW.trod enc Try.prog W 0 (fun _ => true) true fuel 43 cs = some x) :
    ∃ (a : Option Addr) (n c : Nat) (L : List Int) (b : Option Addr) (m e : Nat) (Q : List Int), cs = [.slice a n c, .slice b m e] ∧ Rd eI W a c L ∧ Rd eI W b e Q ∧ L.length = n ∧ Q.length = m := by
  obtain ⟨c0, c1, rfl⟩ := list_two hl
  obtain ⟨y0, y1, n, _, _, h0, h1⟩ := trod_struct2 Try.underlying43 hx
  obtain ⟨a, la, ca, L, e0, r0, l0, _⟩ := open_rowsC eI (fun _ => True) Try.underlying41 cells2 (fun {fuel cs x} hl hx => by
    obtain ⟨b, e0, _, _⟩ := DataW.trod_int Try.underlying2 hx
    exact ⟨b, e0, trivial⟩) h0
  obtain ⟨b, lb, cb, Q, e1, r1, l1, _⟩ := open_rowsC eI (fun _ => True) Try.underlying24 cells3 (fun {fuel cs x} hl hx => by
    obtain ⟨b, e0, _⟩ := open_i64 hx
    exact ⟨b, e0, trivial⟩) h1
  simp [cells41] at e0
  simp [cells24] at e1
  subst e0 e1
  exact ⟨a, la, ca, L, b, lb, cb, Q, rfl, r0, r1, l0, l1⟩
theorem cells_flag {fuel : Nat} {cs : List Value} {x : DataW H × List MemPlace} (hl : cs.length = 2) (hx : DataW.trod enc Try.prog W 0 (fun _ => true) true fuel 47 cs = some x) :
    ∃ (b : Nat) (a : Option Addr) (n c : Nat) (L : List Wt), cs = [.int .u32 (b : Int), .slice a n c] ∧ b < 4294967296 ∧ Rd eW W a c L ∧ UL L ∧ L.length = n := by
  obtain ⟨c0, c1, rfl⟩ := list_two hl
  obtain ⟨y0, y1, n, _, _, h0, h1⟩ := trod_struct2 Try.underlying47 hx
  obtain ⟨b, e0, hb⟩ := open_u32 h0
  obtain ⟨a, la, ca, L, e1, r1, l1, _, hL⟩ := open_rowsC eW (fun y => y.2 < 4294967296) Try.underlying45 cells138 (fun {fuel cs x} hl hx => open_waiter hl hx) h1
  simp [cells44] at e0
  simp [cells45] at e1
  subst e0 e1
  exact ⟨b, a, la, ca, L, rfl, hb, r1, hL, l1⟩
set_option maxRecDepth 20000 in
theorem open_sema {base : Nat} {v : Value} {d : DataW H} {p : List MemPlace} (hv : Value.okWide Try.prog W .any base 40 v) (h : DataW.Trod enc Try.prog W 0 (fun _ => true) true 40 v d p) : ∃ c h : Int, v = .agg #[.int .i64 c, .int .i64 h] := by
  obtain ⟨cs, rfl, hsz⟩ := okWide_struct Try.underlying40 hv
  rw [cells40] at hsz
  obtain ⟨c0, c1, rfl⟩ := two_of hsz
  obtain ⟨fuel, hf⟩ := h
  obtain ⟨c, h, e⟩ := cells_sema (by simp [Value.cells]) hf
  simp [Value.cells] at e
  obtain ⟨rfl, rfl⟩ := e
  exact ⟨c, h, rfl⟩
set_option maxRecDepth 20000 in
theorem open_box {base : Nat} {v : Value} {d : DataW H} {p : List MemPlace} (hv : Value.okWide Try.prog W .any base 43 v) (h : DataW.Trod enc Try.prog W 0 (fun _ => true) true 43 v d p) :
    ∃ (a : Option Addr) (n c : Nat) (L : List Int) (b : Option Addr) (m e : Nat) (Q : List Int), v = .agg #[.slice a n c, .slice b m e] ∧ Rd eI W a c L ∧ Rd eI W b e Q ∧ L.length = n ∧ Q.length = m := by
  obtain ⟨cs, rfl, hsz⟩ := okWide_struct Try.underlying43 hv
  rw [cells43] at hsz
  obtain ⟨c0, c1, rfl⟩ := two_of hsz
  obtain ⟨fuel, hf⟩ := h
  obtain ⟨a, n, c, L, b, m, e, Q, he, r⟩ := cells_box (by simp [Value.cells]) hf
  simp [Value.cells] at he
  obtain ⟨rfl, rfl⟩ := he
  exact ⟨a, n, c, L, b, m, e, Q, rfl, r⟩
set_option maxRecDepth 20000 in
theorem open_flag {base : Nat} {v : Value} {d : DataW H} {p : List MemPlace} (hv : Value.okWide Try.prog W .any base 47 v) (h : DataW.Trod enc Try.prog W 0 (fun _ => true) true 47 v d p) :
    ∃ (b : Nat) (a : Option Addr) (n c : Nat) (L : List Wt), v = .agg #[.int .u32 (b : Int), .slice a n c] ∧ b < 4294967296 ∧ Rd eW W a c L ∧ UL L ∧ L.length = n := by
  obtain ⟨cs, rfl, hsz⟩ := okWide_struct Try.underlying47 hv
  rw [cells47] at hsz
  obtain ⟨c0, c1, rfl⟩ := two_of hsz
  obtain ⟨fuel, hf⟩ := h
  obtain ⟨b, a, n, c, L, he, r⟩ := cells_flag (by simp [Value.cells]) hf
  simp [Value.cells] at he
  obtain ⟨rfl, rfl⟩ := he
  exact ⟨b, a, n, c, L, rfl, r⟩
/-- a byte -/
def eBy : Elt Int := ⟨1, fun x => [.int .u8 x], fun _ => rfl, by intro x v hv; simp at hv; subst hv; rfl, by decide⟩
theorem Rd.byte {w : World} {p : Option Addr} {c : Nat} {l : List Int} (h : Rd eBy w p c l) (i : Nat) (hi : i < l.length) :
    ∃ b o, p = some ⟨b, o, none⟩ ∧ b < w.heap.size ∧ w.cell? ⟨b, o + i, none⟩ = some (.int .u8 l[i]) := by
  obtain ⟨b, o, e, hb, hc⟩ := h.cells i hi
  have := hc 0 _ rfl
  exact ⟨b, o, e, hb, by simpa [eBy] using this⟩
theorem open_bytes {a : Option Addr} {len cap : Nat} {d : DataW H} {p : List MemPlace} (h : DataW.Trod enc Try.prog W 0 (fun _ => true) true 83 (.slice a len cap) d p) :
    ∃ L, Rd eBy W a cap L ∧ L.length = len ∧ len ≤ maxLen ∧ ∀ y ∈ L, 0 ≤ y ∧ y ≤ 255 := by
  refine open_rows eBy (fun y => 0 ≤ y ∧ y ≤ 255) Try.underlying83 cells5 (fun {fuel cs x} hl hx => ?_) h
  obtain ⟨b, e0, _, wb⟩ := DataW.trod_int Try.underlying5 hx
  exact ⟨b, e0, bound_u8 wb⟩
/-- two bytes -/
def e2 : Elt (Int × Int) := ⟨2, fun x => [.int .u8 x.1, .int .u8 x.2], fun _ => rfl, by intro x v hv; simp at hv; rcases hv with rfl | rfl <;> rfl, by decide⟩
theorem Rd.two {w : World} {p : Option Addr} {c : Nat} {l : List (Int × Int)} (h : Rd e2 w p c l) (i : Nat) (hi : i < l.length) :
    ∃ b o, p = some ⟨b, o, none⟩ ∧ b < w.heap.size ∧ w.cell? ⟨b, o + i * 2, none⟩ = some (.int .u8 (l[i]).1) ∧ w.cell? ⟨b, o + i * 2 + 1, none⟩ = some (.int .u8 (l[i]).2) := by
  obtain ⟨b, o, e, hb, hc⟩ := h.cells i hi
  have h0 := hc 0 _ rfl
  have h1 := hc 1 _ rfl
  exact ⟨b, o, e, hb, by simpa [e2] using h0, by simpa [e2] using h1⟩
def Byte2 (y : Int × Int) : Prop := (0 ≤ y.1 ∧ y.1 ≤ 255) ∧ (0 ≤ y.2 ∧ y.2 ≤ 255)
theorem open_twos {a : Option Addr} {len cap : Nat} {d : DataW H} {p : List MemPlace} (h : DataW.Trod enc Try.prog W 0 (fun _ => true) true 87 (.slice a len cap) d p) :
    ∃ L, Rd e2 W a cap L ∧ L.length = len ∧ len ≤ maxLen ∧ ∀ y ∈ L, Byte2 y := by
  refine open_rows e2 Byte2 Try.underlying87 cells89 (fun {fuel cs x} hl hx => ?_) h
  obtain ⟨a, b, rfl⟩ := list_two hl
  obtain ⟨xs, m, _, _, hl2, hlen, hf⟩ := DataW.trod_array Try.underlying89 hx
  match xs, hlen with
  | [y0, y1], _ =>
    have h0 := hf 0 (by decide)
    have h1 := hf 1 (by decide)
    simp [cells5] at h0 h1
    obtain ⟨i, e0, _, w0⟩ := DataW.trod_int Try.underlying5 h0
    obtain ⟨j, e1, _, w1⟩ := DataW.trod_int Try.underlying5 h1
    simp at e0 e1
    subst e0 e1
    exact ⟨(i, j), rfl, bound_u8 w0, bound_u8 w1⟩
/-- a deed's cells -/
structure De where
  k : Int
  x : Int
  a : Int
  g : Int
  c : Int
  h : Int
  lp : Option Addr
  ln : Nat
  lc : Nat
  wp : Option Addr
  wn : Nat
  wc : Nat
  b : Nat
  fp : Option Addr
  fn : Nat
  fc : Nat
instance : Inhabited De := ⟨⟨0, 0, 0, 0, 0, 0, none, 0, 0, none, 0, 0, 0, none, 0, 0⟩⟩
def dcs (x : De) : List Value := [.int .i64 x.k, .int .i64 x.x, .int .i64 x.a, .int .i64 x.g, .int .i64 x.c, .int .i64 x.h, .slice x.lp x.ln x.lc, .slice x.wp x.wn x.wc, .int .u32 (x.b : Int), .slice x.fp x.fn x.fc]
def eD : Elt De := ⟨10, dcs, fun _ => rfl, by intro x v hv; simp [dcs] at hv; rcases hv with rfl | rfl | rfl | rfl | rfl | rfl | rfl | rfl | rfl | rfl <;> rfl, by decide⟩
/-- what holds of a deed that came in -/
structure Deed (W : World) (x : De) : Prop where
  a : (Lit.int .i64 x.a).wf = true
  g : (Lit.int .i64 x.g).wf = true
  k : (Lit.int .i64 x.k).wf = true
  L : ∃ l, Rd eI W x.lp x.lc l ∧ l.length = x.ln
  Q : ∃ l, Rd eI W x.wp x.wc l ∧ l.length = x.wn
  F : ∃ l, Rd eW W x.fp x.fc l ∧ UL l ∧ l.length = x.fn
  b : x.b < 4294967296
theorem open_deeds {a : Option Addr} {len cap : Nat} {d : DataW H} {p : List MemPlace} (h : DataW.Trod enc Try.prog W 0 (fun _ => true) true 22 (.slice a len cap) d p) :
    ∃ L, Rd eD W a cap L ∧ L.length = len ∧ len ≤ maxLen ∧ ∀ y ∈ L, Deed W y := by
  refine open_rows eD (Deed W) Try.underlying22 cells49 (fun {fuel cs x} hl hx => ?_) h
  obtain ⟨c0, c1, c2, c3, c4, c5, c6, c7, c8, c9, rfl⟩ := list_ten hl
  obtain ⟨xs, n, _, _, _, hlen, hf⟩ := DataW.trod_struct Try.underlying49 hx
  match xs, hlen with
  | [y0, y1, y2, y3, y4, y5], _ =>
    have h0 := hf 0 _ rfl
    have h1 := hf 1 _ rfl
    have h2 := hf 2 _ rfl
    have h3 := hf 3 _ rfl
    have h4 := hf 4 _ rfl
    have h5 := hf 5 _ rfl
    simp [cells3, cells38, cells40, cells43, cells47] at h0 h1 h2 h3 h4 h5
    obtain ⟨k, e0, wk⟩ := open_i64 h0
    obtain ⟨z, e1, _⟩ := open_i64 h1
    obtain ⟨a, g, e2, wa, wg⟩ := cells_handle rfl h2
    obtain ⟨c, h, e3⟩ := cells_sema rfl h3
    obtain ⟨lp, ln, lc, L, wp, wn, wc, Q, e4, r0, r1, l0, l1⟩ := cells_box rfl h4
    obtain ⟨b, fp, fn, fc, F, e5, hb, r2, u2, l2⟩ := cells_flag rfl h5
    simp at e0 e1 e2 e3 e4 e5
    obtain ⟨rfl, rfl⟩ := e2
    obtain ⟨rfl, rfl⟩ := e3
    obtain ⟨rfl, rfl⟩ := e4
    obtain ⟨rfl, rfl⟩ := e5
    subst e0 e1
    exact ⟨⟨k, z, a, g, c, h, lp, ln, lc, wp, wn, wc, b, fp, fn, fc⟩, rfl, ⟨wa, wg, wk, ⟨L, r0, l0⟩, ⟨Q, r1, l1⟩, ⟨F, r2, u2, l2⟩, hb⟩⟩
end
end Go.Proofs.Ytcncpefdjgnhdaa
