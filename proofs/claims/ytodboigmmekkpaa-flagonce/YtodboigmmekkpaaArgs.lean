/-
  What came in, read: a slice whose elements lie in cells one behind the other, whatever they are; flags and who waits for them, masks, threes of bytes.
-/
import Derived.Test.YtodboigmmekkpaaElts
import Derived.WalkKit
import Derived.ProofKit
import Derived.OpenShut
import Derived.ChangeOld
import Derived.ChangeSame
import Derived.Deep.Grids
import Derived.Deep.Slices
import Derived.Laws.IdiomArrays
import Derived.Lib.SmallJoins
namespace Go.Proofs.Ytodboigmmekkpaa
open Go.ChangeShapes Go.WideShapes Go.ChangeAt Go.RowKit

theorem spot_none {w : World} {x : Addr} {v : Value} (h : w.cell? (x.add 0) = some v) : x.spot = none := by
  have e : x.add 0 = x := by simp [Addr.add]
  rw [e] at h
  unfold World.cell? at h
  split at h
  · split at h
    · cases h
    · rename_i hs; simpa using hs
  · cases h
theorem cell_plain {w : World} {x : Addr} {i : Nat} {v : Value} (h : w.cell? (x.add i) = some v) : w.cell? ⟨x.block, x.off + i, none⟩ = some v := by
  by_cases hi : i = 0
  · subst hi
    have hs := spot_none h
    obtain ⟨b, o, s⟩ := x
    simp only at hs
    subst hs
    simpa [Addr.add] using h
  · simpa [Addr.add, hi] using h
theorem bound_u32 {n : Int} (h : (Lit.int .u32 n).wf = true) : 0 ≤ n ∧ n < 4294967296 := by
  have := bounds_u32 h
  omega
theorem bound_u8 {n : Int} (h : (Lit.int .u8 n).wf = true) : 0 ≤ n ∧ n ≤ 255 := by
  have := bounds_u8 h
  omega
section
variable {H : Type} {enc : TypeId × Value → H} {W : World}
/-- A slice that came in, its elements opened one by one. -/
theorem open_rows {α : Type} [Inhabited α] (E : Elt α) (Pr : α → Prop) {t e : TypeId} (hu : Try.prog.underlying t = some (.slice e)) (hk : Try.prog.cellsOf e = E.k)
    (hc : ∀ {fuel : Nat} {cs : List Value} {x : DataW H × List MemPlace}, cs.length = E.k → DataW.trod enc Try.prog W 0 (fun _ => true) true fuel e cs = some x → ∃ y, cs = E.enc y ∧ Pr y)
    {a : Option Addr} {len cap : Nat} {d : DataW H} {p : List MemPlace} (h : DataW.Trod enc Try.prog W 0 (fun _ => true) true t (.slice a len cap) d p) :
    ∃ L, Rd E W a cap L ∧ L.length = len ∧ len ≤ maxLen ∧ ∀ y ∈ L, Pr y := by
  obtain ⟨fuel, hf⟩ := h
  rcases Go.Deep.open_slice hu hf with ⟨hcs, _⟩ | ⟨x, l, c, m, n, D, Pl, hcs, _, hl, hm, hmm, _, hx⟩
  · simp [Value.cells] at hcs
    obtain ⟨rfl, rfl, rfl⟩ := hcs
    exact ⟨[], Rd.nil _, rfl, Nat.zero_le _, fun y hy => by simp at hy⟩
  · simp [Value.cells] at hcs
    obtain ⟨rfl, rfl, rfl⟩ := hcs
    have hmc : m = cap := by simpa using hmm
    have hlm : len ≤ m := by omega
    obtain ⟨T, hT⟩ := Go.Deep.choose_lt (α := α) (p := fun i t => Pr t ∧ ∀ j, j < E.k → W.cell? ((x.add (i * E.k)).add j) = (E.enc t)[j]?) (fun i hi => by
      obtain ⟨cs', h1, h2⟩ := hx i hi
      rw [hk] at h1
      obtain ⟨_, hlen, hg⟩ := World.cells?_some h1
      obtain ⟨y, rfl, hy⟩ := hc hlen h2
      exact ⟨y, hy, hg⟩)
    have hlen : ((List.range len).map T).length = len := by simp
    refine ⟨(List.range len).map T, ⟨by rw [hlen]; exact hl, .inr ⟨x.block, x.off, x.spot, by cases x; rfl, fun hne => ?_, fun j v hj => ?_⟩⟩, hlen, Nat.le_trans hl hm, fun y hy => ?_⟩
    · have h0 : 0 < len := by
        rcases Nat.eq_zero_or_pos len with h | h
        · exact absurd (by rw [h]; simp) hne
        · exact h
      have h1 := (hT 0 (by omega)).2 0 E.pos
      rw [Nat.zero_mul] at h1
      have h2 : (E.enc (T 0))[0]? = some ((E.enc (T 0))[0]'(by rw [E.len]; exact E.pos)) := List.getElem?_eq_getElem _
      rw [h2] at h1
      have e0 : (x.add 0).add 0 = x.add 0 := by simp [Addr.add]
      rw [e0] at h1
      exact spot_none h1
    · have hj4 : j < len * E.k := by
        have := (List.getElem?_eq_some_iff.1 hj).1
        rw [fl_length, hlen] at this
        exact this
      have hi : j / E.k < len := Nat.div_lt_of_lt_mul (by rw [Nat.mul_comm]; exact hj4)
      have hr : j % E.k < E.k := Nat.mod_lt _ E.pos
      have hjj : j = j / E.k * E.k + j % E.k := by rw [Nat.mul_comm]; exact (Nat.div_add_mod _ _).symm
      have hget := fl_get E ((List.range len).map T) (j / E.k) (by rw [hlen]; exact hi) (j % E.k) hr
      rw [← hjj, hj] at hget
      simp only [List.getElem_map, List.getElem_range] at hget
      have h1 := (hT (j / E.k) (by omega)).2 (j % E.k) hr
      rw [← hget, Go.Deep.add_add, ← hjj] at h1
      exact cell_plain h1
    · obtain ⟨i, hi, rfl⟩ := List.mem_map.1 hy
      exact (hT i (Nat.lt_of_lt_of_le (List.mem_range.1 hi) hlm)).1

/-- .. as a part of something else. -/
theorem open_rowsC {α : Type} [Inhabited α] (E : Elt α) (Pr : α → Prop) {t e : TypeId} (hu : Try.prog.underlying t = some (.slice e)) (hk : Try.prog.cellsOf e = E.k)
    (hc : ∀ {fuel : Nat} {cs : List Value} {x : DataW H × List MemPlace}, cs.length = E.k → DataW.trod enc Try.prog W 0 (fun _ => true) true fuel e cs = some x → ∃ y, cs = E.enc y ∧ Pr y)
    {fuel : Nat} {cs : List Value} {x0 : DataW H × List MemPlace} (hf : DataW.trod enc Try.prog W 0 (fun _ => true) true fuel t cs = some x0) :
    ∃ (a : Option Addr) (len cap : Nat) (L : List α), cs = [.slice a len cap] ∧ Rd E W a cap L ∧ L.length = len ∧ len ≤ maxLen ∧ ∀ y ∈ L, Pr y := by
  have hs : ∃ (a : Option Addr) (len cap : Nat), cs = [.slice a len cap] := by
    rcases Go.Deep.open_slice hu hf with ⟨hcs, _⟩ | ⟨x, l, c, m, n, D, Pl, hcs, _⟩
    · exact ⟨_, _, _, hcs⟩
    · exact ⟨_, _, _, hcs⟩
  obtain ⟨a, len, cap, rfl⟩ := hs
  have h : DataW.Trod enc Try.prog W 0 (fun _ => true) true t (.slice a len cap) x0.1 x0.2 := ⟨fuel, hf⟩
  obtain ⟨L, h1, h2, h3, h4⟩ := open_rows E Pr hu hk hc h
  exact ⟨a, len, cap, L, rfl, h1, h2, h3, h4⟩
theorem two_of {cs : Array Value} (h : cs.size = 2) : ∃ a b, cs = #[a, b] := by
  obtain ⟨l⟩ := cs
  match l, h with
  | [a, b], _ => exact ⟨a, b, rfl⟩
theorem cells3 : Try.prog.cellsOf 3 = 1 := by kernel_rfl
theorem cells22 : Try.prog.cellsOf 22 = 1 := by kernel_rfl
theorem cells23 : Try.prog.cellsOf 23 = 1 := by kernel_rfl
theorem cells25 : Try.prog.cellsOf 25 = 2 := by kernel_rfl
theorem cells43 : Try.prog.cellsOf 43 = 2 := by kernel_rfl
theorem open_u32 {fuel : Nat} {cs : List Value} {x : DataW H × List MemPlace} (hx : DataW.trod enc Try.prog W 0 (fun _ => true) true fuel 22 cs = some x) : ∃ m : Nat, cs = [.int .u32 (m : Int)] ∧ m < 4294967296 := by
  obtain ⟨b, e0, _, wb⟩ := DataW.trod_int Try.underlying22 hx
  obtain ⟨h0, h1⟩ := bound_u32 wb
  obtain ⟨m, rfl⟩ := Int.eq_ofNat_of_zero_le h0
  exact ⟨m, e0, by omega⟩
theorem open_masks {a : Option Addr} {len cap : Nat} {d : DataW H} {p : List MemPlace} (h : DataW.Trod enc Try.prog W 0 (fun _ => true) true 45 (.slice a len cap) d p) :
    ∃ L, Rd eU W a cap L ∧ L.length = len ∧ len ≤ maxLen ∧ ∀ y ∈ L, y < 4294967296 := by
  refine open_rows eU (fun y => y < 4294967296) Try.underlying45 cells22 (fun {fuel cs x} hl hx => ?_) h
  exact open_u32 hx
theorem list_two {cs : List Value} (h : cs.length = 2) : ∃ a b, cs = [a, b] := by
  match cs, h with
  | [a, b], _ => exact ⟨a, b, rfl⟩
theorem list_three {cs : List Value} (h : cs.length = 3) : ∃ a b c, cs = [a, b, c] := by
  match cs, h with
  | [a, b, c], _ => exact ⟨a, b, c, rfl⟩
theorem open_waiter {fuel : Nat} {cs : List Value} {x : DataW H × List MemPlace} (hl : cs.length = 2) (hx : DataW.trod enc Try.prog W 0 (fun _ => true) true fuel 43 cs = some x) : ∃ y : Wt, cs = eW.enc y ∧ y.2 < 4294967296 := by
  obtain ⟨a, b, rfl⟩ := list_two hl
  obtain ⟨y0, y1, n, e, _, h0, h1⟩ := trod_struct2 Try.underlying43 hx
  obtain ⟨c, e0, _, _⟩ := DataW.trod_int Try.underlying3 h0
  obtain ⟨m, e1, hm⟩ := open_u32 h1
  simp [cells3] at e0
  simp [cells22] at e1
  subst e0 e1
  exact ⟨(c, m), rfl, hm⟩
theorem open_flag {base : Nat} {v : Value} {d : DataW H} {p : List MemPlace} (hv : Value.okWide Try.prog W .any base 25 v) (h : DataW.Trod enc Try.prog W 0 (fun _ => true) true 25 v d p) :
    ∃ (b : Nat) (a : Option Addr) (n c : Nat) (L : List Wt), v = .agg #[.int .u32 (b : Int), .slice a n c] ∧ b < 4294967296 ∧ Rd eW W a c L ∧ UL L ∧ L.length = n := by
  obtain ⟨cs, rfl, hsz⟩ := okWide_struct Try.underlying25 hv
  rw [cells25] at hsz
  obtain ⟨c0, c1, rfl⟩ := two_of hsz
  obtain ⟨fuel, hf⟩ := h
  obtain ⟨y0, y1, n, _, _, h0, h1⟩ := trod_struct2 Try.underlying25 hf
  obtain ⟨b, e0, hb⟩ := open_u32 h0
  obtain ⟨a, la, ca, L, e1, r1, l1, _, hL⟩ := open_rowsC eW (fun y => y.2 < 4294967296) Try.underlying23 cells43 (fun {fuel cs x} hl hx => open_waiter hl hx) h1
  simp [cells22, Value.cells] at e0
  simp [cells23, Value.cells] at e1
  subst e0 e1
  exact ⟨b, a, la, ca, L, rfl, hb, r1, hL, l1⟩
theorem cells41 : Try.prog.cellsOf 41 = 3 := by kernel_rfl
theorem cells5 : Try.prog.cellsOf 5 = 1 := by kernel_rfl
/-- three bytes -/
def e3 : Elt (Int × Int × Int) := ⟨3, fun x => [.int .u8 x.1, .int .u8 x.2.1, .int .u8 x.2.2], fun _ => rfl, by intro x v hv; simp at hv; rcases hv with rfl | rfl | rfl <;> rfl, by decide⟩
theorem Rd.three {w : World} {p : Option Addr} {c : Nat} {l : List (Int × Int × Int)} (h : Rd e3 w p c l) (i : Nat) (hi : i < l.length) :
    ∃ b o, p = some ⟨b, o, none⟩ ∧ b < w.heap.size ∧ w.cell? ⟨b, o + i * 3, none⟩ = some (.int .u8 (l[i]).1) ∧ w.cell? ⟨b, o + i * 3 + 1, none⟩ = some (.int .u8 (l[i]).2.1) ∧ w.cell? ⟨b, o + i * 3 + 2, none⟩ = some (.int .u8 (l[i]).2.2) := by
  obtain ⟨b, o, e, hb, hc⟩ := h.cells i hi
  have h0 := hc 0 _ rfl
  have h1 := hc 1 _ rfl
  have h2 := hc 2 _ rfl
  exact ⟨b, o, e, hb, by simpa [e3] using h0, by simpa [e3] using h1, by simpa [e3] using h2⟩
def Byte3 (y : Int × Int × Int) : Prop := (0 ≤ y.1 ∧ y.1 ≤ 255) ∧ (0 ≤ y.2.1 ∧ y.2.1 ≤ 255) ∧ (0 ≤ y.2.2 ∧ y.2.2 ≤ 255)
theorem open_threes {a : Option Addr} {len cap : Nat} {d : DataW H} {p : List MemPlace} (h : DataW.Trod enc Try.prog W 0 (fun _ => true) true 39 (.slice a len cap) d p) :
    ∃ L, Rd e3 W a cap L ∧ L.length = len ∧ len ≤ maxLen ∧ ∀ y ∈ L, Byte3 y := by
  refine open_rows e3 Byte3 Try.underlying39 cells41 (fun {fuel cs x} hl hx => ?_) h
  obtain ⟨a, b, c, rfl⟩ := list_three hl
  obtain ⟨y0, y1, y2, n, _, h0, h1, h2⟩ := trod_array3 Try.underlying41 cells5 hx
  obtain ⟨i, e0, _, w0⟩ := DataW.trod_int Try.underlying5 h0
  obtain ⟨j, e1, _, w1⟩ := DataW.trod_int Try.underlying5 h1
  obtain ⟨k, e2, _, w2⟩ := DataW.trod_int Try.underlying5 h2
  simp at e0 e1 e2
  subst e0 e1 e2
  exact ⟨(i, j, k), rfl, bound_u8 w0, bound_u8 w1, bound_u8 w2⟩
end
end Go.Proofs.Ytodboigmmekkpaa
