/-
  An argument that is a machine, opened.
-/
import Derived.Test.YtboffjabffcddaaOpens
import Derived.Test.YtboffjabffcddaaMachp
import Derived.OpenShut
namespace Go.Proofs.Ytboffjabffcddaa
open Go.ChangeShapes Go.WideShapes Go.ChangeAt Go.RowKit

set_option maxRecDepth 20000 in
theorem cells47 : Try.prog.cellsOf 47 = 11 := by kernel_rfl
set_option maxRecDepth 20000 in
theorem cells44 : Try.prog.cellsOf 44 = 8 := by kernel_rfl
set_option maxRecDepth 20000 in
theorem cells45 : Try.prog.cellsOf 45 = 1 := by kernel_rfl
set_option maxRecDepth 20000 in
theorem cells4 : Try.prog.cellsOf 4 = 1 := by kernel_rfl
set_option maxRecDepth 20000 in
theorem cells73 : Try.prog.cellsOf 73 = 3 := by kernel_rfl
theorem list11 {l : List Value} (h : l.length = 11) : l = (l.drop 0).take 1 ++ ((l.drop 1).take 8 ++ ([l[9]'(by omega)] ++ (l.drop 10).take 1)) := by
  match l, h with
  | [a0, a1, a2, a3, a4, a5, a6, a7, a8, a9, a10], _ => rfl
section
variable {H : Type} {enc : TypeId × Value → H} {W : World}
set_option maxRecDepth 20000 in
theorem rep_cells {fuel : Nat} {cs : List Value} {x : DataW H × List MemPlace} (h : DataW.trod enc Try.prog W 0 (fun _ => true) true fuel 73 cs = some x) :
    ∃ a b n : Int, cs = [.int .i64 a, .int .i64 b, .int .i64 n] ∧ -9223372036854775808 ≤ n ∧ n ≤ 9223372036854775807 := by
  obtain ⟨y0, y1, y2, m, _, hl, h0, h1, h2⟩ := Go.Deep.trod_struct3 Try.underlying73 h
  rw [cells73] at hl
  match cs, hl with
  | [c0, c1, c2], _ =>
    obtain ⟨a, e1, _, _⟩ := DataW.trod_int Try.underlying3 h0
    obtain ⟨b, e2, _, _⟩ := DataW.trod_int Try.underlying3 h1
    obtain ⟨n, e3, _, hn⟩ := DataW.trod_int Try.underlying3 h2
    simp [cells3] at e1 e2 e3
    subst e1 e2 e3
    exact ⟨a, b, n, rfl, i64_in hn⟩
set_option maxRecDepth 20000 in
theorem open_reps {fuel : Nat} {c : Value} {x : DataW H × List MemPlace} (hf : DataW.trod enc Try.prog W 0 (fun _ => true) true fuel 45 [c] = some x) :
    ∃ (a : Option Addr) (len cap : Nat) (L : List Rp), c = .slice a len cap ∧ Rd eRp W a cap L ∧ L.length = len ∧ len ≤ maxLen ∧ ∀ r ∈ L, -9223372036854775808 ≤ r.2.2 ∧ r.2.2 ≤ 9223372036854775807 := by
  rcases Go.Deep.open_slice Try.underlying45 hf with ⟨hcs, _⟩ | ⟨x, l, c', m, n, D, Pl, hcs, _, hl, hm, hmm, _, hx⟩
  · simp at hcs
    subst hcs
    exact ⟨none, 0, 0, [], rfl, Rd.nil _, rfl, Nat.zero_le _, fun r hr => by cases hr⟩
  · simp at hcs
    subst hcs
    simp only [if_pos] at hmm
    subst hmm
    obtain ⟨T, hT⟩ := Go.Deep.choose_lt (α := Rp) (p := fun i t => (W.cell? (x.add (i * 3)) = some (.int .i64 t.1) ∧ W.cell? ((x.add (i * 3)).add 1) = some (.int .i64 t.2.1) ∧ W.cell? ((x.add (i * 3)).add 2) = some (.int .i64 t.2.2)) ∧ -9223372036854775808 ≤ t.2.2 ∧ t.2.2 ≤ 9223372036854775807) (fun i hi => by
      obtain ⟨cs', h1, h2⟩ := hx i hi
      rw [cells73] at h1
      obtain ⟨u, v, t, rfl, hb⟩ := rep_cells h2
      obtain ⟨_, _, hg⟩ := World.cells?_some h1
      have g0 := hg 0 (by omega)
      have g1 := hg 1 (by omega)
      have g2 := hg 2 (by omega)
      have e0 : (x.add (i * 3)).add 0 = x.add (i * 3) := by simp [Addr.add]
      rw [e0] at g0
      exact ⟨(u, v, t), ⟨g0, g1, g2⟩, hb⟩)
    have hlen : ((List.range l).map T).length = l := by simp
    refine ⟨some x, l, m, (List.range l).map T, rfl, ⟨by rw [hlen]; exact hl, .inr ⟨x.block, x.off, x.spot, by cases x; rfl, fun hne => ?_, fun j v hj => ?_⟩⟩, hlen, Nat.le_trans hl hm, fun r hr => ?_⟩
    · have h0 : 0 < l := by
        rcases Nat.eq_zero_or_pos l with h | h
        · exact absurd (by rw [h]; simp) hne
        · exact h
      have := (hT 0 (by omega)).1.1
      rw [Nat.zero_mul] at this
      exact spot_none this
    · have hj3 : j < l * 3 := by
        have := (List.getElem?_eq_some_iff.1 hj).1
        rw [fl_length, hlen] at this
        exact this
      have hi : j / 3 < l := by omega
      have hjj : j = j / 3 * 3 + j % 3 := by omega
      have hget := fl_get eRp ((List.range l).map T) (j / 3) (by rw [hlen]; exact hi) (j % 3) (by show _ < 3; omega)
      have e3 : eRp.k = 3 := rfl
      rw [e3, ← hjj, hj] at hget
      simp only [List.getElem_map, List.getElem_range] at hget
      obtain ⟨⟨c0, c1, c2⟩, _⟩ := hT (j / 3) (by omega)
      rw [Go.Deep.add_add] at c1 c2
      have c0 := cell_plain c0
      have c1 := cell_plain c1
      have c2 := cell_plain c2
      have hr : j % 3 = 0 ∨ j % 3 = 1 ∨ j % 3 = 2 := by omega
      rw [hjj]
      rcases hr with hr | hr | hr <;> rw [hr] at hget ⊢
      · cases hget; exact c0
      · cases hget; exact c1
      · cases hget; exact c2
    · obtain ⟨i, hi, rfl⟩ := List.mem_map.1 hr
      exact (hT i (by have := List.mem_range.1 hi; omega)).2
set_option maxRecDepth 20000 in
theorem open_mems {fuel : Nat} {cs : List Value} {x : DataW H × List MemPlace} (h : DataW.trod enc Try.prog W 0 (fun _ => true) true fuel 44 cs = some x) :
    ∃ mem : List Int, mem.length = 8 ∧ cs = mem.map (Value.int .i64) ∧ ∀ v ∈ mem, -9223372036854775808 ≤ v ∧ v ≤ 9223372036854775807 := by
  obtain ⟨xs, m, _, _, hl, hxs, hi⟩ := DataW.trod_array Try.underlying44 h
  rw [cells44] at hl
  have key : ∀ i, i < 8 → ∃ v : Int, cs[i]? = some (.int .i64 v) ∧ -9223372036854775808 ≤ v ∧ v ≤ 9223372036854775807 := fun i h8 => by
    have h1 := hi i h8
    rw [List.getElem?_eq_getElem (by omega)] at h1
    obtain ⟨v, e, _, hw⟩ := DataW.trod_int Try.underlying2 h1
    refine ⟨v, ?_, i64_in hw⟩
    have e1 : Try.prog.cellsOf 2 = 1 := by kernel_rfl
    rw [e1, Nat.mul_one] at e
    have h2 := congrArg (fun l => l[0]?) e
    simpa using h2
  obtain ⟨T, hT⟩ := Go.Deep.choose_lt (α := Int) (p := fun i v => cs[i]? = some (.int .i64 v) ∧ -9223372036854775808 ≤ v ∧ v ≤ 9223372036854775807) key
  refine ⟨(List.range 8).map T, by simp, ?_, fun v hv => ?_⟩
  · apply List.ext_getElem (by simp [hl])
    intro i h1 h2
    have := (hT i (by omega)).1
    rw [List.getElem?_eq_getElem h1] at this
    simpa using this
  · obtain ⟨i, hi, rfl⟩ := List.mem_map.1 hv
    exact (hT i (by simpa using hi)).2
set_option maxRecDepth 20000 in
theorem open_machine {base : Nat} {v : Value} {d : DataW H} {p : List MemPlace} (hv : Value.okWide Try.prog W .any base 47 v) (h : DataW.Trod enc Try.prog W 0 (fun _ => true) true 47 v d p) :
    ∃ (pc : Int) (mem : List Int) (q : Option Addr) (k c : Nat) (ov : Bool) (R : List Rp), v = .agg (mcell pc mem q k c ov) ∧ mem.length = 8 ∧ (-9223372036854775808 ≤ pc ∧ pc ≤ 9223372036854775807) ∧ (∀ v ∈ mem, -9223372036854775808 ≤ v ∧ v ≤ 9223372036854775807) ∧ Rd eRp W q c R ∧ R.length = k ∧ k ≤ maxLen ∧ ∀ r ∈ R, -9223372036854775808 ≤ r.2.2 ∧ r.2.2 ≤ 9223372036854775807 := by
  obtain ⟨cs, rfl, hsz⟩ := okWide_struct Try.underlying47 hv
  rw [cells47] at hsz
  obtain ⟨fuel, hf⟩ := h
  have hf' : DataW.trod enc Try.prog W 0 (fun _ => true) true fuel 47 cs.toList = some (d, p) := hf
  obtain ⟨y0, y1, y2, y3, m, _, hl, h0, h1, h2, h3⟩ := Go.Joins.trod_struct4 Try.underlying47 hf'
  simp only at h0 h1 h2 h3
  obtain ⟨pc, e0, _, hpc⟩ := DataW.trod_int Try.underlying3 h0
  obtain ⟨mem, hm, e1, hmb⟩ := open_mems h1
  rw [cells45] at h2
  have hsz' : cs.toList.length = 11 := by simpa using hsz
  have e9 : (cs.toList.drop 9).take 1 = [cs.toList[9]'(by omega)] := by
    rw [List.drop_eq_getElem_cons (by omega)]
    rfl
  rw [e9] at h2
  obtain ⟨q, k, c, R, e2, hR, hk, hkm, hRb⟩ := open_reps h2
  obtain ⟨ov, e3, _⟩ := DataW.trod_bool Try.underlying4 h3
  rw [cells3] at e0
  rw [cells44] at e1
  rw [cells4] at e3
  refine ⟨pc, mem, q, k, c, ov, R, ?_, hm, i64_in hpc, hmb, hR, hk, hkm, hRb⟩
  congr 1
  apply Array.toList_inj.1
  have e : cs.toList = (cs.toList.drop 0).take 1 ++ ((cs.toList.drop 1).take 8 ++ ([cs.toList[9]'(by omega)] ++ (cs.toList.drop 10).take 1)) := by
    exact list11 hsz'
  rw [e, e0, e1, e2, e3]
  simp [mcell]
end
end Go.Proofs.Ytboffjabffcddaa
