/-
  A task that came in, read.
-/
import Derived.Test.YtonholadabebbaaOpens
import Derived.Test.YtonholadabebbaaTthree
import Derived.Laws.IdiomArrays
import Derived.Lib.SmallJoins
import Derived.Deep.Slices
namespace Go.Proofs.Ytonholadabebbaa
open Go.ChangeShapes Go.WideShapes Go.ChangeAt Go.RowKit

section
variable {H : Type} {enc : TypeId × Value → H} {W : World}
theorem open_i64 {fuel : Nat} {cs : List Value} {x : DataW H × List MemPlace} (t : TypeId) (ht : Try.prog.underlying t = some (.int .i64)) (hx : DataW.trod enc Try.prog W 0 (fun _ => true) true fuel t cs = some x) : ∃ m : Int, cs = [.int .i64 m] ∧ (Lit.int .i64 m).wf = true := by
  obtain ⟨b, e0, _, wb⟩ := DataW.trod_int ht hx
  exact ⟨b, e0, wb⟩
theorem open_instsC {fuel : Nat} {cs : List Value} {x0 : DataW H × List MemPlace} (hf : DataW.trod enc Try.prog W 0 (fun _ => true) true fuel 22 cs = some x0) :
    ∃ (a : Option Addr) (len cap : Nat) (L : List In), cs = [.slice a len cap] ∧ Rd eIn W a cap L ∧ L.length = len ∧ len ≤ maxLen := by
  have hs : ∃ (a : Option Addr) (len cap : Nat), cs = [.slice a len cap] := by
    rcases Go.Deep.open_slice Try.underlying22 hf with ⟨hcs, _⟩ | ⟨x, l, c, m, n, D, Pl, hcs, _⟩
    · exact ⟨_, _, _, hcs⟩
    · exact ⟨_, _, _, hcs⟩
  obtain ⟨a, len, cap, rfl⟩ := hs
  have h : DataW.Trod enc Try.prog W 0 (fun _ => true) true 22 (.slice a len cap) x0.1 x0.2 := ⟨fuel, hf⟩
  obtain ⟨L, h1, h2, h3⟩ := open_insts h
  exact ⟨a, len, cap, L, rfl, h1, h2, h3⟩
theorem cells24 : Try.prog.cellsOf 24 = 6 := by kernel_rfl
theorem cells22 : Try.prog.cellsOf 22 = 1 := by kernel_rfl
theorem six_of {cs : Array Value} (h : cs.size = 6) : ∃ a b c d e f, cs = #[a, b, c, d, e, f] := by
  obtain ⟨l⟩ := cs
  match l, h with
  | [a, b, c, d, e, f], _ => exact ⟨a, b, c, d, e, f, rfl⟩
set_option maxRecDepth 20000 in
theorem open_task {base : Nat} {v : Value} {d : DataW H} {p : List MemPlace} (hv : Value.okWide Try.prog W .any base 24 v) (h : DataW.Trod enc Try.prog W 0 (fun _ => true) true 24 v d p) :
    ∃ (x : Tv) (M Y O : List In), v = .agg #[.int .i64 x.r, .int .i64 x.p, .int .i64 x.e, .slice x.mp x.mn x.mc, .slice x.wp x.wn x.wc, .slice x.op x.on x.oc] ∧ Rd eIn W x.mp x.mc M ∧ Rd eIn W x.wp x.wc Y ∧ Rd eIn W x.op x.oc O ∧ M.length = x.mn ∧ Y.length = x.wn ∧ O.length = x.on ∧ (Lit.int .i64 x.r).wf = true ∧ (Lit.int .i64 x.p).wf = true ∧ (Lit.int .i64 x.e).wf = true := by
  obtain ⟨cs, rfl, hsz⟩ := okWide_struct Try.underlying24 hv
  rw [cells24] at hsz
  obtain ⟨c0, c1, c2, c3, c4, c5, rfl⟩ := six_of hsz
  obtain ⟨fuel, hx⟩ := h
  obtain ⟨xs, n, _, _, _, hlen, hf⟩ := DataW.trod_struct Try.underlying24 hx
  match xs, hlen with
  | [y0, y1, y2, y3, y4, y5], _ =>
    have h0 := hf 0 _ rfl
    have h1 := hf 1 _ rfl
    have h2 := hf 2 _ rfl
    have h3 := hf 3 _ rfl
    have h4 := hf 4 _ rfl
    have h5 := hf 5 _ rfl
    simp [cells2, cells3, cells22, Value.cells] at h0 h1 h2 h3 h4 h5
    obtain ⟨r, e0, w0⟩ := open_i64 3 Try.underlying3 h0
    obtain ⟨p, e1, w1⟩ := open_i64 2 Try.underlying2 h1
    obtain ⟨e, e2, w2⟩ := open_i64 2 Try.underlying2 h2
    obtain ⟨mp, mn, mc, M, e3, r3, l3, _⟩ := open_instsC h3
    obtain ⟨wp, wn, wc, Y, e4, r4, l4, _⟩ := open_instsC h4
    obtain ⟨op, on, oc, O, e5, r5, l5, _⟩ := open_instsC h5
    simp at e0 e1 e2 e3 e4 e5
    subst e0 e1 e2 e3 e4 e5
    exact ⟨⟨r, p, e, mp, mn, mc, wp, wn, wc, op, on, oc⟩, M, Y, O, rfl, r3, r4, r5, l3, l4, l5, w0, w1, w2⟩
end
end Go.Proofs.Ytonholadabebbaa
