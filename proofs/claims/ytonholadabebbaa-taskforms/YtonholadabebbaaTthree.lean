/-
  Three tasks in a row.
-/
import Derived.Test.YtonholadabebbaaTtask
namespace Go.Proofs.Ytonholadabebbaa
open Go.ChangeShapes Go.WideShapes Go.ChangeAt Go.RowKit
attribute [local go_sem ↓] Go.wp_at_zero Go.wp_at_succ

/-- a task whose programs read -/
structure Gt (w : World) (x : Tv) (M W O : List In) : Prop where
  k : Tk3 w x.mp x.mn x.mc x.wp x.wn x.wc x.op x.on x.oc M W O
  r : I64 x.r
  p : I64 x.p
  e : I64 x.e
theorem Gt.below {w w' : World} {x : Tv} {M W O : List In} (h : Gt w x M W O) (hb : Below w.heap.size w w') : Gt w' x M W O := ⟨h.k.below hb, h.r, h.p, h.e⟩
theorem Rd.task {w : World} {p : Option Addr} {c : Nat} {l : List Tv} (h : Rd eTk w p c l) (i : Nat) (hi : i < l.length) :
    ∃ b o, p = some ⟨b, o, none⟩ ∧ b < w.heap.size ∧ w.cell? ⟨b, o + i * 6, none⟩ = some (.int .i64 l[i].r) ∧ w.cell? ⟨b, o + i * 6 + 1, none⟩ = some (.int .i64 l[i].p) ∧ w.cell? ⟨b, o + i * 6 + 2, none⟩ = some (.int .i64 l[i].e) ∧ w.cell? ⟨b, o + i * 6 + 3, none⟩ = some (.slice l[i].mp l[i].mn l[i].mc) ∧ w.cell? ⟨b, o + i * 6 + 4, none⟩ = some (.slice l[i].wp l[i].wn l[i].wc) ∧ w.cell? ⟨b, o + i * 6 + 5, none⟩ = some (.slice l[i].op l[i].on l[i].oc) := by
  obtain ⟨b, o, e, hb, hc⟩ := h.cells i hi
  exact ⟨b, o, e, hb, hc 0 _ rfl, hc 1 _ rfl, hc 2 _ rfl, hc 3 _ rfl, hc 4 _ rfl, hc 5 _ rfl⟩
/-- all three of a row may be asked -/
def Gts (w : World) (l : List Tv) : Prop := ∀ x ∈ l, ∃ M W O, Gt w x M W O
theorem Gts.below {w w' : World} {l : List Tv} (h : Gts w l) (hb : Below w.heap.size w w') : Gts w' l := fun x hx => by
  obtain ⟨M, W, O, hg⟩ := h x hx
  exact ⟨M, W, O, hg.below hb⟩
end Go.Proofs.Ytonholadabebbaa
