/-
  The state of SlotsAll at a round's head, and what a round makes of it.
-/
import Derived.Test.YtflfmcclihahmaaOnceState
namespace Go.Proofs.Ytflfmcclihahmaa
open Go.ChangeShapes Go.WideShapes Go.ChangeAt Go.RowKit Go.Maps

structure St2 (w wr : World) (S N k : Nat) (a g : Int) (gp : Option Addr) (gc : Nat) (ip : Option Addr) (ic : Nat) (gq : Option Addr) (gd : Nat) (iq : Option Addr) (id : Nat) (gs : List Int) (bs : List Bool) (told : List (Int × Int)) (tp : Option Addr) (tc T : Nat) : Prop where
  a0 : wr.cell? ⟨S, 0, none⟩ = some (.slice gp N gc)
  a1 : wr.cell? ⟨S, 1, none⟩ = some (.slice ip N ic)
  b0 : wr.cell? ⟨S + 1, 0, none⟩ = some (.slice gq N gd)
  b1 : wr.cell? ⟨S + 1, 1, none⟩ = some (.slice iq N id)
  fa : ∀ o, wr.frozen? ⟨S, o, none⟩ = false
  fb : ∀ o, wr.frozen? ⟨S + 1, o, none⟩ = false
  h : At2 wr w.heap.size (.int .i64 a) (.int .i64 g)
  sa : Sl wr gp gc ip ic N N gs bs
  sb : Sl wr gq gd iq id N N gs bs
  bd : ∀ g ∈ gs, 0 ≤ g ∧ g ≤ k
  tl : T = told.length
  tk : T ≤ k
  tw : ∀ x ∈ told, (Lit.int .i64 x.1).wf = true ∧ (Lit.int .i64 x.2).wf = true
  ot : wr.ownsRow (S + 2) 24 2 (.slice tp T tc) T (flat told)
  bw : Below w.heap.size w wr
  hS : w.heap.size + 1 ≤ S

variable {w wr wx V : World} {S N k : Nat} {a g : Int} {gp : Option Addr} {gc : Nat} {ip : Option Addr} {ic : Nat} {gq : Option Addr} {gd : Nat} {iq : Option Addr} {id : Nat} {gs gs' : List Int} {bs bs' : List Bool} {told : List (Int × Int)} {tp : Option Addr} {tc T : Nat}
  {gp' : Option Addr} {gc' : Nat} {ip' : Option Addr} {ic' : Nat} {gq' : Option Addr} {gd' : Nat} {iq' : Option Addr} {id' : Nat}

theorem St2.below (h : St2 w wr S N k a g gp gc ip ic gq gd iq id gs bs told tp tc T) (hb : Below wr.heap.size wr wx) : St2 w wx S N k a g gp gc ip ic gq gd iq id gs bs told tp tc T :=
  have l0 := lt_of_cell h.a0
  have l1 := lt_of_cell h.b0
  ⟨(hb.cell (p := ⟨S, 0, none⟩) l0).trans h.a0, (hb.cell (p := ⟨S, 1, none⟩) l0).trans h.a1, (hb.cell (p := ⟨S + 1, 0, none⟩) l1).trans h.b0, (hb.cell (p := ⟨S + 1, 1, none⟩) l1).trans h.b1,
    fun o => (hb.frozen (p := ⟨S, o, none⟩) l0).trans (h.fa o), fun o => (hb.frozen (p := ⟨S + 1, o, none⟩) l1).trans (h.fb o), h.h.below hb, h.sa.below hb, h.sb.below hb, h.bd, h.tl, h.tk, h.tw, owns_below h.ot hb, bel_call h.bw (Nat.le_refl _) hb, h.hS⟩

/-- a, b = u, v: the next state. -/
theorem st2_move (h : St2 w wr S N k a g gp gc ip ic gq gd iq id gs bs told tp tc T) (hV : Below wr.heap.size wr V) (su : SlO V wr.heap.size gp' gc' ip' ic' N N gs' bs') (sv : SlO V wr.heap.size gq' gd' iq' id' N N gs' bs') (hbd : ∀ g ∈ gs', 0 ≤ g ∧ g ≤ ((k + 1 : Nat) : Int)) :
    St2 w (((((V.setCell ⟨S, 0, none⟩ (.slice gp' N gc')).setCell ⟨S, 1, none⟩ (.slice ip' N ic')).setCell ⟨S + 1, 0, none⟩ (.slice gq' N gd')).setCell ⟨S + 1, 1, none⟩ (.slice iq' N id'))) S N (k + 1) a g gp' gc' ip' ic' gq' gd' iq' id' gs' bs' told tp tc T ∧
      SlO (((((V.setCell ⟨S, 0, none⟩ (.slice gp' N gc')).setCell ⟨S, 1, none⟩ (.slice ip' N ic')).setCell ⟨S + 1, 0, none⟩ (.slice gq' N gd')).setCell ⟨S + 1, 1, none⟩ (.slice iq' N id'))) wr.heap.size gp' gc' ip' ic' N N gs' bs' ∧
      SlO (((((V.setCell ⟨S, 0, none⟩ (.slice gp' N gc')).setCell ⟨S, 1, none⟩ (.slice ip' N ic')).setCell ⟨S + 1, 0, none⟩ (.slice gq' N gd')).setCell ⟨S + 1, 1, none⟩ (.slice iq' N id'))) wr.heap.size gq' gd' iq' id' N N gs' bs' := by
  have h2 := h.below hV
  have l0 : S < wr.heap.size := lt_of_cell h.a0
  have l1 : S + 1 < wr.heap.size := lt_of_cell h.b0
  have d0 := h2.a0
  have d1 := h2.a1
  have d2 := h2.b0
  have d3 := h2.b1
  have hh := h2.h
  have hS := h.hS
  have su' := (((su.setLow (a := ⟨S, 0, none⟩) l0 (.slice gp' N gc')).setLow (a := ⟨S, 1, none⟩) l0 (.slice ip' N ic')).setLow (a := ⟨S + 1, 0, none⟩) l1 (.slice gq' N gd')).setLow (a := ⟨S + 1, 1, none⟩) l1 (.slice iq' N id')
  have sv' := (((sv.setLow (a := ⟨S, 0, none⟩) l0 (.slice gp' N gc')).setLow (a := ⟨S, 1, none⟩) l0 (.slice ip' N ic')).setLow (a := ⟨S + 1, 0, none⟩) l1 (.slice gq' N gd')).setLow (a := ⟨S + 1, 1, none⟩) l1 (.slice iq' N id')
  have n0 : S ≠ w.heap.size := by omega
  have n1 : S + 1 ≠ w.heap.size := by omega
  refine ⟨⟨by simp [go_sem, d0], by simp [go_sem, d1], by simp [go_sem, d2], by simp [go_sem, d3], fun o => by simp only [World.frozen?_setCell]; exact h2.fa o, fun o => by simp only [World.frozen?_setCell]; exact h2.fb o, ⟨?_, ?_⟩, su'.sl, sv'.sl, hbd, h.tl, by have := h.tk; omega, h.tw, ?_, ?_, h.hS⟩, su', sv'⟩
  · rw [World.cell?_setCell_far _ _ _ _ n1, World.cell?_setCell_far _ _ _ _ n1, World.cell?_setCell_far _ _ _ _ n0, World.cell?_setCell_far _ _ _ _ n0]; exact hh.1
  · rw [World.cell?_setCell_far _ _ _ _ n1, World.cell?_setCell_far _ _ _ _ n1, World.cell?_setCell_far _ _ _ _ n0, World.cell?_setCell_far _ _ _ _ n0]; exact hh.2
  · have l2 : S < S + 2 := by omega
    have l3 : S + 1 < S + 2 := by omega
    exact ownsRow_setCell_below (ownsRow_setCell_below (ownsRow_setCell_below (ownsRow_setCell_below h2.ot (a := ⟨S, 0, none⟩) l2 _) (a := ⟨S, 1, none⟩) l2 _) (a := ⟨S + 1, 0, none⟩) l3 _) (a := ⟨S + 1, 1, none⟩) l3 _
  · exact (((h2.bw.setCell (p := ⟨S, 0, none⟩) (by show _ ≤ S; omega) _).setCell (p := ⟨S, 1, none⟩) (by show _ ≤ S; omega) _).setCell (p := ⟨S + 1, 0, none⟩) (by show _ ≤ S + 1; omega) _).setCell (p := ⟨S + 1, 1, none⟩) (by show _ ≤ S + 1; omega) _

/-- told = append(told, h). -/
theorem st2_app {w5 : World} {base tbk tc5 : Nat} {x y : Int} (h : St2 w V S N (k + 1) a g gp gc ip ic gq gd iq id gs bs told tp tc T) (hTk : T ≤ k) (su : SlO V base gp gc ip ic N N gs bs) (sv : SlO V base gq gd iq id N N gs bs) (hrow : ∀ b, (Value.slice tp T tc).ownBlock = some b → b < base)
    (hgr : (V.alloc (Obj.cells #[.int .i64 x, .int .i64 y] 24)).grownBy w5 (Value.slice tp T tc).ownBlock)
    (hot : w5.ownsRow (S + 2) 24 2 (.slice (some ⟨tbk, 0, none⟩) (T + 1) tc5) (T + 1) (flat told ++ [.int .i64 x, .int .i64 y])) (hx : (Lit.int .i64 x).wf = true) (hy : (Lit.int .i64 y).wf = true) :
    St2 w w5 S N (k + 1) a g gp gc ip ic gq gd iq id gs bs (told ++ [(x, y)]) (some ⟨tbk, 0, none⟩) tc5 (T + 1) := by
  have rt : ∀ b, (Value.slice tp T tc).ownBlock = some b → S + 2 ≤ b ∧ b < V.heap.size := fun b hb => h.ot.lt b hb
  have l0 : S < V.heap.size := lt_of_cell h.a0
  have l1 : S + 1 < V.heap.size := lt_of_cell h.b0
  have lh : w.heap.size < V.heap.size := h.h.lt
  have hS := h.hS
  have n0 : some S ≠ (Value.slice tp T tc).ownBlock := fun e => by have := rt S e.symm; omega
  have n1 : some (S + 1) ≠ (Value.slice tp T tc).ownBlock := fun e => by have := rt (S + 1) e.symm; omega
  have nh : some w.heap.size ≠ (Value.slice tp T tc).ownBlock := fun e => by have := rt _ e.symm; omega
  have hb := bel1 V (Obj.cells #[.int .i64 x, .int .i64 y] 24)
  have h2 := h.below hb
  refine ⟨hgr.cell h2.a0 n0, hgr.cell h2.a1 n0, hgr.cell h2.b0 n1, hgr.cell h2.b1 n1, fun o => (hgr.frozen_far ⟨S, o, none⟩ (by show S < _; simp; omega) n0).trans (h2.fa o), fun o => (hgr.frozen_far ⟨S + 1, o, none⟩ (by show S + 1 < _; simp; omega) n1).trans (h2.fb o),
    ⟨hgr.cell h2.h.1 nh, hgr.cell h2.h.2 nh⟩, ((su.below hb).grown hgr hrow).sl, ((sv.below hb).grown hgr hrow).sl, h.bd, by simp [h.tl], by omega, fun z hz => ?_, by rw [flat_snoc]; exact hot, ?_, h.hS⟩
  · rcases List.mem_append.1 hz with hz | hz
    · exact h.tw z hz
    · simp only [List.mem_singleton] at hz
      subst hz
      exact ⟨hx, hy⟩
  · exact h2.bw.grown hgr (by simp; omega) (fun b e => by have := rt b e; omega)

/-- A variable of two cells through these steps. -/
theorem at2_set {b c : Nat} {x y : Value} (h : At2 V b x y) (hne : c ≠ b) (o1 o2 : Nat) (u v : Value) : At2 ((V.setCell ⟨c, o1, none⟩ u).setCell ⟨c, o2, none⟩ v) b x y := pair_far h hne u v
theorem at2_grown {w5 : World} {b : Nat} {x y : Value} {row : Option Nat} (h : At2 V b x y) (hg : V.grownBy w5 row) (hne : some b ≠ row) : At2 w5 b x y := ⟨hg.cell h.1 hne, hg.cell h.2 hne⟩

end Go.Proofs.Ytflfmcclihahmaa
