/-
  The contracts of package slots and of the document's own answer, side by side, for the laws.
-/
import Derived.Test.YtcncpefdjgnhdaaSloNews
import Derived.Test.YtcncpefdjgnhdaaSloSame
namespace Go.Proofs.Ytcncpefdjgnhdaa.Slo
open Go.ChangeShapes Go.WideShapes Go.ChangeAt Go.RowKit Go.Maps
attribute [local go_sem ↓] Go.wp_at_zero Go.wp_at_succ

theorem bcell {W w1 : World} (hb : Below W.heap.size W w1) : (∀ b o, b < W.heap.size → w1.cell? ⟨b, o, none⟩ = W.cell? ⟨b, o, none⟩) ∧ (∀ b o, b < W.heap.size → w1.frozen? ⟨b, o, none⟩ = W.frozen? ⟨b, o, none⟩) :=
  ⟨fun b o h => hb.cell (p := ⟨b, o, none⟩) h, fun b o h => hb.frozen (p := ⟨b, o, none⟩) h⟩

/-- Places as a pair of slices that are read. -/
structure Sl (w : World) (gp : Option Addr) (gc : Nat) (ip : Option Addr) (ic n m : Nat) (gs : List Int) (bs : List Bool) : Prop where
  g : Rd w (Value.int .i64) gp gc gs
  i : Rd w Value.bool ip ic bs
  gl : n = gs.length
  il : m = bs.length
  gle : n ≤ 64
  ile : m ≤ 64
  sm : Small gs
theorem Sl.below {w w' : World} {gp ip : Option Addr} {gc ic n m : Nat} {gs : List Int} {bs : List Bool} (h : Sl w gp gc ip ic n m gs bs) (hb : Below w.heap.size w w') : Sl w' gp gc ip ic n m gs bs :=
  ⟨h.g.below hb, h.i.below hb, h.gl, h.il, h.gle, h.ile, h.sm⟩
/-- .. of the call's own, from block base on. -/
structure SlO (w : World) (base : Nat) (gp : Option Addr) (gc : Nat) (ip : Option Addr) (ic n m : Nat) (gs : List Int) (bs : List Bool) : Prop where
  sl : Sl w gp gc ip ic n m gs bs
  g : Own w base (Value.int .i64) gp gc gs
  i : Own w base Value.bool ip ic bs
theorem SlO.below {w w' : World} {base : Nat} {gp ip : Option Addr} {gc ic n m : Nat} {gs : List Int} {bs : List Bool} (h : SlO w base gp gc ip ic n m gs bs) (hb : Below w.heap.size w w') : SlO w' base gp gc ip ic n m gs bs :=
  ⟨h.sl.below hb, h.g.below hb, h.i.below hb⟩
theorem SlO.mono {w : World} {base base' : Nat} {gp ip : Option Addr} {gc ic n m : Nat} {gs : List Int} {bs : List Bool} (h : SlO w base gp gc ip ic n m gs bs) (hb : base' ≤ base) : SlO w base' gp gc ip ic n m gs bs :=
  ⟨h.sl, h.g.mono hb, h.i.mono hb⟩
theorem SlO.setLow {w : World} {base : Nat} {gp ip : Option Addr} {gc ic n m : Nat} {gs : List Int} {bs : List Bool} (h : SlO w base gp gc ip ic n m gs bs) {a : Addr} (ha : a.block < base) (u : Value) : SlO (w.setCell a u) base gp gc ip ic n m gs bs :=
  ⟨⟨(h.g.setLow ha u).rd, (h.i.setLow ha u).rd, h.sl.gl, h.sl.il, h.sl.gle, h.sl.ile, h.sl.sm⟩, h.g.setLow ha u, h.i.setLow ha u⟩
theorem tg_len (gs : List Int) (bs : List Bool) : (tg gs bs).length = gs.length := by unfold tg; split <;> simp
theorem tb_len (gs : List Int) (bs : List Bool) : (tb gs bs).length = bs.length := by unfold tb; split <;> simp
theorem fb_len (gs : List Int) (bs : List Bool) (a g : Int) : (fb gs bs a g).length = bs.length := by unfold fb; split <;> simp

theorem new_n (x : Int) (m : Nat) (w : World) (hm : newN x = m) : Calls Try.prog 33 #[.int .i64 x] w fun e w' => ∃ gp gc ip ic, e = .returned (.agg #[.slice gp m gc, .slice ip m ic]) ∧ SlO w' w.heap.size gp gc ip ic m m (List.replicate m 0) (List.replicate m false) ∧ Below w.heap.size w w' := by
  refine (new_any x w).mono ?_
  rw [hm]
  rintro e w' ⟨gp, gc, ip, ic, rfl, h1, h2, h3⟩
  have hl : m ≤ 64 := by rw [← hm]; exact newN_le x
  exact ⟨gp, gc, ip, ic, by simp, ⟨⟨h1.rd, h2.rd, by simp, by simp, hl, hl, fun y hy => by simp at hy; omega⟩, h1, h2⟩, h3⟩
theorem newSlots_n (x : Int) (m : Nat) (w : World) (hm : newN x = m) : Calls Try.prog 34 #[.int .i64 x] w fun e w' => ∃ gp gc ip ic, e = .returned (.agg #[.slice gp m gc, .slice ip m ic]) ∧ SlO w' w.heap.size gp gc ip ic m m (List.replicate m 0) (List.replicate m false) ∧ Below w.heap.size w w' := by
  refine (newSlots_any x w).mono ?_
  rw [hm]
  rintro e w' ⟨gp, gc, ip, ic, rfl, h1, h2, h3⟩
  have hl : m ≤ 64 := by rw [← hm]; exact newN_le x
  exact ⟨gp, gc, ip, ic, by simp, ⟨⟨h1.rd, h2.rd, by simp, by simp, hl, hl, fun y hy => by simp at hy; omega⟩, h1, h2⟩, h3⟩

/-- What Take hands back, read. -/
def TookIs (w w' : World) (n m : Nat) (gs' : List Int) (bs' : List Bool) (a g : Int) (ok : Bool) (e : Ending) : Prop :=
  ∃ gp gc ip ic, e = .returned (.tuple #[.agg #[.slice gp n gc, .slice ip m ic], .agg #[.int .i64 a, .int .i64 g], .bool ok]) ∧ SlO w' w.heap.size gp gc ip ic n m gs' bs' ∧ Below w.heap.size w w'
theorem took_is {w w' : World} {n m : Nat} {gs gs' : List Int} {bs bs' : List Bool} {a g : Int} {ok : Bool} {e : Ending} (h : Took w w' gs bs e) (hn : n = gs.length) (hm : m = bs.length) (hnl : n ≤ 64) (hml : m ≤ 64) (h1 : tg gs bs = gs') (h2 : tb gs bs = bs') (h3 : tAt gs bs = a) (h4 : tGen gs bs = g) (h5 : tOk gs bs = ok) (hs : Small gs') : TookIs w w' n m gs' bs' a g ok e := by
  obtain ⟨gp, gc, ip, ic, rfl, r1, r2, r3⟩ := h
  subst h1 h2 h3 h4 h5
  exact ⟨gp, gc, ip, ic, by rw [tg_len, tb_len, hn, hm], ⟨⟨r1.rd, r2.rd, by rw [tg_len, hn], by rw [tb_len, hm], hnl, hml, hs⟩, r1, r2⟩, r3⟩
theorem take_n (gp ip : Option Addr) (gc ic n m : Nat) (gs : List Int) (bs : List Bool) (gs' : List Int) (bs' : List Bool) (a g : Int) (ok : Bool) (w : World) (h : Sl w gp gc ip ic n m gs bs) (h1 : tg gs bs = gs') (h2 : tb gs bs = bs') (h3 : tAt gs bs = a) (h4 : tGen gs bs = g) (h5 : tOk gs bs = ok) (hs : Small gs') :
    Calls Try.prog 49 #[.agg #[.slice gp n gc, .slice ip m ic]] w fun e w' => TookIs w w' n m gs' bs' a g ok e := by
  obtain ⟨r1, r2, rfl, rfl, r3, r4, r5⟩ := h
  exact (take_any gp ip gc ic gs bs w r1 r2 r3 r4 r5).mono fun e w' h => took_is h rfl rfl r3 r4 h1 h2 h3 h4 h5 hs
theorem takeSlot_n (gp ip : Option Addr) (gc ic n m : Nat) (gs : List Int) (bs : List Bool) (gs' : List Int) (bs' : List Bool) (a g : Int) (ok : Bool) (w : World) (h : Sl w gp gc ip ic n m gs bs) (h1 : tg gs bs = gs') (h2 : tb gs bs = bs') (h3 : tAt gs bs = a) (h4 : tGen gs bs = g) (h5 : tOk gs bs = ok) (hs : Small gs') :
    Calls Try.prog 52 #[.agg #[.slice gp n gc, .slice ip m ic]] w fun e w' => TookIs w w' n m gs' bs' a g ok e := by
  obtain ⟨r1, r2, rfl, rfl, r3, r4, r5⟩ := h
  exact (takeSlot_any gp ip gc ic gs bs w r1 r2 r3 r4 r5).mono fun e w' h => took_is h rfl rfl r3 r4 h1 h2 h3 h4 h5 hs

/-- What Free hands back, read. -/
def FreedIs (w w' : World) (n m : Nat) (gs : List Int) (bs' : List Bool) (ok : Bool) (e : Ending) : Prop :=
  ∃ gp gc ip ic, e = .returned (.tuple #[.agg #[.slice gp n gc, .slice ip m ic], .bool ok]) ∧ SlO w' w.heap.size gp gc ip ic n m gs bs' ∧ Below w.heap.size w w'
theorem freed_is {w w' : World} {n m : Nat} {gs : List Int} {bs bs' : List Bool} {a g : Int} {ok : Bool} {e : Ending} (h : Freed w w' gs bs a g e) (hn : n = gs.length) (hm : m = bs.length) (hnl : n ≤ 64) (hml : m ≤ 64) (h2 : fb gs bs a g = bs') (h5 : hasM gs bs a g = ok) (hs : Small gs) : FreedIs w w' n m gs bs' ok e := by
  obtain ⟨gp, gc, ip, ic, rfl, r1, r2, r3⟩ := h
  subst h2 h5
  exact ⟨gp, gc, ip, ic, by rw [fb_len, hn, hm], ⟨⟨r1.rd, r2.rd, hn, by rw [fb_len, hm], hnl, hml, hs⟩, r1, r2⟩, r3⟩
theorem free_n (gp ip : Option Addr) (gc ic n m : Nat) (gs : List Int) (bs bs' : List Bool) (a g : Int) (ok : Bool) (w : World) (h : Sl w gp gc ip ic n m gs bs) (ha : (Lit.int .i64 a).wf = true) (hg : (Lit.int .i64 g).wf = true) (h2 : fb gs bs a g = bs') (h5 : hasM gs bs a g = ok) :
    Calls Try.prog 36 #[.agg #[.slice gp n gc, .slice ip m ic], .agg #[.int .i64 a, .int .i64 g]] w fun e w' => FreedIs w w' n m gs bs' ok e := by
  obtain ⟨r1, r2, rfl, rfl, r3, r4, r5⟩ := h
  exact (free_any gp ip gc ic gs bs a g w r1 r2 r3 r4 r5 ha hg).mono fun e w' h => freed_is h rfl rfl r3 r4 h2 h5 r5
theorem freeSlot_n (gp ip : Option Addr) (gc ic n m : Nat) (gs : List Int) (bs bs' : List Bool) (a g : Int) (ok : Bool) (w : World) (h : Sl w gp gc ip ic n m gs bs) (h2 : fb gs bs a g = bs') (h5 : hasM gs bs a g = ok) :
    Calls Try.prog 40 #[.agg #[.slice gp n gc, .slice ip m ic], .agg #[.int .i64 a, .int .i64 g]] w fun e w' => FreedIs w w' n m gs bs' ok e := by
  obtain ⟨r1, r2, rfl, rfl, r3, r4, r5⟩ := h
  exact (freeSlot_any gp ip gc ic gs bs a g w r1 r2 r3 r4).mono fun e w' h => freed_is h rfl rfl r3 r4 h2 h5 r5
theorem has_n (gp ip : Option Addr) (gc ic n m : Nat) (gs : List Int) (bs : List Bool) (a g : Int) (ok : Bool) (w : World) (h : Sl w gp gc ip ic n m gs bs) (ha : (Lit.int .i64 a).wf = true) (hg : (Lit.int .i64 g).wf = true) (h5 : hasM gs bs a g = ok) :
    Calls Try.prog 54 #[.agg #[.slice gp n gc, .slice ip m ic], .agg #[.int .i64 a, .int .i64 g]] w fun e w' => e = .returned (.bool ok) ∧ Below w.heap.size w w' := by
  obtain ⟨r1, r2, rfl, rfl, r3, r4, r5⟩ := h
  subst h5
  exact has_any gp ip gc ic gs bs a g w r1 r2 r3 r4 r5 ha hg
theorem hasSlot_n (gp ip : Option Addr) (gc ic n m : Nat) (gs : List Int) (bs : List Bool) (a g : Int) (ok : Bool) (w : World) (h : Sl w gp gc ip ic n m gs bs) (h5 : hasM gs bs a g = ok) :
    Calls Try.prog 55 #[.agg #[.slice gp n gc, .slice ip m ic], .agg #[.int .i64 a, .int .i64 g]] w fun e w' => e = .returned (.bool ok) ∧ Below w.heap.size w w' := by
  obtain ⟨r1, r2, rfl, rfl, r3, r4, r5⟩ := h
  subst h5
  exact hasSlot_any gp ip gc ic gs bs a g w r1 r2 r3 r4
/-! Cells of variables, carried on. -/
theorem bel1 (w : World) (o : Obj) : Below w.heap.size w (w.alloc o) := (Below.refl _ _).alloc (Nat.le_refl _) _
theorem bel2 (w : World) (o o' : Obj) : Below w.heap.size w ((w.alloc o).alloc o') := ((Below.refl _ _).alloc (Nat.le_refl _) _).alloc (by simp) _
/-- A variable of two cells at block b. -/
def At2 (w : World) (b : Nat) (x y : Value) : Prop := w.cell? ⟨b, 0, none⟩ = some x ∧ w.cell? ⟨b, 1, none⟩ = some y
theorem At2.lt {w : World} {b : Nat} {x y : Value} (h : At2 w b x y) : b < w.heap.size := lt_of_cell h.1
theorem At2.lt1 {w : World} {b : Nat} {x y : Value} (h : At2 w b x y) : b < w.heap.size + 1 := Nat.lt_succ_of_lt h.lt
theorem At2.below {w w' : World} {b : Nat} {x y : Value} (h : At2 w b x y) (hb : Below w.heap.size w w') : At2 w' b x y :=
  ⟨(hb.cell (p := ⟨b, 0, none⟩) h.lt).trans h.1, (hb.cell (p := ⟨b, 1, none⟩) h.lt).trans h.2⟩
theorem At2.new (w : World) (x y : Value) (t : TypeId) : At2 (w.alloc (.cells #[x, y] t)) w.heap.size x y := ⟨by simp [go_sem], by simp [go_sem]⟩
theorem At2.new2 (w : World) (o : Obj) (x y : Value) (t : TypeId) : At2 ((w.alloc o).alloc (.cells #[x, y] t)) (w.heap.size + 1) x y := by
  have := At2.new (w.alloc o) x y t
  simpa using this
theorem At2.new1 (w : World) (x y : Value) (t : TypeId) (o : Obj) : At2 ((w.alloc (.cells #[x, y] t)).alloc o) w.heap.size x y := (At2.new w x y t).below (bel1 _ _)

end Go.Proofs.Ytcncpefdjgnhdaa.Slo
