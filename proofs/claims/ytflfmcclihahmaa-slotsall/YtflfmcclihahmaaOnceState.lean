/-
  The state of SlotsOnce at a round's head, and what a round makes of it.
-/
import Derived.Test.YtflfmcclihahmaaBegun
import Derived.Test.YtflfmcclihahmaaOnceMath
import Derived.Deep.AppendLies
namespace Go.Proofs.Ytflfmcclihahmaa
open Go.ChangeShapes Go.WideShapes Go.ChangeAt Go.RowKit Go.Maps
attribute [local go_sem ↓] Go.wp_at_zero Go.wp_at_succ

/-- The cells of a row of handles. -/
def flat (l : List (Int × Int)) : List Value := l.flatMap fun x => [.int .i64 x.1, .int .i64 x.2]
theorem flat_len (l : List (Int × Int)) : (flat l).length = l.length * 2 := by
  induction l with
  | nil => rfl
  | cons x r ih => simp only [flat, List.flatMap_cons, List.length_append, List.length_cons, List.length_nil] at ih ⊢; omega
theorem flat_snoc (l : List (Int × Int)) (x : Int × Int) : flat (l ++ [x]) = flat l ++ [.int .i64 x.1, .int .i64 x.2] := by simp [flat]
theorem flat_at (l : List (Int × Int)) : ∀ k (h : k < l.length), (flat l)[k * 2]? = some (.int .i64 l[k].1) ∧ (flat l)[k * 2 + 1]? = some (.int .i64 l[k].2) := by
  induction l with
  | nil => intro k h; simp at h
  | cons x r ih =>
    intro k h
    have e : flat (x :: r) = .int .i64 x.1 :: .int .i64 x.2 :: flat r := by simp [flat]
    rw [e]
    match k, h with
    | 0, _ => exact ⟨rfl, rfl⟩
    | k + 1, h =>
      have := ih k (by simpa using h)
      have e1 : (k + 1) * 2 = k * 2 + 1 + 1 := by omega
      rw [e1]
      simpa using this

theorem Try.info24 : (Try.prog.info? 24).map (fun i => (i.zero, i.size, i.bytes)) = some (some (.agg #[.int .i64 0, .int .i64 0]), 2, 16) := by kernel_rfl

theorem Own.grown {α : Type} {w w' : World} {base : Nat} {f : α → Value} {p : Option Addr} {c : Nat} {l : List α} {row : Option Nat} (h : Own w base f p c l) (hg : w.grownBy w' row) (hr : ∀ k, row = some k → k < base) : Own w' base f p c l := by
  by_cases hl : l = []
  · subst hl
    refine ⟨⟨h.rd.cap, ?_⟩, fun e => absurd rfl e⟩
    rcases h.rd.at_ with h0 | ⟨b, o, s, e, hs, _⟩
    · exact .inl h0
    · exact .inr ⟨b, o, s, e, hs, fun i hi => by simp at hi⟩
  · obtain ⟨b, e, h1, h2, h3, hc⟩ := h.cells (List.length_pos_iff.2 hl)
    have hh : w'.heap[b]? = w.heap[b]? := hg.block b h2 (fun e => by have := hr b e.symm; omega)
    refine ⟨⟨h.rd.cap, .inr ⟨b, 0, none, e, fun _ => rfl, fun i hi => ?_⟩⟩, fun _ => ⟨b, e, h1, Nat.lt_of_lt_of_le h2 hg.size, fun i => ?_⟩⟩
    · rw [World.cell?_of_block (w := w) (a := ⟨b, 0 + i, none⟩) hh]; simpa using hc i hi
    · rw [World.frozen?_of_block (w := w) (a := ⟨b, i, none⟩) hh]; exact h3 i
theorem SlO.grown {w w' : World} {base : Nat} {gp ip : Option Addr} {gc ic n m : Nat} {gs : List Int} {bs : List Bool} {row : Option Nat} (h : SlO w base gp gc ip ic n m gs bs) (hg : w.grownBy w' row) (hr : ∀ k, row = some k → k < base) : SlO w' base gp gc ip ic n m gs bs :=
  ⟨⟨(h.g.grown hg hr).rd, (h.i.grown hg hr).rd, h.sl.gl, h.sl.il, h.sl.gle, h.sl.ile, h.sl.sm⟩, h.g.grown hg hr, h.i.grown hg hr⟩
theorem owns_below {w w' : World} {base e sz n : Nat} {v : Value} {xs : List Value} (h : w.ownsRow base e sz v n xs) (hb : Below w.heap.size w w') : w'.ownsRow base e sz v n xs :=
  h.kept (grown_of_below hb none) (by cases hv : v.ownBlock <;> simp)
theorem tg_bd {gs : List Int} {k : Nat} (h : ∀ g ∈ gs, 0 ≤ g ∧ g ≤ (k : Int)) (bs : List Bool) : ∀ g ∈ tg gs bs, 0 ≤ g ∧ g ≤ ((k + 1 : Nat) : Int) := by
  intro x hx
  unfold tg at hx
  split at hx
  · rename_i j hj
    rcases List.mem_or_eq_of_mem_set hx with h1 | h1
    · have := h x h1; omega
    · have := (freeIn_lt hj).1
      have h2 := h gs[j] (List.getElem_mem this)
      rw [h1, List.getD_eq_getElem?_getD, List.getElem?_eq_getElem this]
      simp; omega
  · have := h x hx; omega
theorem small_bd {gs : List Int} {k : Nat} (hk : k ≤ 61) (h : ∀ g ∈ gs, 0 ≤ g ∧ g ≤ (k : Int)) : Small gs := fun x hx => by have := h x hx; omega

theorem news2 (W : World) (x y : Value) (t b : Nat) (hb : b = W.heap.size) : ∀ j u, [x, y][j]? = some u → (W.alloc (.cells #[x, y] t)).cell? ((⟨b, 0, none⟩ : Addr).add j) = some u := by
  subst hb
  intro j u hu
  exact World.news_of_block (heap_alloc_new W _) j u (by simpa using hu)
theorem news1 (W : World) (x : Value) (t b : Nat) (hb : b = W.heap.size) : ∀ j u, [x][j]? = some u → (W.alloc (.cells #[x] t)).cell? ((⟨b, 0, none⟩ : Addr).add j) = some u := by
  subst hb
  intro j u hu
  exact World.news_of_block (heap_alloc_new W _) j u (by simpa using hu)
/-- The cells of a row that is owned and not empty. -/
theorem owns_cells {w : World} {base e sz n c : Nat} {p : Option Addr} {xs : List Value} (h : w.ownsRow base e sz (.slice p n c) n xs) (hn : 0 < n) :
    ∃ b, p = some ⟨b, 0, none⟩ ∧ base ≤ b ∧ b < w.heap.size ∧ (∀ i, w.frozen? ⟨b, i, none⟩ = false) ∧ ∀ i v, xs[i]? = some v → w.cell? ⟨b, i, none⟩ = some v := by
  rcases h.2 with ⟨h', h0⟩ | ⟨g, cap, cur, h', hb, hg, _⟩
  · omega
  · simp only [Value.slice.injEq, true_and] at h'
    obtain ⟨rfl, rfl⟩ := h'
    refine ⟨g, rfl, hb, (Array.getElem?_eq_some_iff.1 hg).1, fun i => h.frozenAt i, fun i v hv => ?_⟩
    have hi : i < n * sz := by rw [← h.1]; exact (List.getElem?_eq_some_iff.1 hv).1
    rw [h.cellAt i hi, hv]

theorem ap_symm {a b : Option Nat} (h : a = none ∨ a ≠ b) : b = none ∨ b ≠ a := by
  rcases h with h | h
  · subst h
    cases b <;> simp
  · exact .inr (Ne.symm h)
theorem two_ints (x y : Int) : ∀ u ∈ [Value.int .i64 x, Value.int .i64 y], u.oneCell' = true := by
  intro u hu
  simp at hu
  rcases hu with rfl | rfl <;> rfl
theorem one_bool (x : Bool) : ∀ u ∈ [Value.bool x], u.oneCell' = true := by
  intro u hu
  simp at hu
  subst hu; rfl

/-- The state of SlotsOnce at a round's head. -/
structure St (w wr : World) (S N k : Nat) (gp : Option Addr) (gc : Nat) (ip : Option Addr) (ic : Nat) (gs : List Int) (bs : List Bool) (told : List (Int × Int)) (has : List Bool) (tp : Option Addr) (tc : Nat) (hp : Option Addr) (hc T : Nat) : Prop where
  c0 : wr.cell? ⟨S, 0, none⟩ = some (.slice gp N gc)
  c1 : wr.cell? ⟨S, 1, none⟩ = some (.slice ip N ic)
  f : ∀ o, wr.frozen? ⟨S, o, none⟩ = false
  sl : Sl wr gp gc ip ic N N gs bs
  bd : ∀ g ∈ gs, 0 ≤ g ∧ g ≤ k
  inv : Inv N gs bs told has
  tl : T = told.length
  tk : T ≤ k
  ot : wr.ownsRow (S + 1) 24 2 (.slice tp T tc) T (flat told)
  oh : wr.ownsRow (S + 1) 4 1 (.slice hp T hc) T (has.map Value.bool)
  ap : (Value.slice tp T tc).ownBlock = none ∨ (Value.slice tp T tc).ownBlock ≠ (Value.slice hp T hc).ownBlock
  bw : Below w.heap.size w wr
  hS : w.heap.size ≤ S
  lo : ∀ x ∈ told, 0 ≤ x.2

theorem St.below {w wr wx : World} {S N k : Nat} {gp : Option Addr} {gc : Nat} {ip : Option Addr} {ic : Nat} {gs : List Int} {bs : List Bool} {told : List (Int × Int)} {has : List Bool} {tp : Option Addr} {tc : Nat} {hp : Option Addr} {hc T : Nat} (h : St w wr S N k gp gc ip ic gs bs told has tp tc hp hc T) (hb : Below wr.heap.size wr wx) : St w wx S N k gp gc ip ic gs bs told has tp tc hp hc T :=
  have hl := lt_of_cell h.c0
  ⟨(hb.cell (p := ⟨S, 0, none⟩) hl).trans h.c0, (hb.cell (p := ⟨S, 1, none⟩) hl).trans h.c1, fun o => (hb.frozen (p := ⟨S, o, none⟩) hl).trans (h.f o), h.sl.below hb, h.bd, h.inv, h.tl, h.tk, owns_below h.ot hb, owns_below h.oh hb, h.ap, bel_call h.bw (Nat.le_refl _) hb, h.hS, h.lo⟩

theorem own_block {p : Option Addr} {n c b : Nat} (h : (Value.slice p n c).ownBlock = some b) : ∃ o s, p = some ⟨b, o, s⟩ := by
  cases p with
  | none => simp [Value.ownBlock] at h
  | some a => simp [Value.ownBlock] at h; subst h; exact ⟨a.off, a.spot, by cases a; rfl⟩

set_option maxHeartbeats 400000 in
theorem st_took {w wr w3 w4 : World} {S N k : Nat} {gp : Option Addr} {gc : Nat} {ip : Option Addr} {ic : Nat} {gs : List Int} {bs : List Bool} {told : List (Int × Int)} {has : List Bool} {tp : Option Addr} {tc : Nat} {hp : Option Addr} {hc T : Nat} {gp3 : Option Addr} {gc3 : Nat} {ip3 : Option Addr} {ic3 : Nat} {w5 w6 : World} {kf tbk tc5 hbk hc6 : Nat} (hst : St w wr S N k gp gc ip ic gs bs told has tp tc hp hc T) (hf : freeIn gs bs = some kf)
    (hs3 : SlO w3 wr.heap.size gp3 gc3 ip3 ic3 N N (tg gs bs) (tb gs bs)) (hb3 : Below wr.heap.size wr w3) (hB4 : Below w3.heap.size w3 w4)
    (hgr5 : (((w4.setCell ⟨S, 0, none⟩ (.slice gp3 N gc3)).setCell ⟨S, 1, none⟩ (.slice ip3 N ic3)).alloc (Obj.cells #[.int .i64 (tAt gs bs), .int .i64 (tGen gs bs)] 24)).grownBy w5 (Value.slice tp T tc).ownBlock)
    (hot5 : w5.ownsRow (S + 1) 24 2 (.slice (some ⟨tbk, 0, none⟩) (T + 1) tc5) (T + 1) (flat told ++ [.int .i64 (tAt gs bs), .int .i64 (tGen gs bs)]))
    (hat5 : (Value.slice tp T tc).ownBlock = some tbk ∨ tbk = w4.heap.size + 1)
    (hgr6 : (w5.alloc (Obj.cells #[.bool true] 4)).grownBy w6 (Value.slice hp T hc).ownBlock)
    (hoh6 : w6.ownsRow (S + 1) 4 1 (.slice (some ⟨hbk, 0, none⟩) (T + 1) hc6) (T + 1) (has.map Value.bool ++ [.bool true]))
    (hat6 : (Value.slice hp T hc).ownBlock = some hbk ∨ hbk = w5.heap.size + 1) :
    St w w6 S N (k + 1) gp3 gc3 ip3 ic3 (tg gs bs) (tb gs bs) (told ++ [(tAt gs bs, tGen gs bs)]) (has ++ [true]) (some ⟨tbk, 0, none⟩) tc5 (some ⟨hbk, 0, none⟩) hc6 (T + 1) := by
  have hl : S < wr.heap.size := lt_of_cell hst.c0
  have hl3 : S < w3.heap.size := Nat.lt_of_lt_of_le hl hb3.size
  have hl4 : S < w4.heap.size := Nat.lt_of_lt_of_le hl3 hB4.size
  have rt : ∀ b, (Value.slice tp T tc).ownBlock = some b → S + 1 ≤ b ∧ b < wr.heap.size := fun b h => hst.ot.lt b h
  have rh : ∀ b, (Value.slice hp T hc).ownBlock = some b → S + 1 ≤ b ∧ b < wr.heap.size := fun b h => hst.oh.lt b h
  have hz3 := hb3.size
  have hz4 := hB4.size
  have hz5 : w4.heap.size + 1 ≤ w5.heap.size := by have := hgr5.size; simpa [World.setCell] using this
  have hz6 : w5.heap.size + 1 ≤ w6.heap.size := by have := hgr6.size; simpa using this
  have hnt : some S ≠ (Value.slice tp T tc).ownBlock := fun e => by have := rt S e.symm; omega
  have hnh : some S ≠ (Value.slice hp T hc).ownBlock := fun e => by have := rh S e.symm; omega
  have d0 := ((hB4.cell (p := ⟨S, 0, none⟩) hl3).trans ((hb3.cell (p := ⟨S, 0, none⟩) hl).trans hst.c0))
  have d1 := ((hB4.cell (p := ⟨S, 1, none⟩) hl3).trans ((hb3.cell (p := ⟨S, 1, none⟩) hl).trans hst.c1))
  have q4 : ∀ o, w4.frozen? ⟨S, o, none⟩ = false := fun o => (hB4.frozen (p := ⟨S, o, none⟩) hl3).trans ((hb3.frozen (p := ⟨S, o, none⟩) hl).trans (hst.f o))
  have c0 : ((w4.setCell ⟨S, 0, none⟩ (.slice gp3 N gc3)).setCell ⟨S, 1, none⟩ (.slice ip3 N ic3)).cell? ⟨S, 0, none⟩ = some (.slice gp3 N gc3) := by simp [go_sem, d0]
  have c1 : ((w4.setCell ⟨S, 0, none⟩ (.slice gp3 N gc3)).setCell ⟨S, 1, none⟩ (.slice ip3 N ic3)).cell? ⟨S, 1, none⟩ = some (.slice ip3 N ic3) := by simp [go_sem, d1]
  have q5 : ∀ o, ((w4.setCell ⟨S, 0, none⟩ (.slice gp3 N gc3)).setCell ⟨S, 1, none⟩ (.slice ip3 N ic3)).frozen? ⟨S, o, none⟩ = false := fun o => by rw [World.frozen?_setCell, World.frozen?_setCell]; exact q4 o
  have s5 : ((w4.setCell ⟨S, 0, none⟩ (.slice gp3 N gc3)).setCell ⟨S, 1, none⟩ (.slice ip3 N ic3)).heap.size = w4.heap.size := by simp [World.setCell]
  have sl5 := (((hs3.below hB4).setLow (a := ⟨S, 0, none⟩) hl (.slice gp3 N gc3)).setLow (a := ⟨S, 1, none⟩) hl (.slice ip3 N ic3))
  have b5 : Below w.heap.size w ((w4.setCell ⟨S, 0, none⟩ (.slice gp3 N gc3)).setCell ⟨S, 1, none⟩ (.slice ip3 N ic3)) := ((bel_call (bel_call hst.bw (Nat.le_refl _) hb3) (Nat.le_refl _) hB4).setCell (p := ⟨S, 0, none⟩) hst.hS _).setCell (p := ⟨S, 1, none⟩) hst.hS _
  generalize ((w4.setCell ⟨S, 0, none⟩ (.slice gp3 N gc3)).setCell ⟨S, 1, none⟩ (.slice ip3 N ic3)) = W5 at *
  have a0 := ((bel1 W5 (Obj.cells #[.int .i64 (tAt gs bs), .int .i64 (tGen gs bs)] 24)).cell (p := ⟨S, 0, none⟩) (by show S < _; omega)).trans c0
  have a1 := ((bel1 W5 (Obj.cells #[.int .i64 (tAt gs bs), .int .i64 (tGen gs bs)] 24)).cell (p := ⟨S, 1, none⟩) (by show S < _; omega)).trans c1
  have aq : ∀ o, (W5.alloc (Obj.cells #[.int .i64 (tAt gs bs), .int .i64 (tGen gs bs)] 24)).frozen? ⟨S, o, none⟩ = false := fun o => ((bel1 W5 _).frozen (p := ⟨S, o, none⟩) (by show S < _; omega)).trans (q5 o)
  have e0 := hgr5.cell a0 hnt
  have e1 := hgr5.cell a1 hnt
  have eq : ∀ o, w5.frozen? ⟨S, o, none⟩ = false := fun o => (hgr5.frozen_far ⟨S, o, none⟩ (by show S < _; simp; omega) hnt).trans (aq o)
  have g0 := hgr6.cell (((bel1 w5 (Obj.cells #[.bool true] 4)).cell (p := ⟨S, 0, none⟩) (lt_of_cell e0)).trans e0) hnh
  have g1 := hgr6.cell (((bel1 w5 (Obj.cells #[.bool true] 4)).cell (p := ⟨S, 1, none⟩) (lt_of_cell e1)).trans e1) hnh
  have gq : ∀ o, w6.frozen? ⟨S, o, none⟩ = false := fun o => (hgr6.frozen_far ⟨S, o, none⟩ (by show S < _; simp; omega) hnh).trans (((bel1 w5 _).frozen (p := ⟨S, o, none⟩) (lt_of_cell e0)).trans (eq o))
  have sl6 := ((((sl5.below (bel1 _ _)).grown hgr5 (fun b h => (rt b h).2)).below (bel1 _ _)).grown hgr6 (fun b h => (rh b h).2)).sl
  have hne : some tbk ≠ (Value.slice hp T hc).ownBlock := by
    intro e
    have h1 := rh tbk e.symm
    rcases hat5 with h | h
    · rcases hst.ap with h' | h'
      · rw [h] at h'; cases h'
      · exact h' (by rw [h, e])
    · omega
  have hbw : Below w.heap.size w w6 := by
    have h1 := b5.alloc (by have := hst.hS; omega) (Obj.cells #[.int .i64 (tAt gs bs), .int .i64 (tGen gs bs)] 24)
    have h2 := h1.grown hgr5 (by have := hst.hS; simp; omega) (fun b h => by have := rt b h; have := hst.hS; omega)
    have h3 := h2.alloc (by have := hst.hS; omega) (Obj.cells #[.bool true] 4)
    exact h3.grown hgr6 (by have := hst.hS; simp; omega) (fun b h => by have := rh b h; have := hst.hS; omega)
  refine ⟨g0, g1, gq, sl6, tg_bd hst.bd bs, inv_take hst.inv hf, by simp [hst.tl], by have := hst.tk; omega, ?_, by simpa using hoh6, .inr ?_, hbw, hst.hS, fun x hx => ?_⟩
  · rw [flat_snoc]
    exact (hot5.alloc _).kept hgr6 (.inr (by simpa [Value.ownBlock] using hne))
  · show some tbk ≠ some hbk
    intro e
    have e' : tbk = hbk := by simpa using e
    subst e'
    rcases hat6 with h | h
    · exact hne h.symm
    · have : tbk < w5.heap.size := (hot5.lt tbk rfl).2
      omega
  · rcases List.mem_append.1 hx with hx | hx
    · exact hst.lo x hx
    · simp only [List.mem_singleton] at hx
      subst hx
      have hkg := (freeIn_lt hf).1
      have h2 := hst.bd gs[kf] (List.getElem_mem hkg)
      show 0 ≤ tGen gs bs
      unfold tGen
      rw [hf]
      simp [hkg]
      omega

theorem st_full {w wr w3 w4 : World} {S N k : Nat} {gp : Option Addr} {gc : Nat} {ip : Option Addr} {ic : Nat} {gs : List Int} {bs : List Bool} {told : List (Int × Int)} {has : List Bool} {tp : Option Addr} {tc : Nat} {hp : Option Addr} {hc T : Nat} {gp3 : Option Addr} {gc3 : Nat} {ip3 : Option Addr} {ic3 : Nat} (hst : St w wr S N k gp gc ip ic gs bs told has tp tc hp hc T) (hf : freeIn gs bs = none)
    (hs3 : SlO w3 wr.heap.size gp3 gc3 ip3 ic3 N N (tg gs bs) (tb gs bs)) (hb3 : Below wr.heap.size wr w3) (hB4 : Below w3.heap.size w3 w4) :
    St w ((w4.setCell ⟨S, 0, none⟩ (.slice gp3 N gc3)).setCell ⟨S, 1, none⟩ (.slice ip3 N ic3)) S N (k + 1) gp3 gc3 ip3 ic3 (tg gs bs) (tb gs bs) told has tp tc hp hc T := by
  have hl : S < wr.heap.size := lt_of_cell hst.c0
  have hl3 : S < w3.heap.size := Nat.lt_of_lt_of_le hl hb3.size
  have d0 := ((hB4.cell (p := ⟨S, 0, none⟩) hl3).trans ((hb3.cell (p := ⟨S, 0, none⟩) hl).trans hst.c0))
  have d1 := ((hB4.cell (p := ⟨S, 1, none⟩) hl3).trans ((hb3.cell (p := ⟨S, 1, none⟩) hl).trans hst.c1))
  have q4 : ∀ o, w4.frozen? ⟨S, o, none⟩ = false := fun o => (hB4.frozen (p := ⟨S, o, none⟩) hl3).trans ((hb3.frozen (p := ⟨S, o, none⟩) hl).trans (hst.f o))
  exact ⟨by simp [go_sem, d0], by simp [go_sem, d1], fun o => by rw [World.frozen?_setCell, World.frozen?_setCell]; exact q4 o,
    (((hs3.below hB4).setLow (a := ⟨S, 0, none⟩) hl (.slice gp3 N gc3)).setLow (a := ⟨S, 1, none⟩) hl (.slice ip3 N ic3)).sl, tg_bd hst.bd bs, inv_full hst.inv hf, hst.tl, by have := hst.tk; omega,
    ownsRow_setCell_below (ownsRow_setCell_below (owns_below (owns_below hst.ot hb3) hB4) (a := ⟨S, 0, none⟩) (Nat.lt_succ_self S) _) (a := ⟨S, 1, none⟩) (Nat.lt_succ_self S) _,
    ownsRow_setCell_below (ownsRow_setCell_below (owns_below (owns_below hst.oh hb3) hB4) (a := ⟨S, 0, none⟩) (Nat.lt_succ_self S) _) (a := ⟨S, 1, none⟩) (Nat.lt_succ_self S) _,
    hst.ap, ((bel_call (bel_call hst.bw (Nat.le_refl _) hb3) (Nat.le_refl _) hB4).setCell (p := ⟨S, 0, none⟩) hst.hS _).setCell (p := ⟨S, 1, none⟩) hst.hS _, hst.hS, hst.lo⟩

theorem grown_setCell (w : World) (a : Addr) (u : Value) : w.grownBy (w.setCell a u) (some a.block) :=
  ⟨rfl, rfl, rfl, by simp [World.setCell], fun k _ hk => Below.heap_setCell w a u k (fun e => hk (by rw [e]))⟩

theorem st_freed {w wr V : World} {S N k : Nat} {gp : Option Addr} {gc : Nat} {ip : Option Addr} {ic : Nat} {gs : List Int} {bs : List Bool} {told : List (Int × Int)} {has : List Bool} {tp : Option Addr} {tc hbk : Nat} {hc T : Nat} {gp3 : Option Addr} {gc3 : Nat} {ip3 : Option Addr} {ic3 kk : Nat} (hst : St w wr S N k gp gc ip ic gs bs told has tp tc (some ⟨hbk, 0, none⟩) hc T) (hkk : kk < told.length)
    (hs3 : SlO V wr.heap.size gp3 gc3 ip3 ic3 N N gs (fb gs bs told[kk].1 told[kk].2)) (hB : Below wr.heap.size wr V) :
    St w (((V.setCell ⟨S, 0, none⟩ (.slice gp3 N gc3)).setCell ⟨S, 1, none⟩ (.slice ip3 N ic3)).setCell ⟨hbk, kk, none⟩ (.bool false)) S N (k + 1) gp3 gc3 ip3 ic3 gs (fb gs bs told[kk].1 told[kk].2) told (has.set kk false) tp tc (some ⟨hbk, 0, none⟩) hc T := by
  have hl : S < wr.heap.size := lt_of_cell hst.c0
  have hT : 0 < T := by rw [hst.tl]; omega
  obtain ⟨hbk', e, hh1, hh2, _, _⟩ := owns_cells hst.oh hT
  cases e
  have hne : hbk ≠ S := by omega
  have d0 := (hB.cell (p := ⟨S, 0, none⟩) hl).trans hst.c0
  have d1 := (hB.cell (p := ⟨S, 1, none⟩) hl).trans hst.c1
  have q4 : ∀ x, V.frozen? ⟨S, x, none⟩ = false := fun x => (hB.frozen (p := ⟨S, x, none⟩) hl).trans (hst.f x)
  have c0 : ((V.setCell ⟨S, 0, none⟩ (.slice gp3 N gc3)).setCell ⟨S, 1, none⟩ (.slice ip3 N ic3)).cell? ⟨S, 0, none⟩ = some (.slice gp3 N gc3) := by simp [go_sem, d0]
  have c1 : ((V.setCell ⟨S, 0, none⟩ (.slice gp3 N gc3)).setCell ⟨S, 1, none⟩ (.slice ip3 N ic3)).cell? ⟨S, 1, none⟩ = some (.slice ip3 N ic3) := by simp [go_sem, d1]
  have q5 : ∀ x, ((V.setCell ⟨S, 0, none⟩ (.slice gp3 N gc3)).setCell ⟨S, 1, none⟩ (.slice ip3 N ic3)).frozen? ⟨S, x, none⟩ = false := fun x => by rw [World.frozen?_setCell, World.frozen?_setCell]; exact q4 x
  have sl5 := ((hs3.setLow (a := ⟨S, 0, none⟩) hl (.slice gp3 N gc3)).setLow (a := ⟨S, 1, none⟩) hl (.slice ip3 N ic3))
  have ot5 := ownsRow_setCell_below (ownsRow_setCell_below (owns_below hst.ot hB) (a := ⟨S, 0, none⟩) (Nat.lt_succ_self S) (.slice gp3 N gc3)) (a := ⟨S, 1, none⟩) (Nat.lt_succ_self S) (.slice ip3 N ic3)
  have oh5 := ownsRow_setCell_below (ownsRow_setCell_below (owns_below hst.oh hB) (a := ⟨S, 0, none⟩) (Nat.lt_succ_self S) (.slice gp3 N gc3)) (a := ⟨S, 1, none⟩) (Nat.lt_succ_self S) (.slice ip3 N ic3)
  have b5 : Below w.heap.size w ((V.setCell ⟨S, 0, none⟩ (.slice gp3 N gc3)).setCell ⟨S, 1, none⟩ (.slice ip3 N ic3)) := ((bel_call hst.bw (Nat.le_refl _) hB).setCell (p := ⟨S, 0, none⟩) hst.hS _).setCell (p := ⟨S, 1, none⟩) hst.hS _
  generalize ((V.setCell ⟨S, 0, none⟩ (.slice gp3 N gc3)).setCell ⟨S, 1, none⟩ (.slice ip3 N ic3)) = W6 at *
  refine ⟨?_, ?_, fun x => by rw [World.frozen?_setCell]; exact q5 x, (sl5.setLow (a := ⟨hbk, kk, none⟩) hh2 _).sl, fun g hg => by have := hst.bd g hg; omega, inv_free hst.inv hkk, hst.tl, by have := hst.tk; omega, ?_, ?_, hst.ap, b5.setCell (p := ⟨hbk, kk, none⟩) (by have := hst.hS; show _ ≤ hbk; omega) _, hst.hS, hst.lo⟩
  · rw [World.cell?_setCell_far _ _ _ _ hne]; exact c0
  · rw [World.cell?_setCell_far _ _ _ _ hne]; exact c1
  · exact ot5.kept (grown_setCell _ _ _) hst.ap
  · have := oh5.stored kk (.bool false)
    rw [List.map_set]
    exact this.1

end Go.Proofs.Ytflfmcclihahmaa
