/-
  How long a program is, by the document: the state of its walk.
-/
import Derived.Test.YteikdocpncdheaaTimes
import Derived.Test.YteikdocpncdheaaSpans
import Derived.Test.YteikdocpncdheaaRefc
import Derived.Test.YteikdocpncdheaaOf
namespace Go.Proofs.Yteikdocpncdheaa
open Go.ChangeShapes Go.WideShapes Go.ChangeAt Go.RowKit
attribute [local go_sem ↓] Go.wp_at_zero Go.wp_at_succ

theorem own_staysC {α β : Type} {E : Elt α} {F : Elt β} {w w' : World} {base base2 : Nat} {e e2 : TypeId} {q p : Option Addr} {d c2 : Nat} {l : List α} {l2 : List β} (h : Own E w base e q d l) (hO : Own F w base2 e2 p c2 l2) (hne : e ≠ e2) (hs : Stays w w' p) : Own E w' base e q d l := by
  refine ⟨h.1, ?_⟩
  rcases h.2 with hn | ⟨g, cap, cur, h1, h2, h3, h4⟩
  · exact .inl hn
  · exact .inr ⟨g, cap, cur, h1, h2, (hs g (lt_of_block h3) (own_apart hO h3 hne)).trans h3, h4⟩
structure Cs (l : List In) (n g0 r : Nat) (w wr : World) (qt : Option Addr) (dt : Nat) (qp : Option Addr) (dp : Nat) (A G : Int) (q : Option Addr) (m d : Nat) (SP : List (Int × Int)) : Prop where
  lt : g0 < r
  g : wr.heap[g0]? = some (.cells #[.int .i64 0, .int .i64 0, .slice none 0 0] 32 (0, 0))
  c : wr.heap[r]? = some (.cells #[.int .i64 A, .int .i64 G, .slice q m d] 32 (0, 0))
  ot : Own eI wr (r + 1) 2 qt dt (tmA l n n)
  op : Own eI wr (r + 1) 3 qp dp (pairL l)
  os : Own eSp wr (r + 1) 36 q d SP
  b : Below g0 w wr
section
variable {l : List In} {n g0 r : Nat} {w wr : World} {qt : Option Addr} {dt : Nat} {qp : Option Addr} {dp : Nat} {A G : Int} {q : Option Addr} {m d : Nat} {SP : List (Int × Int)}
theorem Cs.below {w' : World} (h : Cs l n g0 r w wr qt dt qp dp A G q m d SP) (hb : Below wr.heap.size wr w') : Cs l n g0 r w w' qt dt qp dp A G q m d SP :=
  ⟨h.lt, (hb.block _ (lt_of_block h.g)).trans h.g, (hb.block _ (lt_of_block h.c)).trans h.c, own_below h.ot hb, own_below h.op hb, own_below h.os hb, h.b.trans (hb.mono (Nat.le_of_lt (lt_of_block h.g)))⟩
theorem Cs.setA (h : Cs l n g0 r w wr qt dt qp dp A G q m d SP) (v : Int) : Cs l n g0 r w (wr.setCell ⟨r, 0, none⟩ (.int .i64 v)) qt dt qp dp v G q m d SP := by
  have h1 := setRow_heap wr r _ (#[.int .i64 A, .int .i64 G, .slice q m d].setIfInBounds 0 (.int .i64 v)) 32 _ h.c
  rw [← setCell_eq_setRow wr r 0 _ _ _ _ h.c] at h1
  have hl := h.lt
  exact ⟨h.lt, (heap_setCell_other _ _ _ _ (by show g0 ≠ r; omega)).trans h.g, by simpa using h1, own_lowE h.ot (a := ⟨r, 0, none⟩) (by show r < r + 1; omega) _, own_lowE h.op (a := ⟨r, 0, none⟩) (by show r < r + 1; omega) _, own_lowE h.os (a := ⟨r, 0, none⟩) (by show r < r + 1; omega) _, h.b.setCell (show g0 ≤ (⟨r, 0, none⟩ : Addr).block from Nat.le_of_lt hl) _⟩
theorem Cs.setG (h : Cs l n g0 r w wr qt dt qp dp A G q m d SP) (v : Int) : Cs l n g0 r w (wr.setCell ⟨r, 1, none⟩ (.int .i64 v)) qt dt qp dp A v q m d SP := by
  have h1 := setRow_heap wr r _ (#[.int .i64 A, .int .i64 G, .slice q m d].setIfInBounds 1 (.int .i64 v)) 32 _ h.c
  rw [← setCell_eq_setRow wr r 1 _ _ _ _ h.c] at h1
  have hl := h.lt
  exact ⟨h.lt, (heap_setCell_other _ _ _ _ (by show g0 ≠ r; omega)).trans h.g, by simpa using h1, own_lowE h.ot (a := ⟨r, 1, none⟩) (by show r < r + 1; omega) _, own_lowE h.op (a := ⟨r, 1, none⟩) (by show r < r + 1; omega) _, own_lowE h.os (a := ⟨r, 1, none⟩) (by show r < r + 1; omega) _, h.b.setCell (show g0 ≤ (⟨r, 1, none⟩ : Addr).block from Nat.le_of_lt hl) _⟩
/-- a span more, and where it lies -/
theorem Cs.app {X : Obj} {w7 : World} {p7 : Option Addr} {c7 m7 : Nat} {SP7 : List (Int × Int)} (h : Cs l n g0 r w wr qt dt qp dp A G q m d SP) (ho : Own eSp w7 (r + 1) 36 p7 c7 SP7) (hb : Below (r + 1) (wr.alloc X) w7) (hs : Stays (wr.alloc X) w7 q) : Cs l n g0 r w (w7.setCell ⟨r, 2, none⟩ (.slice p7 m7 c7)) qt dt qp dp A G p7 m7 c7 SP7 := by
  have h' := h.below (w' := wr.alloc X) ((Below.refl _ _).alloc (Nat.le_refl _) _)
  have hl := h.lt
  have k1 : w7.heap[g0]? = _ := (hb.block g0 (by omega)).trans h'.g
  have k2 : w7.heap[r]? = _ := (hb.block r (by omega)).trans h'.c
  have k3 := own_staysC h'.ot h'.os (by decide) hs
  have k4 := own_staysC h'.op h'.os (by decide) hs
  have h1 := setRow_heap w7 r _ (#[.int .i64 A, .int .i64 G, .slice q m d].setIfInBounds 2 (.slice p7 m7 c7)) 32 _ k2
  rw [← setCell_eq_setRow w7 r 2 _ _ _ _ k2] at h1
  exact ⟨h.lt, (heap_setCell_other _ _ _ _ (by show g0 ≠ r; omega)).trans k1, by simpa using h1, own_lowE k3 (a := ⟨r, 2, none⟩) (by show r < r + 1; omega) _, own_lowE k4 (a := ⟨r, 2, none⟩) (by show r < r + 1; omega) _, own_lowE ho (a := ⟨r, 2, none⟩) (by show r < r + 1; omega) _, (h'.b.trans (hb.mono (by omega))).setCell (show g0 ≤ (⟨r, 2, none⟩ : Addr).block from Nat.le_of_lt hl) _⟩
theorem Cs.facts (h : Cs l n g0 r w wr qt dt qp dp A G q m d SP) : ((wr.cell? ⟨r, 0, none⟩ = some (.int .i64 A) ∧ wr.cell? ⟨r, 1, none⟩ = some (.int .i64 G) ∧ wr.cell? ⟨r, 2, none⟩ = some (.slice q m d)) ∧ wr.frozen? ⟨r, 0, none⟩ = false ∧ wr.frozen? ⟨r, 1, none⟩ = false ∧ wr.frozen? ⟨r, 2, none⟩ = false) ∧ r < wr.heap.size := ⟨cellT h.c, lt_of_block h.c⟩
/-- how often it is done -/
theorem Cs.time (h : Cs l n g0 r w wr qt dt qp dp A G q m d SP) {k : Nat} (hk : k < n) : ∃ b, qt = some ⟨b, 0, none⟩ ∧ r < b ∧ b < wr.heap.size ∧ wr.cell? ⟨b, k, none⟩ = some (.int .i64 ((wt l 0 k : Nat) : Int)) := by
  obtain ⟨b, e, g1, g2, g3, g4, g5⟩ := own_setL h.ot k (by rw [tmA_len]; exact hk)
  rw [tmA_get hk] at g4
  exact ⟨b, e, by omega, g2, g4⟩
theorem Cs.pair (h : Cs l n g0 r w wr qt dt qp dp A G q m d SP) {k : Nat} (hk : k < (pairL l).length) : ∃ b, qp = some ⟨b, 0, none⟩ ∧ r < b ∧ b < wr.heap.size ∧ wr.cell? ⟨b, k, none⟩ = some (.int .i64 ((pairL l).getD k 0)) := by
  obtain ⟨b, e, g1, g2, g3, g4, g5⟩ := own_setL h.op k hk
  rw [getD_at hk]
  exact ⟨b, e, by omega, g2, g4⟩
end
theorem res14 {tmps : Array Value} {w : World} {r : Nat} {cs : Array Value} {ok : Bool} (h2 : tmps.getD 2 undef = .pointer (some ⟨r, 0, none⟩)) (h3 : tmps.getD 3 undef = .bool ok) (g2 : w.heap[r]? = some (.cells cs 32 (0, 0))) (hs : cs.size = 3) :
    (results Try.f14 tmps).run Try.prog w = .ok (.tuple #[.agg cs, .bool ok]) w := by
  have e2 := run_loadVar_row (P := Try.prog) w r 32 32 _ (0, 0) _ g2 Try.underlying32 rfl (by rw [hs]; exact info32)
  have k2 : tmps[2]?.getD undef = .pointer (some ⟨r, 0, none⟩) := by simpa using h2
  have k3 : tmps[3]?.getD undef = .bool ok := by simpa using h3
  simp [results, Try.results14, k2, k3, asAddr, e2]
set_option maxHeartbeats 2000000 in
set_option maxRecDepth 20000 in
theorem refCost_no (p : Option Addr) (c : Nat) (l : List In) (w : World) (hr : Rd eIn w p c l) (n : Nat) (hN : l.length = n) (hl : n ≤ 1000) (hk : okB l = false) :
    Calls Try.prog 14 #[.slice p n c] w fun e w' => e = .returned (.tuple #[.agg #[.int .i64 0, .int .i64 0, .slice none 0 0], .bool false]) ∧ Below w.heap.size w w' := by
  have h1 := fun w' (hb : Below w.heap.size w w') => mayCode_any p c l w' (hr.below hb) n hN hl
  rw [hk] at h1
  clear hN hk hr hl
  go_enter Try.func14, Try.ntmps14
  go_wp2_with (first
    | (go_at_call 29; refine (h1 _ ((Below.refl _ _).alloc (Nat.le_refl _) _)).mono ?_; rintro e w1 ⟨rfl, b1⟩; have B1 := bel_call ((Below.refl _ _).alloc (Nat.le_refl _) _) (Nat.le_refl _) b1; have g1 : w1.heap[w.heap.size]? = some (.cells #[.int .i64 0, .int .i64 0, .slice none 0 0] 32 (0, 0)) := (b1.block w.heap.size (by simp)).trans (heap_alloc_new w _); obtain ⟨⟨k0, k1, k2⟩, z0, z1, z2⟩ := cellT g1))
  obtain ⟨gf, _, bf⟩ := st3 g1 (own_nil (E := eSp) w1 (w.heap.size + 1) 36) (by omega) B1 (Nat.le_refl _) (.int .i64 0) (.int .i64 0) (.slice none 0 0)
  refine bodyPost_ret (v := .tuple #[.agg #[.int .i64 0, .int .i64 0, .slice none 0 0], .bool false]) (res14 rfl rfl gf rfl) rfl ?_
  exact ⟨rfl, bf⟩
end Go.Proofs.Yteikdocpncdheaa
