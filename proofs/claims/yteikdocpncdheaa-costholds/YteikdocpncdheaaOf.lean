/-
  How long a program is, by package cost: Of.
-/
import Derived.Test.YteikdocpncdheaaSpans
import Derived.Test.YteikdocpncdheaaMayc
namespace Go.Proofs.Yteikdocpncdheaa
open Go.ChangeShapes Go.WideShapes Go.ChangeAt Go.RowKit
attribute [local go_sem ↓] Go.wp_at_zero Go.wp_at_succ

theorem info32 : (Try.prog.info? 32).map (·.size) = some 3 := by kernel_rfl
theorem res13 {tmps : Array Value} {w : World} {r : Nat} {cs : Array Value} {ok : Bool} (h2 : tmps.getD 2 undef = .pointer (some ⟨r, 0, none⟩)) (h3 : tmps.getD 3 undef = .bool ok) (g2 : w.heap[r]? = some (.cells cs 32 (0, 0))) (hs : cs.size = 3) :
    (results Try.f13 tmps).run Try.prog w = .ok (.tuple #[.agg cs, .bool ok]) w := by
  have e2 := run_loadVar_row (P := Try.prog) w r 32 32 _ (0, 0) _ g2 Try.underlying32 rfl (by rw [hs]; exact info32)
  have k2 : tmps[2]?.getD undef = .pointer (some ⟨r, 0, none⟩) := by simpa using h2
  have k3 : tmps[3]?.getD undef = .bool ok := by simpa using h3
  simp [results, Try.results13, k2, k3, asAddr, e2]
theorem st3 {α : Type} {E : Elt α} {w w0 : World} {g n base : Nat} {A B C : Value} {t e : TypeId} {p : Option Addr} {c : Nat} {l : List α} (h : w.heap[g]? = some (.cells #[A, B, C] t (0, 0))) (ho : Own E w base e p c l) (hg : g < base) (hB : Below n w0 w) (hn : n ≤ g) (x y z : Value) :
    (((w.setCell ⟨g, 0, none⟩ x).setCell ⟨g, 1, none⟩ y).setCell ⟨g, 2, none⟩ z).heap[g]? = some (.cells #[x, y, z] t (0, 0)) ∧ Own E (((w.setCell ⟨g, 0, none⟩ x).setCell ⟨g, 1, none⟩ y).setCell ⟨g, 2, none⟩ z) base e p c l ∧ Below n w0 (((w.setCell ⟨g, 0, none⟩ x).setCell ⟨g, 1, none⟩ y).setCell ⟨g, 2, none⟩ z) := by
  rw [setCell_eq_setRow w g 0 _ _ _ _ h]
  have h1 := setRow_heap w g _ (#[A, B, C].setIfInBounds 0 x) t _ h
  rw [setCell_eq_setRow _ g 1 _ _ _ _ h1]
  have h2 := setRow_heap _ g _ ((#[A, B, C].setIfInBounds 0 x).setIfInBounds 1 y) t _ h1
  rw [setCell_eq_setRow _ g 2 _ _ _ _ h2]
  have h3 := setRow_heap _ g _ (((#[A, B, C].setIfInBounds 0 x).setIfInBounds 1 y).setIfInBounds 2 z) t _ h2
  exact ⟨by simpa using h3, own_row (own_row (own_row ho hg _) hg _) hg _, below_setRow (below_setRow (below_setRow hB hn _) hn _) hn _⟩
theorem cellT {w : World} {g : Nat} {A B C : Value} {t : TypeId} (h : w.heap[g]? = some (.cells #[A, B, C] t (0, 0))) : (w.cell? ⟨g, 0, none⟩ = some A ∧ w.cell? ⟨g, 1, none⟩ = some B ∧ w.cell? ⟨g, 2, none⟩ = some C) ∧ w.frozen? ⟨g, 0, none⟩ = false ∧ w.frozen? ⟨g, 1, none⟩ = false ∧ w.frozen? ⟨g, 2, none⟩ = false :=
  ⟨⟨by rw [cell_of_row _ _ _ _ _ _ h]; rfl, by rw [cell_of_row _ _ _ _ _ _ h]; rfl, by rw [cell_of_row _ _ _ _ _ _ h]; rfl⟩, frozen_of_row _ _ _ _ _ h, frozen_of_row _ _ _ _ _ h, frozen_of_row _ _ _ _ _ h⟩
set_option maxHeartbeats 2000000 in
set_option maxRecDepth 20000 in
theorem of_yes (p : Option Addr) (c : Nat) (l : List In) (w : World) (hr : Rd eIn w p c l) (n : Nat) (hN : l.length = n) (hk : okB l = true) :
    Calls Try.prog 13 #[.slice p n c] w fun e w' => (∃ q d m, e = .returned (.tuple #[.agg #[.int .i64 ((tk l : Nat) : Int), .int .i64 ((lgs l n : Nat) : Int), .slice q m d], .bool true]) ∧ m = (spL l n).length ∧ Own eSp w' w.heap.size 36 q d (spL l n)) ∧ Below w.heap.size w w' := by
  have hP := prg_of hk
  have hle := hP.le
  rw [hN] at hle
  have h1 := fun w' (hb : Below w.heap.size w w') => shape_c p c l w' n true hN hk (hr.below hb) (by omega)
  have h2 := fun w' (hb : Below w.heap.size w w') => pairs_yes p c l w' n (pairL l) hN hP.pair rfl (hr.below hb) (by omega) hP.all (by omega)
  have h3 := fun w' (hb : Below w.heap.size w w') => ticks_any p c l w' (hr.below hb) n hN (tk_of hP) _ rfl
  have h4 := fun w' (hb : Below w.heap.size w w') => piece_any p c l w' (hr.below hb) n hN hP _ rfl
  have h5 := fun w' (hb : Below w.heap.size w w') (q : Option Addr) (d : Nat) (hu : Rd eI w' q d (pairL l)) => spans_any p c l w' (hr.below hb) n hN hP q d hu
  generalize tk l = T at *
  generalize lgs l n = G at *
  clear hP hle hN hk hr
  go_enter Try.func13, Try.ntmps13
  go_wp2_with (first
    | (go_at_call 21; refine (h1 _ ((Below.refl _ _).alloc (Nat.le_refl _) _)).mono ?_; rintro e w1 ⟨rfl, b1⟩; have B1 := bel_call ((Below.refl _ _).alloc (Nat.le_refl _) _) (Nat.le_refl _) b1; have g1 : w1.heap[w.heap.size]? = some (.cells #[.int .i64 0, .int .i64 0, .slice none 0 0] 32 (0, 0)) := (b1.block w.heap.size (by simp)).trans (heap_alloc_new w _))
    | (go_at_call 25; refine (h2 _ B1).mono ?_; rintro e w2 ⟨q2, d2, rfl, o2, b2⟩; have B2 := bel_call B1 (Nat.le_refl _) b2; have g2 := (b2.block w.heap.size (lt_of_block g1)).trans g1)
    | (go_at_call 26; refine (h3 _ B2).mono ?_; rintro e w3 ⟨rfl, b3⟩; have B3 := bel_call B2 (Nat.le_refl _) b3; have g3 := (b3.block w.heap.size (lt_of_block g2)).trans g2; have o3 := own_below o2 b3)
    | (go_at_call 27; refine (h4 _ B3).mono ?_; rintro e w4 ⟨rfl, b4⟩; have B4 := bel_call B3 (Nat.le_refl _) b4; have g4 := (b4.block w.heap.size (lt_of_block g3)).trans g3; have o4 := own_below o3 b4)
    | (go_at_call 28; refine (h5 _ B4 q2 d2 (own_rd o4)).mono ?_; rintro e w5 ⟨⟨q5, d5, m5, rfl, e5, o5⟩, b5⟩; have B5 := bel_call B4 (Nat.le_refl _) b5; have g5 := (b5.block w.heap.size (lt_of_block g4)).trans g4; have E5 : Hid (m5 = (spL l n).length) := e5; clear e5; obtain ⟨⟨k0, k1, k2⟩, z0, z1, z2⟩ := cellT g5; clear g1 g2 g3 g4))
  have hz1 : w.heap.size < w4.heap.size := Nat.lt_of_lt_of_le (by have := b1.size; simp at this; omega) (Nat.le_trans b2.size (Nat.le_trans b3.size b4.size))
  obtain ⟨gf, of, bf⟩ := st3 g5 o5 hz1 B5 (Nat.le_refl _) (.int .i64 (T : Int)) (.int .i64 (G : Int)) (.slice q5 m5 d5)
  refine bodyPost_ret (v := .tuple #[.agg #[.int .i64 (T : Int), .int .i64 (G : Int), .slice q5 m5 d5], .bool true]) (res13 rfl rfl gf rfl) rfl ?_
  exact ⟨⟨q5, d5, m5, rfl, E5.out, own_mono of (by omega)⟩, bf⟩
set_option maxHeartbeats 2000000 in
set_option maxRecDepth 20000 in
theorem of_no (p : Option Addr) (c : Nat) (l : List In) (w : World) (hr : Rd eIn w p c l) (n : Nat) (hN : l.length = n) (hl : n ≤ 1000) (hk : okB l = false) :
    Calls Try.prog 13 #[.slice p n c] w fun e w' => e = .returned (.tuple #[.agg #[.int .i64 0, .int .i64 0, .slice none 0 0], .bool false]) ∧ Below w.heap.size w w' := by
  have h1 := fun w' (hb : Below w.heap.size w w') => shape_c p c l w' n false hN hk (hr.below hb) hl
  clear hN hk hr hl
  go_enter Try.func13, Try.ntmps13
  go_wp2_with (first
    | (go_at_call 21; refine (h1 _ ((Below.refl _ _).alloc (Nat.le_refl _) _)).mono ?_; rintro e w1 ⟨rfl, b1⟩; have B1 := bel_call ((Below.refl _ _).alloc (Nat.le_refl _) _) (Nat.le_refl _) b1; have g1 : w1.heap[w.heap.size]? = some (.cells #[.int .i64 0, .int .i64 0, .slice none 0 0] 32 (0, 0)) := (b1.block w.heap.size (by simp)).trans (heap_alloc_new w _); obtain ⟨⟨k0, k1, k2⟩, z0, z1, z2⟩ := cellT g1))
  obtain ⟨gf, _, bf⟩ := st3 g1 (own_nil (E := eSp) w1 (w.heap.size + 1) 36) (by omega) B1 (Nat.le_refl _) (.int .i64 0) (.int .i64 0) (.slice none 0 0)
  refine bodyPost_ret (v := .tuple #[.agg #[.int .i64 0, .int .i64 0, .slice none 0 0], .bool false]) (res13 rfl rfl gf rfl) rfl ?_
  exact ⟨rfl, bf⟩
theorem of_c (p : Option Addr) (c : Nat) (l : List In) (w : World) (hr : Rd eIn w p c l) (n : Nat) (hN : l.length = n) (hk : okB l = true) (T G m : Nat) (hT : tk l = T) (hG : lgs l n = G) (SP : List (Int × Int)) (hS : spL l n = SP) (hm : SP.length = m) :
    Calls Try.prog 13 #[.slice p n c] w fun e w' => (∃ q d, e = .returned (.tuple #[.agg #[.int .i64 (T : Int), .int .i64 (G : Int), .slice q m d], .bool true]) ∧ Own eSp w' w.heap.size 36 q d SP) ∧ Below w.heap.size w w' := by
  subst hT hG hS hm
  refine (of_yes p c l w hr n hN hk).mono ?_
  rintro e w' ⟨⟨q, d, m, rfl, rfl, ho⟩, hb⟩
  exact ⟨⟨q, d, rfl, ho⟩, hb⟩
theorem Rd.span {w : World} {p : Option Addr} {c : Nat} {l : List (Int × Int)} (h : Rd eSp w p c l) (i : Nat) (hi : i < l.length) :
    ∃ b o, p = some ⟨b, o, none⟩ ∧ b < w.heap.size ∧ w.cell? ⟨b, o + i * 2, none⟩ = some (.int .i64 l[i].1) ∧ w.cell? ⟨b, o + i * 2 + 1, none⟩ = some (.int .i64 l[i].2) := by
  obtain ⟨b, o, e, hb, hc⟩ := h.cells i hi
  exact ⟨b, o, e, hb, hc 0 _ rfl, hc 1 _ rfl⟩

def bg5 : List In := [(1, 0, 0, 0), (11, 0, 0, 0), (9, 0, 0, 0), (10, 0, 0, 0), (0, 0, 0, 0)]
theorem bg5_rd {w : World} {vb : Nat} {t : TypeId} {fr : Nat × Nat} (h : w.heap[vb]? = some (.cells #[.int .i64 1, .int .i64 0, .int .i64 0, .int .i64 0, .int .i64 11, .int .i64 0, .int .i64 0, .int .i64 0, .int .i64 9, .int .i64 0, .int .i64 0, .int .i64 0, .int .i64 10, .int .i64 0, .int .i64 0, .int .i64 0, .int .i64 0, .int .i64 0, .int .i64 0, .int .i64 0] t fr)) : Rd eIn w (some ⟨vb, 0, none⟩) 5 bg5 := rd_block h 5 rfl rfl
set_option maxRecDepth 100000 in
theorem bg5_ok : okB bg5 = true ∧ tk bg5 = 5 ∧ lgs bg5 5 = 3 ∧ spL bg5 5 = [(0, 1)] := by decide
set_option maxHeartbeats 1000000 in
set_option maxRecDepth 20000 in
theorem begun7 (w : World) : Calls Try.prog 9 #[] w fun e w' => e = .returned (.bool true) ∧ Below w.heap.size w w' := by
  have a1 := fun (p : Option Addr) (c : Nat) (w : World) (hr : Rd eIn w p c bg5) => of_c p c bg5 w hr 5 rfl bg5_ok.1 5 3 1 bg5_ok.2.1 bg5_ok.2.2.1 _ bg5_ok.2.2.2 rfl
  have a2 := fun (w : World) => of_no none 0 [] w (Rd.nil _) 0 rfl (by omega) (by decide)
  go_enter Try.func9, Try.ntmps9
  go_wp2_with (first
    | (go_at_call 13; (with_reducible (refine (a1 _ _ _ ?hr).mono ?_)); (case hr => exact bg5_rd (heap_at (by first | rfl | simp))); rintro e w1 ⟨⟨q1, d1, rfl, o1⟩, b1⟩; have B1 := ((Below.refl _ _).alloc (Nat.le_refl _) _).trans (b1.mono (by simp)))
    | (go_at_call 13; (with_reducible (refine (a2 _).mono ?_)); rintro e w2 ⟨rfl, b2⟩
       have B2 := bel_call (B1.alloc (by have := B1.size; omega) _) (Nat.le_refl _) b2
       have g2 := (b2.block w1.heap.size (by simp)).trans (heap_alloc_new w1 _)
       obtain ⟨⟨k0, k1, k2⟩, z0, z1, z2⟩ := cellT g2
       obtain ⟨bb, ob, rfl, hbb, x0, x1⟩ := (own_rd (own_below (own_below o1 ((Below.refl _ _).alloc (Nat.le_refl _) _)) b2)).span 0 (by decide)
       simp only [Nat.zero_mul, Nat.add_zero, List.getElem_cons_zero] at x0 x1
       have y2 := lt_of_block g2))
  go_ret
  exact ⟨rfl, B2.alloc (by have := B2.size; omega) _⟩
end Go.Proofs.Yteikdocpncdheaa
