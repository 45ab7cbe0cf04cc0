/-
  Put together:
  Numbers from which choices are read: a choice is below what it was asked for, and nothing else is turned.
  A plain instruction out of choices: one that may be.
  A row of instructions under way.
  Pieces of programs out of choices.
  A program out of choices, all of whose instructions may be.
  A program of any instructions that may be, out of choices.
-/
import Derived.Test.YtonholadabebbaaLows
import Derived.Test.YtonholadabebbaaPlains
namespace Go.Proofs.Ytonholadabebbaa
open Go.ChangeShapes Go.WideShapes Go.ChangeAt Go.RowKit
attribute [local go_sem ↓] Go.wp_at_zero Go.wp_at_succ

/-- Block g is where choices are read from. -/
def Pk (w : World) (g : Nat) : Prop := ∃ (q : Option Addr) (N c k : Nat) (zs : List Int),
  w.heap[g]? = some (.cells #[.slice q N c, .int .i64 (k : Int)] 48 (0, 0)) ∧ k ≤ N ∧ N ≤ 1000 ∧ Rd eBy w q c zs ∧ zs.length = N ∧ (∀ x ∈ zs, 0 ≤ x ∧ x ≤ 255) ∧ (∀ b o, q = some ⟨b, o, none⟩ → zs ≠ [] → b < g)

theorem rd_under {α : Type} {E : Elt α} {w w' : World} {B : Nat} {p : Option Addr} {c : Nat} {l : List α} (h : Rd E w p c l) (hb : Below B w w') (hp : ∀ b o, p = some ⟨b, o, none⟩ → l ≠ [] → b < B) : Rd E w' p c l := by
  refine ⟨h.cap, ?_⟩
  rcases h.at_ with h0 | ⟨b, o, s, rfl, hs, hc⟩
  · exact .inl h0
  · by_cases hl : l = []
    · subst hl
      exact .inr ⟨b, o, s, rfl, fun h => absurd rfl h, fun j v hj => by simp [fl] at hj⟩
    · have := hs hl
      subst this
      exact .inr ⟨b, o, none, rfl, fun _ => rfl, fun j v hj => (hb.cell (p := ⟨b, o + j, none⟩) (hp b o rfl hl)).trans (hc j v hj)⟩
theorem Pk.lt {w : World} {g : Nat} (h : Pk w g) : g < w.heap.size := by
  obtain ⟨q, N, c, k, zs, h1, _⟩ := h
  exact (Array.getElem?_eq_some_iff.1 h1).1
theorem Pk.under {w w' : World} {g B : Nat} (h : Pk w g) (hb : Below B w w') (hg : g < B) : Pk w' g := by
  obtain ⟨q, N, c, k, zs, h1, h2, h3, h4, h5, h6, h7⟩ := h
  exact ⟨q, N, c, k, zs, by rw [hb.block g hg]; exact h1, h2, h3, rd_under h4 hb (fun b o e hn => Nat.lt_trans (h7 b o e hn) hg), h5, h6, h7⟩
theorem Pk.below {w w' : World} {g : Nat} (h : Pk w g) (hb : Below w.heap.size w w') : Pk w' g := h.under hb h.lt
theorem Pk.set {w : World} {g : Nat} (h : Pk w g) {a : Addr} (ha : g < a.block) (u : Value) : Pk (w.setCell a u) g := h.under (B := g + 1) ((Below.refl _ _).setCell (by omega) u) (Nat.lt_succ_self _)
theorem Pk.alloc {w : World} {g : Nat} (h : Pk w g) (o : Obj) : Pk (w.alloc o) g := h.below ((Below.refl _ _).alloc (Nat.le_refl _) _)
theorem Kp.alloc {g : Nat} {w w' : World} (h : Kp g w w') (o : Obj) : Kp g w (w'.alloc o) := h.trans (Kp.of_below ((Below.refl _ _).alloc (Nat.le_refl _) _))
theorem Kp.setNew {g : Nat} {w w' : World} (h : Kp g w w') {a : Addr} (ha : w.heap.size ≤ a.block) (u : Value) : Kp g w (w'.setCell a u) :=
  ⟨h.os, h.tape, h.output, by simpa [World.setCell] using h.size, fun k hk hn => (Below.heap_setCell _ _ _ _ (by omega)).trans (h.block k hk hn)⟩
/-- Blocks from w's end on are the call's own. -/
theorem Kp.own {g : Nat} {w w1 w2 : World} (h : Kp g w w1) (hb : Below w.heap.size w1 w2) : Kp g w w2 :=
  ⟨hb.os.trans h.os, hb.tape.trans h.tape, hb.output.trans h.output, Nat.le_trans h.size hb.size, fun k hk hn => (hb.block k hk).trans (h.block k hk hn)⟩
theorem kcell {g : Nat} {W w1 : World} (h : Kp g W w1) : (∀ b o, b < W.heap.size → ¬ b = g → w1.cell? ⟨b, o, none⟩ = W.cell? ⟨b, o, none⟩) ∧ (∀ b o, b < W.heap.size → ¬ b = g → w1.frozen? ⟨b, o, none⟩ = W.frozen? ⟨b, o, none⟩) :=
  ⟨fun b o hb hn => World.cell?_of_block (a := ⟨b, o, none⟩) (h.block b hb (by intro e; cases e; exact hn rfl)), fun b o hb hn => World.frozen?_of_block (a := ⟨b, o, none⟩) (h.block b hb (by intro e; cases e; exact hn rfl))⟩

theorem made_any (q : Option Addr) (c : Nat) (zs : List Int) (w : World) (N : Nat) (hN : zs.length = N) (hl : N ≤ 1000) (hr : Rd eBy w q c zs) (hb : ∀ x ∈ zs, 0 ≤ x ∧ x ≤ 255) :
    Calls Try.prog 8 #[.slice q N c] w fun e w' => e = .returned (.pointer (some ⟨w.heap.size, 0, none⟩)) ∧ Pk w' w.heap.size ∧ Below w.heap.size w w' ∧ w'.heap.size = w.heap.size + 1 := by
  go_enter Try.func8, Try.ntmps8
  go_wp2
  go_ret
  refine ⟨rfl, ⟨q, N, c, 0, zs, heap_alloc_new w _, Nat.zero_le _, hl, hr.below ((Below.refl _ _).alloc (Nat.le_refl _) _), hN, hb, fun b o e hn => ?_⟩, (Below.refl _ _).alloc (Nat.le_refl _) _, by simp⟩
  obtain ⟨b', o', e', hlt, _⟩ := hr.pos (List.length_pos_iff.2 hn)
  rw [e] at e'
  cases e'
  exact hlt

theorem pk_step {w : World} {g : Nat} {A B : Value} (h : w.heap[g]? = some (.cells #[A, B] 48 (0, 0))) (u : Value) : (w.setCell ⟨g, 1, none⟩ u).heap[g]? = some (.cells #[A, u] 48 (0, 0)) := by
  rw [setCell_eq_setRow w g 1 _ _ _ _ h]
  have := setRow_heap w g #[A, B] (#[A, B].setIfInBounds 1 u) 48 _ h
  simpa using this

set_option maxHeartbeats 1000000 in
theorem num_any (g : Nat) (m : Int) (w : World) (hp : Pk w g) (h1 : 1 ≤ m) (h2 : m ≤ 1000) :
    Calls Try.prog 17 #[.pointer (some ⟨g, 0, none⟩), .int .i64 m] w fun e w' => ∃ v, e = .returned (.int .i64 v) ∧ 0 ≤ v ∧ v < m ∧ Pk w' g ∧ Kp g w w' := by
  have hp0 := hp
  obtain ⟨q, N, c, k, zs, hg, hk, hN, hr, hl, hb, hq⟩ := hp
  have c0 : w.cell? ⟨g, 0, none⟩ = some (.slice q N c) := by rw [cell_of_row w g 0 _ 48 (0, 0) hg]; rfl
  have c1 : w.cell? ⟨g, 1, none⟩ = some (.int .i64 (k : Int)) := by rw [cell_of_row w g 1 _ 48 (0, 0) hg]; rfl
  by_cases hlt : k < N
  · obtain ⟨b, o, rfl, hbz, hc⟩ := hr.byte k (by omega)
    have hx := hb zs[k] (List.getElem_mem _)
    have hbg := hq b o rfl (List.length_pos_iff.1 (by omega))
    have ne1 : ¬ b = g := by omega
    have ne2 : ¬ g = b := by omega
    have f1 : w.frozen? ⟨g, 1, none⟩ = false := by simp [World.frozen?, hg]
    obtain ⟨x0, x1⟩ := hx
    have HZ : Hid (zs.length = N) := hl
    have d1 : decide ((N : Int) ≤ (k : Int)) = false := by simp; omega
    have HG : Hid (w.heap[g]? = some (.cells #[.slice (some ⟨b, o, none⟩) N c, .int .i64 (k : Int)] 48 (0, 0))) := hg
    clear hp0 hg
    generalize zs[k] = x at *
    clear hl
    have z0 : (0 : Int) ≤ (k : Int) := by omega
    have z1 : (k : Int) < (N : Int) := by omega
    go_enter Try.func17, Try.ntmps17
    go_wp2
    go_quiet (fail)
    go_wp2
    have e0 : ((w.drewN nq).setCell ⟨g, 1, none⟩ (.int .i64 ((k : Int) + 1))).cell? ⟨g, 0, none⟩ = some (.slice (some ⟨b, o, none⟩) N c) := by
      rw [cell_of_row _ g 0 _ 48 (0, 0) (pk_step (w := w.drewN nq) HG.out _)]; rfl
    have e1 : ((w.drewN nq).setCell ⟨g, 1, none⟩ (.int .i64 ((k : Int) + 1))).cell? ⟨g, 1, none⟩ = some (.int .i64 ((k : Int) + 1)) := by
      rw [cell_of_row _ g 1 _ 48 (0, 0) (pk_step (w := w.drewN nq) HG.out _)]; rfl
    have hK : Kp g w ((w.drewN nq).setCell ⟨g, 1, none⟩ (.int .i64 ((k : Int) + 1))) := ((Kp.refl g w).draws nq).trans (Kp.set rfl _)
    have e2 : ((w.drewN nq).setCell ⟨g, 1, none⟩ (.int .i64 ((k : Int) + 1))).cell? ⟨b, o + k, none⟩ = some (.int .u8 x) := ((kcell hK).1 b (o + k) hbz ne1).trans hc
    have hP : Pk ((w.drewN nq).setCell ⟨g, 1, none⟩ (.int .i64 ((k : Int) + 1))) g :=
      ⟨_, N, c, k + 1, zs, by rw [pk_step (w := w.drewN nq) HG.out _]; rfl, by omega, hN, rd_kp hr hK (fun b' o' e _ => by cases e; exact ne1), HZ.out, hb, hq⟩
    generalize (w.drewN nq).setCell ⟨g, 1, none⟩ (.int .i64 ((k : Int) + 1)) = W at *
    clear c0 c1 hc f1 HG hr
    go_quiet (fail)
    go_wp2
    go_ret
    exact ⟨x % m, rfl, Int.emod_nonneg _ (by omega), Int.emod_lt_of_pos _ (by omega), hP.below (bel_draws (Below.refl _ _) _), hK.draws _⟩
  · have d1 : decide ((N : Int) ≤ (k : Int)) = true := by simp; omega
    go_enter Try.func17, Try.ntmps17
    go_wp2
    go_quiet (fail)
    go_wp2
    go_ret
    exact ⟨0, rfl, by omega, by omega, hp0.below (bel_draws (Below.refl _ _) _), (Kp.refl _ _).draws _⟩
end Go.Proofs.Ytonholadabebbaa

namespace Go.Proofs.Ytonholadabebbaa
open Go.ChangeShapes Go.WideShapes Go.ChangeAt Go.RowKit
attribute [local go_sem ↓] Go.wp_at_zero Go.wp_at_succ

/-- Four cells of a block, that may be written. -/
structure At4 (w : World) (r : Nat) (a b c d : Value) : Prop where
  c0 : w.cell? ⟨r, 0, none⟩ = some a
  c1 : w.cell? ⟨r, 1, none⟩ = some b
  c2 : w.cell? ⟨r, 2, none⟩ = some c
  c3 : w.cell? ⟨r, 3, none⟩ = some d
  fr : ∀ o, w.frozen? ⟨r, o, none⟩ = false
theorem At4.new {w : World} {a b c d : Value} {t : TypeId} {r : Nat} (h : w.heap.size = r) : At4 (w.alloc (.cells #[a, b, c, d] t)) r a b c d := by
  have hh := heap_at (o := .cells #[a, b, c, d] t) h
  refine ⟨?_, ?_, ?_, ?_, fun o => by simp [World.frozen?, hh]⟩
  all_goals rw [cell_of_row _ r _ _ t (0, 0) hh]; rfl
theorem At4.kp {w w' : World} {g r : Nat} {a b c d : Value} (h : At4 w r a b c d) (hk : Kp g w w') (hn : ¬ r = g) : At4 w' r a b c d := by
  have hr := lt_of_cell h.c0
  obtain ⟨kc, kf⟩ := kcell hk
  exact ⟨(kc r 0 hr hn).trans h.c0, (kc r 1 hr hn).trans h.c1, (kc r 2 hr hn).trans h.c2, (kc r 3 hr hn).trans h.c3, fun o => (kf r o hr hn).trans (h.fr o)⟩
theorem At4.below {w w' : World} {r : Nat} {a b c d : Value} (h : At4 w r a b c d) (hb : Below w.heap.size w w') : At4 w' r a b c d := by
  have hr := lt_of_cell h.c0
  exact ⟨(hb.cell (p := ⟨r, 0, none⟩) hr).trans h.c0, (hb.cell (p := ⟨r, 1, none⟩) hr).trans h.c1, (hb.cell (p := ⟨r, 2, none⟩) hr).trans h.c2, (hb.cell (p := ⟨r, 3, none⟩) hr).trans h.c3, fun o => (hb.frozen (p := ⟨r, o, none⟩) hr).trans (h.fr o)⟩

theorem plain_fin {a : Act} {w w1 : World} {g r : Nat} {A B C D : Int} (hK : Kp g w w1) (hp : Pk w1 g) (hr : w.heap.size = r) (hg : g < w.heap.size) (hd : a.defers = []) (hm : plB (A, B, C, D) = true)
    (hrun : (results Try.f18 a.tmps).run Try.prog ((((w1.setCell ⟨r, 0, none⟩ (.int .i64 A)).setCell ⟨r, 1, none⟩ (.int .i64 B)).setCell ⟨r, 2, none⟩ (.int .i64 C)).setCell ⟨r, 3, none⟩ (.int .i64 D)) = .ok (.agg #[.int .i64 A, .int .i64 B, .int .i64 C, .int .i64 D]) ((((w1.setCell ⟨r, 0, none⟩ (.int .i64 A)).setCell ⟨r, 1, none⟩ (.int .i64 B)).setCell ⟨r, 2, none⟩ (.int .i64 C)).setCell ⟨r, 3, none⟩ (.int .i64 D))) :
    bodyPost Try.prog Try.f18 (fun e w' => ∃ x : In, e = .returned (.agg #[.int .i64 x.1, .int .i64 x.2.1, .int .i64 x.2.2.1, .int .i64 x.2.2.2]) ∧ plB x = true ∧ Pk w' g ∧ Kp g w w') Exit.ret a
      ((((w1.setCell ⟨r, 0, none⟩ (.int .i64 A)).setCell ⟨r, 1, none⟩ (.int .i64 B)).setCell ⟨r, 2, none⟩ (.int .i64 C)).setCell ⟨r, 3, none⟩ (.int .i64 D)) := by
  have h1 : w.heap.size ≤ r := by omega
  have h2 : g < r := by omega
  exact bodyPost_ret hrun hd ⟨(A, B, C, D), rfl, hm, (((hp.set h2 _).set h2 _).set h2 _).set h2 _, (((hK.setNew h1 _).setNew h1 _).setNew h1 _).setNew h1 _⟩

set_option maxHeartbeats 4000000 in
theorem plain_any (g : Nat) (w : World) (hp : Pk w g) :
    Calls Try.prog 18 #[.pointer (some ⟨g, 0, none⟩)] w fun e w' => ∃ x : In, e = .returned (.agg #[.int .i64 x.1, .int .i64 x.2.1, .int .i64 x.2.2.1, .int .i64 x.2.2.2]) ∧ plB x = true ∧ Pk w' g ∧ Kp g w w' := by
  have hg := hp.lt
  have hp1 : Pk (w.alloc (.cells #[.int .i64 0, .int .i64 0, .int .i64 0, .int .i64 0] 42)) g := hp.alloc _
  have hK : Kp g w (w.alloc (.cells #[.int .i64 0, .int .i64 0, .int .i64 0, .int .i64 0] 42)) := (Kp.refl _ _).alloc _
  obtain ⟨r, hr⟩ : ∃ r, w.heap.size = r := ⟨_, rfl⟩
  have hA : At4 (w.alloc (.cells #[.int .i64 0, .int .i64 0, .int .i64 0, .int .i64 0] 42)) r (.int .i64 0) (.int .i64 0) (.int .i64 0) (.int .i64 0) := At4.new hr
  have HR : Hid (w.heap.size = r) := hr
  have hne : ¬ r = g := by omega
  go_enter Try.func18, Try.ntmps18
  go_wp2_with (first
    | (go_at_call 17; refine (num_any g _ _ (by assumption) (by omega) (by omega)).mono ?_; rintro e w1 ⟨v, rfl, va, vb, hp1, hk1⟩; have hK := Kp.trans hK hk1; have hA := At4.kp hA hk1 hne; have hAA := hA; obtain ⟨q0, q1, q2, q3, qf⟩ := hAA; clear hk1))
  all_goals
    refine plain_fin hK hp1 HR.out hg rfl ?_ ?_
    · exact pl_of (by unfold mayP; simp <;> omega) (by simp) (by simp)
    · simp [results, Try.results18, go_sem, q0, q1, q2, q3]
end Go.Proofs.Ytonholadabebbaa

namespace Go.Proofs.Ytonholadabebbaa
open Go.ChangeShapes Go.WideShapes Go.ChangeAt Go.RowKit
attribute [local go_sem ↓] Go.wp_at_zero Go.wp_at_succ

theorem rd_one {w : World} {vb : Nat} {A B C D : Int} {t : TypeId} {fr : Nat × Nat} (h : w.heap[vb]? = some (.cells #[.int .i64 A, .int .i64 B, .int .i64 C, .int .i64 D] t fr)) : Rd eIn w (some ⟨vb, 0, none⟩) 1 [(A, B, C, D)] := rd_block h 1 rfl rfl
theorem all_snoc {l : List In} {x : In} (h : l.all mayW = true) (hx : mayW x = true) : (l ++ [x]).all mayW = true := by rw [List.all_append, h]; simp [hx]
/-- The row of instructions under way. -/
structure Row (g : Nat) (w wr : World) (p : Option Addr) (n c : Nat) (l : List In) : Prop where
  own : Own eIn wr w.heap.size 42 p c l
  all : l.all mayW = true
  len : l.length = n
  pk : Pk wr g
  kp : Kp g w wr
theorem Row.snoc {g : Nat} {w wr w6 : World} {p p6 : Option Addr} {n c c6 : Nat} {l : List In} {x : In} (h : Row g w wr p n c l) (ho : Own eIn w6 w.heap.size 42 p6 c6 (l ++ [x])) (hx : mayW x = true) (hp : Pk w6 g) (hk : Kp g w w6) : Row g w w6 p6 (n + 1) c6 (l ++ [x]) :=
  ⟨ho, all_snoc h.all hx, by rw [List.length_append, h.len]; rfl, hp, hk⟩
/-- A call has handed such a row back. -/
def RowTold (P : List In → Prop) (g : Nat) (w : World) (lo hi : Nat) (e : Ending) (w' : World) : Prop := ∃ (p : Option Addr) (n c : Nat) (l : List In), e = .returned (.slice p n c) ∧ Row g w w' p n c l ∧ lo ≤ n ∧ n ≤ hi ∧ P l
end Go.Proofs.Ytonholadabebbaa

namespace Go.Proofs.Ytonholadabebbaa
open Go.ChangeShapes Go.WideShapes Go.ChangeAt Go.RowKit
attribute [local go_sem ↓] Go.wp_at_zero Go.wp_at_succ

set_option maxRecDepth 100000 in
set_option maxHeartbeats 8000000 in
theorem some_any (g : Nat) (w : World) (hp : Pk w g) (most locks : Int) (h1 : 1 ≤ most) (h2 : most ≤ 2) (h3 : 1 ≤ locks) (h4 : locks ≤ 3) :
    Calls Try.prog 26 #[.pointer (some ⟨g, 0, none⟩), .int .i64 most, .int .i64 locks] w fun e w' => RowTold Gd0 g w 1 6 e w' := by
  have hg := hp.lt
  have dl : decide (0 < locks) = true := by simp; omega
  go_enter Try.func26, Try.ntmps26
  go_wp2_with (go_at_call 17; refine (num_any g _ _ hp (by omega) (by omega)).mono ?_; rintro e w1 ⟨v, rfl, va, vb, hp1, hk1⟩)
  go_loopw [7, 8] (fun t i wr => ∃ (k : Int) (p' : Option Addr) (n c' : Nat) (l : List In), 0 ≤ k ∧ n + 3 * k ≤ 6 ∧ 1 ≤ n + k ∧ i = .int .i64 k ∧ t = .slice p' n c' ∧ Row g w wr p' n c' l ∧ Gd0 l) (fun _ i _ => (intOf i).toNat)
  case atStart => exact ⟨v + 1, none, 0, 0, [], by omega, by omega, by omega, rfl, rfl, ⟨own_nil _ _ _, rfl, rfl, hp1, hk1⟩, gd0_nil⟩
  case round =>
    obtain ⟨k, p', n, c', l, hk0, hk11, hk1n, rfl, rfl, hR, hG⟩ := hrel
    have hpr := hR.pk
    have hKw := hR.kp
    have hsz := hKw.size
    have HL : Hid (l.length = n) := hR.len
    have hown := hR.own
    clear hp1 hk1 va vb
    by_cases hlt : 0 < k
    · have d : decide (0 < k) = true := by simpa using hlt
      go_wp2_with (first
        | (go_at_call 17; refine (num_any g _ _ (by with_reducible assumption) (by omega) (by omega)).mono ?_; rintro e w3 ⟨v, rfl, va, vb, hp3, hk3⟩; have hown := own_kp hown hk3 hg; have hKw := Kp.trans hKw hk3; have hz := hKw.size; clear hk3)
        | (go_at_call 18; refine (plain_any g _ (by with_reducible assumption)).mono ?_; rintro e w4 ⟨⟨xo, xa, xb, xn⟩, rfl, hxm, hp4, hk4⟩; have hown := own_kp hown hk4 hg; have hKw := Kp.trans hKw hk4; have hz := hKw.size; clear hk4)
        | (at_builtin; refine wpList_app tIn _ rfl _ _ rfl w.heap.size p' c' l n HL.out rfl (own_below hown ((Below.refl _ _).alloc (Nat.le_refl _) _)) _ _ [(_, _, _, _)] 1 rfl rfl (rd_one (heap_at (by first | rfl | simp))) (by omega) (by simp; omega) (n + 1) rfl ?_; intro p5 c5 w5 hown hb5 hst5; have hKw := Kp.own (hKw.alloc _) hb5; have hz := hKw.size; have hp5 : Pk w5 g := Pk.under (Pk.alloc (by with_reducible assumption) _) hb5 hg)
        | (at_builtin; refine wpList_app tIn _ rfl _ _ rfl w.heap.size p5 c5 _ (n + 1) (by rw [List.length_append, HL.out]; rfl) rfl (own_below hown ((Below.refl _ _).alloc (Nat.le_refl _) _)) _ _ [(_, _, _, _)] 1 rfl rfl (rd_one (heap_at (by first | rfl | simp))) (by omega) (by simp; omega) (n + 2) rfl ?_; intro p6 c6 w6 hown hb6 hst6; have hKw := Kp.own (hKw.alloc _) hb6; have hz := hKw.size; have hp6 : Pk w6 g := Pk.under (Pk.alloc (by with_reducible assumption) _) hb6 hg)
        | (at_builtin; refine wpList_app tIn _ rfl _ _ rfl w.heap.size p6 c6 _ (n + 2) (by rw [List.length_append, List.length_append, HL.out]; rfl) rfl (own_below hown ((Below.refl _ _).alloc (Nat.le_refl _) _)) _ _ [(_, _, _, _)] 1 rfl rfl (rd_one (heap_at (by first | rfl | simp))) (by omega) (by simp; omega) (n + 3) rfl ?_; intro p7 c7 w7 hown hb7 hst7; have hKw := Kp.own (hKw.alloc _) hb7; have hz := hKw.size; have hp7 : Pk w7 g := Pk.under (Pk.alloc (by with_reducible assumption) _) hb7 hg))
      · have hRx : Row g w w7 p7 (n + 3) c7 _ := ⟨hown, all_snoc (all_snoc (all_snoc hR.all (mw_of (by unfold mayP; simp <;> omega) (by simp))) (mw_pl hxm)) (mw_of (by unfold mayP; simp <;> omega) (by simp)), by simp [HL.out], hp7, hKw⟩
        go_roundw
        case rel => exact ⟨k - 1, p7, n + 3, c7, _, by omega, by omega, by omega, rfl, rfl, hRx, by rw [List.append_assoc, List.append_assoc]; exact gd0_app hG (gd0_pair hxm (by omega) (by omega))⟩
        case measure => simp [intOf]; omega
      · have hRx : Row g w w5 p5 (n + 1) c5 _ := ⟨hown, all_snoc hR.all (mw_pl hxm), by simp [HL.out], hp5, hKw⟩
        go_roundw
        case rel => exact ⟨k - 1, p5, n + 1, c5, _, by omega, by omega, by omega, rfl, rfl, hRx, gd0_app hG (gd0_plain hxm)⟩
        case measure => simp [intOf]; omega
    · have d : decide (0 < k) = false := by simpa using hlt
      go_wp2
      go_ret
      exact ⟨p', n, c', l, rfl, hR, by omega, by omega, hG⟩
end Go.Proofs.Ytonholadabebbaa

namespace Go.Proofs.Ytonholadabebbaa
open Go.ChangeShapes Go.WideShapes Go.ChangeAt Go.RowKit
attribute [local go_sem ↓] Go.wp_at_zero Go.wp_at_succ

theorem all_append {l m : List In} (h : l.all mayW = true) (hx : m.all mayW = true) : (l ++ m).all mayW = true := by rw [List.all_append, h, hx]; rfl
theorem all_cons {x : In} {m : List In} (h : mayW x = true) (hx : m.all mayW = true) : ([x] ++ m).all mayW = true := by simp [h]; simpa using hx

theorem own_one {w : World} {A B C D : Int} : Own eIn (w.alloc (.cells #[.int .i64 A, .int .i64 B, .int .i64 C, .int .i64 D] 42)) w.heap.size 42 (some ⟨w.heap.size, 0, none⟩) 1 [(A, B, C, D)] := own_block (Nat.le_refl _) rfl 1 rfl (by decide)

set_option maxRecDepth 100000 in
set_option maxHeartbeats 8000000 in
theorem code_any (g : Nat) (w : World) (hp : Pk w g) :
    Calls Try.prog 16 #[.pointer (some ⟨g, 0, none⟩), .int .i64 3] w fun e w' => RowTold (fun l => ∃ l0, l = l0 ++ [E0] ∧ Gd l0) g w 1 23 e w' := by
  have hg := hp.lt
  go_enter Try.func16, Try.ntmps16
  go_wp2_with (go_at_call 17; refine (num_any g _ _ hp (by omega) (by omega)).mono ?_; rintro e w1 ⟨v, rfl, va, vb, hp1, hk1⟩)
  go_loopw [5, 6] (fun t i wr => ∃ (k : Int) (p' : Option Addr) (n c' : Nat) (l : List In), 0 ≤ k ∧ k ≤ 4 ∧ n ≤ 22 ∧ i = .int .i64 k ∧ t = .slice p' n c' ∧ Row g w wr p' n c' l ∧ Gd l) (fun _ i _ => (intOf i).toNat)
  case atStart => exact ⟨v + 1, none, 0, 0, [], by omega, by omega, by omega, rfl, rfl, ⟨own_nil _ _ _, rfl, rfl, hp1, hk1⟩, gd_nil⟩
  case round =>
    obtain ⟨k, p', n, c', l, hk0, hk4, hn22, rfl, rfl, hR, hG⟩ := hrel
    have hpr := hR.pk
    have hKw := hR.kp
    have hsz := hKw.size
    have HL : Hid (l.length = n) := hR.len
    have HA : Hid (l.all mayW = true) := hR.all
    have hown := hR.own
    clear hp1 hk1 va vb hR
    by_cases hlt : 0 < k
    · have d : decide (0 < k) = true := by simpa using hlt
      go_wp2_with (first
        | (go_at_call 17; refine (num_any g _ _ (by with_reducible assumption) (by omega) (by omega)).mono ?_; rintro e w3 ⟨v, rfl, va, vb, hp3, hk3⟩; have hownb := own_kp hownb hk3 hgb; have hown := own_kp hown hk3 hg; have hKw := Kp.trans hKw hk3; have hz := hKw.size; clear hk3)
        | (go_at_call 17; refine (num_any g _ _ (by with_reducible assumption) (by omega) (by omega)).mono ?_; rintro e w3 ⟨v, rfl, va, vb, hp3, hk3⟩; have hown := own_kp hown hk3 hg; have hKw := Kp.trans hKw hk3; have hz := hKw.size; clear hk3)
        | (go_at_call 26; refine (some_any g _ (by with_reducible assumption) _ _ (by omega) (by omega) (by omega) (by omega)).mono ?_; rintro e w4 ⟨p4, n4, c4, b, rfl, ⟨hownb, hallb, hlenb, hp4, hk4⟩, n41, n46, hGb⟩
           have HB : Hid (b.length = n4) := hlenb
           have HAB : Hid (b.all mayW = true) := hallb
           have hgb : g < w3.heap.size := by omega
           have hown := own_kp hown hk4 hg; have hKw := Kp.trans hKw hk4; have hz := hKw.size; clear hk4 hlenb hallb)
        | (at_builtin; (refine wpList_app tIn _ rfl _ _ rfl w3.heap.size (some ⟨w3.heap.size, 0, none⟩) 1 [(_, _, _, _)] 1 rfl rfl own_one p4 c4 b n4 HB.out rfl (own_rd (own_below hownb ((Below.refl _ _).alloc (Nat.le_refl _) _))) (by omega) (by simp) (1 + n4) rfl ?_); intro p5 c5 w5 ho5 hb5 hst5
           have hB5 := ((Below.refl _ _).alloc (Nat.le_refl _) _).trans hb5
           have hown := own_below hown hB5
           have hKw := Kp.trans hKw (Kp.of_below hB5); have hz := hKw.size
           have hp5 : Pk w5 g := Pk.below (by with_reducible assumption) hB5
           clear hB5 hb5 hst5)
        | (at_builtin; refine wpList_app tIn _ rfl _ _ rfl w.heap.size p' c' l n HL.out rfl hown p5 c5 _ (1 + n4) (by rw [List.length_append, HB.out]; rfl) rfl (own_rd ho5) (by omega) (by omega) (n + (1 + n4)) rfl ?_; intro p6 c6 w6 ho6 hb6 hst6
           have hx : Pk w6 g := Pk.under (by with_reducible assumption) hb6 hg)
        | (at_builtin; refine wpList_app tIn _ rfl _ _ rfl w.heap.size p' c' l n HL.out rfl hown p4 c4 b n4 HB.out rfl (own_rd hownb) (by omega) (by omega) (n + n4) rfl ?_; intro p6 c6 w6 ho6 hb6 hst6
           have hx : Pk w6 g := Pk.under (by with_reducible assumption) hb6 hg)
        | (at_builtin; refine wpList_app tIn _ rfl _ _ rfl w.heap.size p' c' l n HL.out rfl (own_below hown ((Below.refl _ _).alloc (Nat.le_refl _) _)) _ _ [(_, _, _, _)] 1 rfl rfl (rd_one (heap_at (by first | rfl | simp))) (by omega) (by simp; omega) (n + 1) rfl ?_; intro p6 c6 w6 ho6 hb6 hst6
           have hx : Pk w6 g := Pk.under (Pk.alloc (by with_reducible assumption) _) hb6 hg))
      all_goals go_roundw
      all_goals (first | (case measure => simp [intOf]; omega) | skip)
      · exact ⟨k - 1, p6, n + (1 + n4), c6, _, by omega, by omega, by omega, rfl, rfl, ⟨ho6, all_append HA.out (all_cons (mw_of (by unfold mayP; simp <;> omega) (by simp <;> omega)) HAB.out), by simp [HL.out, HB.out]; omega, hx, Kp.own hKw hb6⟩, gd_app hG (gd_head hGb (mw_of (by unfold mayP; simp <;> omega) (by simp <;> omega)) (by simp) (by show _ = b.length; rw [HB.out]; simp [rch, reachI]))⟩
      · exact ⟨k - 1, p', n, c', l, by omega, by omega, by omega, rfl, rfl, ⟨hown, HA.out, HL.out, by with_reducible assumption, hKw⟩, hG⟩
      · exact ⟨k - 1, p6, n + (1 + n4), c6, _, by omega, by omega, by omega, rfl, rfl, ⟨ho6, all_append HA.out (all_cons (mw_of (by unfold mayP; simp <;> omega) (by simp <;> omega)) HAB.out), by simp [HL.out, HB.out]; omega, hx, Kp.own hKw hb6⟩, gd_app hG (gd_head hGb (mw_of (by unfold mayP; simp <;> omega) (by simp <;> omega)) (by simp) (by show _ = b.length; rw [HB.out]; simp [rch, reachI]))⟩
      · exact ⟨k - 1, p', n, c', l, by omega, by omega, by omega, rfl, rfl, ⟨hown, HA.out, HL.out, by with_reducible assumption, hKw⟩, hG⟩
      · exact ⟨k - 1, p6, n + 1, c6, _, by omega, by omega, by omega, rfl, rfl, ⟨ho6, all_append HA.out (by decide), by simp [HL.out], hx, Kp.own (hKw.alloc _) hb6⟩, gd_app hG gd_mark⟩
      · exact ⟨k - 1, p', n, c', l, by omega, by omega, by omega, rfl, rfl, ⟨own_below hown ((Below.refl _ _).alloc (Nat.le_refl _) _), HA.out, HL.out, Pk.alloc (by with_reducible assumption) _, hKw.alloc _⟩, hG⟩
      · exact ⟨k - 1, p6, n + n4, c6, _, by omega, by omega, by omega, rfl, rfl, ⟨ho6, all_append HA.out HAB.out, by simp [HL.out, HB.out], hx, Kp.own hKw hb6⟩, gd_app hG (gd_of0 hGb)⟩
      · exact ⟨k - 1, p', n, c', l, by omega, by omega, by omega, rfl, rfl, ⟨hown, HA.out, HL.out, by with_reducible assumption, hKw⟩, hG⟩
    · have d : decide (0 < k) = false := by simpa using hlt
      go_wp2_with (first
        | (at_builtin; refine wpList_app tIn _ rfl _ _ rfl w.heap.size p' c' l n HL.out rfl (own_below hown ((Below.refl _ _).alloc (Nat.le_refl _) _)) _ _ [(0, 0, 0, 0)] 1 rfl rfl (rd_one (heap_at (by first | rfl | simp))) (by omega) (by simp; omega) (n + 1) rfl ?_; intro p6 c6 w6 ho6 hb6 hst6))
      go_ret
      exact ⟨p6, n + 1, c6, _, rfl, ⟨ho6, all_snoc HA.out (by decide), by rw [List.length_append, HL.out]; rfl, (hpr.alloc _).under hb6 hg, Kp.own (hKw.alloc _) hb6⟩, by omega, by omega, l, rfl, hG⟩
end Go.Proofs.Ytonholadabebbaa

namespace Go.Proofs.Ytonholadabebbaa
open Go.ChangeShapes Go.WideShapes Go.ChangeAt Go.RowKit
attribute [local go_sem ↓] Go.wp_at_zero Go.wp_at_succ

set_option maxRecDepth 100000 in
set_option maxHeartbeats 8000000 in
theorem wild_any (g : Nat) (w : World) (hp : Pk w g) :
    Calls Try.prog 10 #[.pointer (some ⟨g, 0, none⟩)] w fun e w' => RowTold (fun _ => True) g w 1 12 e w' := by
  have hg := hp.lt
  go_enter Try.func10, Try.ntmps10
  go_wp2_with (go_at_call 17; refine (num_any g _ _ hp (by omega) (by omega)).mono ?_; rintro e w1 ⟨v, rfl, va, vb, hp1, hk1⟩)
  go_loopw [3, 4] (fun t i wr => ∃ (k : Int) (p' : Option Addr) (n c' : Nat) (l : List In), 0 ≤ k ∧ n + k ≤ 11 ∧ i = .int .i64 k ∧ t = .slice p' n c' ∧ Row g w wr p' n c' l) (fun _ i _ => (intOf i).toNat)
  case atStart => exact ⟨v, none, 0, 0, [], va, by omega, rfl, rfl, own_nil _ _ _, rfl, rfl, hp1, hk1⟩
  case round =>
    obtain ⟨k, p', n, c', l, hk0, hk11, rfl, rfl, hR⟩ := hrel
    have hpr := hR.pk
    have hKw := hR.kp
    have hsz := hKw.size
    have HL : Hid (l.length = n) := hR.len
    have hown := hR.own
    clear hp1 hk1 va vb
    by_cases hlt : 0 < k
    · have d : decide (0 < k) = true := by simpa using hlt
      go_wp2_with (first
        | (go_at_call 18; refine (plain_any g _ hpr).mono ?_; rintro e w2 ⟨⟨xo, xa, xb, xn⟩, rfl, hxm, hp2, hk2⟩; have hz2 := hk2.size; have hKr := hk2
           obtain ⟨r, hr⟩ : ∃ r, w2.heap.size = r := ⟨_, rfl⟩
           have hA : At4 (w2.alloc (.cells #[.int .i64 xo, .int .i64 xa, .int .i64 xb, .int .i64 xn] 42)) r (.int .i64 xo) (.int .i64 xa) (.int .i64 xb) (.int .i64 xn) := At4.new hr
           have hpA : Pk (w2.alloc (.cells #[.int .i64 xo, .int .i64 xa, .int .i64 xb, .int .i64 xn] 42)) g := hp2.alloc _
           have hKr : Kp g wr (w2.alloc (.cells #[.int .i64 xo, .int .i64 xa, .int .i64 xb, .int .i64 xn] 42)) := hk2.alloc _
           have hgr : g < r := by have := hp2.lt; omega
           have hne : ¬ r = g := by omega)
        | (go_at_call 17; refine (num_any g _ _ (by with_reducible assumption) (by omega) (by omega)).mono ?_; rintro e w3 ⟨v, rfl, va, vb, hp3, hk3⟩; have hKr := Kp.trans hKr hk3; have hA := At4.kp hA hk3 hne; have hAA := hA; obtain ⟨q0, q1, q2, q3, qf⟩ := hAA; have hz3 := hKr.size; clear hk3)
        | (at_builtin; refine wpList_app tIn _ rfl _ _ rfl w.heap.size p' c' l n HL.out rfl (own_kp hown (by repeat (first | with_reducible exact hKr | (with_reducible refine Kp.alloc ?_ _) | (with_reducible refine Kp.setNew ?_ ?hs _; case hs => dsimp only; omega))) hg) _ _ [(_, _, _, _)] 1 rfl rfl (rd_one (heap_at (by first | rfl | simp))) (by omega) (by simp; omega) (n + 1) rfl ?_; intro p6 c6 w6 ho6 hb6 hst6))
      all_goals
        have hKx : Kp g w w6 := by
          refine Kp.own (Kp.trans hKw ?_) hb6
          repeat (first | with_reducible exact hKr | (with_reducible refine Kp.alloc ?_ _) | (with_reducible refine Kp.setNew ?_ ?hs _; case hs => dsimp only; omega))
        have hPx : Pk w6 g := by
          refine Pk.under (B := w.heap.size) ?_ hb6 hg
          repeat (first | with_reducible assumption | (with_reducible refine Pk.alloc ?_ _) | (with_reducible refine Pk.set ?_ ?hs _; case hs => dsimp only; omega))
        have hRx := Row.snoc hR ho6 (by first | exact mw_pl hxm | exact mw_of (by unfold mayP; simp <;> omega) (by simp <;> omega)) hPx hKx
        go_roundw
        case rel => exact ⟨k - 1, p6, n + 1, c6, _, by omega, by omega, rfl, rfl, hRx⟩
        case measure => simp [intOf]; omega
    · have d : decide (0 < k) = false := by simpa using hlt
      have hgx := hpr.lt
      go_wp2_with (first
        | (at_builtin; refine wpList_app tIn _ rfl _ _ rfl w.heap.size p' c' l n HL.out rfl (own_below hown ((Below.refl _ _).alloc (Nat.le_refl _) _)) _ _ [(0, 0, 0, 0)] 1 rfl rfl (rd_one (heap_at (by first | rfl | simp))) (by omega) (by simp; omega) (n + 1) rfl ?_; intro p6 c6 w6 ho6 hb6 hst6))
      go_ret
      exact ⟨p6, n + 1, c6, _, rfl, Row.snoc hR ho6 (by decide) ((hpr.alloc _).under hb6 hg) (Kp.own (hKw.alloc _) hb6), by omega, by omega, trivial⟩
end Go.Proofs.Ytonholadabebbaa
