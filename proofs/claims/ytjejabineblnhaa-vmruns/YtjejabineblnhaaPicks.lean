/-
  Numbers from which choices are read: a choice is below what it was asked for, and nothing else is turned.
-/
import Derived.Test.YtjejabineblnhaaLows
namespace Go.Proofs.Ytjejabineblnhaa
open Go.ChangeShapes Go.WideShapes Go.ChangeAt Go.RowKit
attribute [local go_sem ↓] Go.wp_at_zero Go.wp_at_succ

/-- Block g is where choices are read from. -/
def Pk (w : World) (g : Nat) : Prop := ∃ (q : Option Addr) (N c k : Nat) (zs : List Int),
  w.heap[g]? = some (.cells #[.slice q N c, .int .i64 (k : Int)] 54 (0, 0)) ∧ k ≤ N ∧ N ≤ 1000 ∧ Rd eBy w q c zs ∧ zs.length = N ∧ (∀ x ∈ zs, 0 ≤ x ∧ x ≤ 255) ∧ (∀ b o, q = some ⟨b, o, none⟩ → zs ≠ [] → b < g)

theorem rd_under {α : Type} {E : Elt α} {w w' : World} {B : Nat} {p : Option Addr} {c : Nat} {l : List α} (h : Rd E w p c l) (hb : Below B w w') (hp : ∀ b o, p = some ⟨b, o, none⟩ → l ≠ [] → b < B) : Rd E w' p c l := by
  refine ⟨h.cap, ?_⟩
  rcases h.at_ with h0 | ⟨b, o, s, rfl, hs, hc⟩
  · exact .inl h0
  · by_cases hl : l = []
    · subst hl
      exact .inr ⟨b, o, s, rfl, fun h => absurd rfl h, fun j v hj => by simp [fl] at hj⟩
    · have := hs hl
      subst this
      exact .inr ⟨b, o, none, rfl, fun _ => rfl, fun j v hj => (hb.cell (p := ⟨b, o + j, none⟩) (hp b o rfl hl)).trans (hc j v hj)⟩
theorem Pk.lt {w : World} {g : Nat} (h : Pk w g) : g < w.heap.size := by
  obtain ⟨q, N, c, k, zs, h1, _⟩ := h
  exact (Array.getElem?_eq_some_iff.1 h1).1
theorem Pk.under {w w' : World} {g B : Nat} (h : Pk w g) (hb : Below B w w') (hg : g < B) : Pk w' g := by
  obtain ⟨q, N, c, k, zs, h1, h2, h3, h4, h5, h6, h7⟩ := h
  exact ⟨q, N, c, k, zs, by rw [hb.block g hg]; exact h1, h2, h3, rd_under h4 hb (fun b o e hn => Nat.lt_trans (h7 b o e hn) hg), h5, h6, h7⟩
theorem Pk.below {w w' : World} {g : Nat} (h : Pk w g) (hb : Below w.heap.size w w') : Pk w' g := h.under hb h.lt
theorem Pk.set {w : World} {g : Nat} (h : Pk w g) {a : Addr} (ha : g < a.block) (u : Value) : Pk (w.setCell a u) g := h.under (B := g + 1) ((Below.refl _ _).setCell (by omega) u) (Nat.lt_succ_self _)
theorem Pk.alloc {w : World} {g : Nat} (h : Pk w g) (o : Obj) : Pk (w.alloc o) g := h.below ((Below.refl _ _).alloc (Nat.le_refl _) _)
theorem Kp.alloc {g : Nat} {w w' : World} (h : Kp g w w') (o : Obj) : Kp g w (w'.alloc o) := h.trans (Kp.of_below ((Below.refl _ _).alloc (Nat.le_refl _) _))
theorem Kp.setNew {g : Nat} {w w' : World} (h : Kp g w w') {a : Addr} (ha : w.heap.size ≤ a.block) (u : Value) : Kp g w (w'.setCell a u) :=
  ⟨h.os, h.tape, h.output, by simpa [World.setCell] using h.size, fun k hk hn => (Below.heap_setCell _ _ _ _ (by omega)).trans (h.block k hk hn)⟩
/-- Blocks from w's end on are the call's own. -/
theorem Kp.own {g : Nat} {w w1 w2 : World} (h : Kp g w w1) (hb : Below w.heap.size w1 w2) : Kp g w w2 :=
  ⟨hb.os.trans h.os, hb.tape.trans h.tape, hb.output.trans h.output, Nat.le_trans h.size hb.size, fun k hk hn => (hb.block k hk).trans (h.block k hk hn)⟩
theorem kcell {g : Nat} {W w1 : World} (h : Kp g W w1) : (∀ b o, b < W.heap.size → ¬ b = g → w1.cell? ⟨b, o, none⟩ = W.cell? ⟨b, o, none⟩) ∧ (∀ b o, b < W.heap.size → ¬ b = g → w1.frozen? ⟨b, o, none⟩ = W.frozen? ⟨b, o, none⟩) :=
  ⟨fun b o hb hn => World.cell?_of_block (a := ⟨b, o, none⟩) (h.block b hb (by intro e; cases e; exact hn rfl)), fun b o hb hn => World.frozen?_of_block (a := ⟨b, o, none⟩) (h.block b hb (by intro e; cases e; exact hn rfl))⟩

theorem made_any (q : Option Addr) (c : Nat) (zs : List Int) (w : World) (N : Nat) (hN : zs.length = N) (hl : N ≤ 1000) (hr : Rd eBy w q c zs) (hb : ∀ x ∈ zs, 0 ≤ x ∧ x ≤ 255) :
    Calls Try.prog 17 #[.slice q N c] w fun e w' => e = .returned (.pointer (some ⟨w.heap.size, 0, none⟩)) ∧ Pk w' w.heap.size ∧ Below w.heap.size w w' ∧ w'.heap.size = w.heap.size + 1 := by
  go_enter Try.func17, Try.ntmps17
  go_wp2
  go_ret
  refine ⟨rfl, ⟨q, N, c, 0, zs, heap_alloc_new w _, Nat.zero_le _, hl, hr.below ((Below.refl _ _).alloc (Nat.le_refl _) _), hN, hb, fun b o e hn => ?_⟩, (Below.refl _ _).alloc (Nat.le_refl _) _, by simp⟩
  obtain ⟨b', o', e', hlt, _⟩ := hr.pos (List.length_pos_iff.2 hn)
  rw [e] at e'
  cases e'
  exact hlt

theorem pk_step {w : World} {g : Nat} {A B : Value} (h : w.heap[g]? = some (.cells #[A, B] 54 (0, 0))) (u : Value) : (w.setCell ⟨g, 1, none⟩ u).heap[g]? = some (.cells #[A, u] 54 (0, 0)) := by
  rw [setCell_eq_setRow w g 1 _ _ _ _ h]
  have := setRow_heap w g #[A, B] (#[A, B].setIfInBounds 1 u) 54 _ h
  simpa using this

set_option maxHeartbeats 1000000 in
theorem num_any (g : Nat) (m : Int) (w : World) (hp : Pk w g) (h1 : 1 ≤ m) (h2 : m ≤ 1000) :
    Calls Try.prog 23 #[.pointer (some ⟨g, 0, none⟩), .int .i64 m] w fun e w' => ∃ v, e = .returned (.int .i64 v) ∧ 0 ≤ v ∧ v < m ∧ Pk w' g ∧ Kp g w w' := by
  have hp0 := hp
  obtain ⟨q, N, c, k, zs, hg, hk, hN, hr, hl, hb, hq⟩ := hp
  have c0 : w.cell? ⟨g, 0, none⟩ = some (.slice q N c) := by rw [cell_of_row w g 0 _ 54 (0, 0) hg]; rfl
  have c1 : w.cell? ⟨g, 1, none⟩ = some (.int .i64 (k : Int)) := by rw [cell_of_row w g 1 _ 54 (0, 0) hg]; rfl
  by_cases hlt : k < N
  · obtain ⟨b, o, rfl, hbz, hc⟩ := hr.byte k (by omega)
    have hx := hb zs[k] (List.getElem_mem _)
    have hbg := hq b o rfl (List.length_pos_iff.1 (by omega))
    have ne1 : ¬ b = g := by omega
    have ne2 : ¬ g = b := by omega
    have f1 : w.frozen? ⟨g, 1, none⟩ = false := by simp [World.frozen?, hg]
    obtain ⟨x0, x1⟩ := hx
    have HZ : Hid (zs.length = N) := hl
    have d1 : decide ((N : Int) ≤ (k : Int)) = false := by simp; omega
    have HG : Hid (w.heap[g]? = some (.cells #[.slice (some ⟨b, o, none⟩) N c, .int .i64 (k : Int)] 54 (0, 0))) := hg
    clear hp0 hg
    generalize zs[k] = x at *
    clear hl
    have z0 : (0 : Int) ≤ (k : Int) := by omega
    have z1 : (k : Int) < (N : Int) := by omega
    go_enter Try.func23, Try.ntmps23
    go_wp2
    go_quiet (fail)
    go_wp2
    have e0 : ((w.drewN nq).setCell ⟨g, 1, none⟩ (.int .i64 ((k : Int) + 1))).cell? ⟨g, 0, none⟩ = some (.slice (some ⟨b, o, none⟩) N c) := by
      rw [cell_of_row _ g 0 _ 54 (0, 0) (pk_step (w := w.drewN nq) HG.out _)]; rfl
    have e1 : ((w.drewN nq).setCell ⟨g, 1, none⟩ (.int .i64 ((k : Int) + 1))).cell? ⟨g, 1, none⟩ = some (.int .i64 ((k : Int) + 1)) := by
      rw [cell_of_row _ g 1 _ 54 (0, 0) (pk_step (w := w.drewN nq) HG.out _)]; rfl
    have hK : Kp g w ((w.drewN nq).setCell ⟨g, 1, none⟩ (.int .i64 ((k : Int) + 1))) := ((Kp.refl g w).draws nq).trans (Kp.set rfl _)
    have e2 : ((w.drewN nq).setCell ⟨g, 1, none⟩ (.int .i64 ((k : Int) + 1))).cell? ⟨b, o + k, none⟩ = some (.int .u8 x) := ((kcell hK).1 b (o + k) hbz ne1).trans hc
    have hP : Pk ((w.drewN nq).setCell ⟨g, 1, none⟩ (.int .i64 ((k : Int) + 1))) g :=
      ⟨_, N, c, k + 1, zs, by rw [pk_step (w := w.drewN nq) HG.out _]; rfl, by omega, hN, rd_kp hr hK (fun b' o' e _ => by cases e; exact ne1), HZ.out, hb, hq⟩
    generalize (w.drewN nq).setCell ⟨g, 1, none⟩ (.int .i64 ((k : Int) + 1)) = W at *
    clear c0 c1 hc f1 HG hr
    go_quiet (fail)
    go_wp2
    go_ret
    exact ⟨x % m, rfl, Int.emod_nonneg _ (by omega), Int.emod_lt_of_pos _ (by omega), hP.below (bel_draws (Below.refl _ _) _), hK.draws _⟩
  · have d1 : decide ((N : Int) ≤ (k : Int)) = true := by simp; omega
    go_enter Try.func23, Try.ntmps23
    go_wp2
    go_quiet (fail)
    go_wp2
    go_ret
    exact ⟨0, rfl, by omega, by omega, hp0.below (bel_draws (Below.refl _ _) _), (Kp.refl _ _).draws _⟩
end Go.Proofs.Ytjejabineblnhaa
