/-
  A plain instruction out of choices: one that may be.
-/
import Derived.Test.YtjejabineblnhaaPicks
import Derived.Test.YtjejabineblnhaaPlains
namespace Go.Proofs.Ytjejabineblnhaa
open Go.ChangeShapes Go.WideShapes Go.ChangeAt Go.RowKit
attribute [local go_sem ↓] Go.wp_at_zero Go.wp_at_succ

/-- Four cells of a block, that may be written. -/
structure At4 (w : World) (r : Nat) (a b c d : Value) : Prop where
  c0 : w.cell? ⟨r, 0, none⟩ = some a
  c1 : w.cell? ⟨r, 1, none⟩ = some b
  c2 : w.cell? ⟨r, 2, none⟩ = some c
  c3 : w.cell? ⟨r, 3, none⟩ = some d
  fr : ∀ o, w.frozen? ⟨r, o, none⟩ = false
theorem At4.new {w : World} {a b c d : Value} {t : TypeId} {r : Nat} (h : w.heap.size = r) : At4 (w.alloc (.cells #[a, b, c, d] t)) r a b c d := by
  have hh := heap_at (o := .cells #[a, b, c, d] t) h
  refine ⟨?_, ?_, ?_, ?_, fun o => by simp [World.frozen?, hh]⟩
  all_goals rw [cell_of_row _ r _ _ t (0, 0) hh]; rfl
theorem At4.kp {w w' : World} {g r : Nat} {a b c d : Value} (h : At4 w r a b c d) (hk : Kp g w w') (hn : ¬ r = g) : At4 w' r a b c d := by
  have hr := lt_of_cell h.c0
  obtain ⟨kc, kf⟩ := kcell hk
  exact ⟨(kc r 0 hr hn).trans h.c0, (kc r 1 hr hn).trans h.c1, (kc r 2 hr hn).trans h.c2, (kc r 3 hr hn).trans h.c3, fun o => (kf r o hr hn).trans (h.fr o)⟩
theorem At4.below {w w' : World} {r : Nat} {a b c d : Value} (h : At4 w r a b c d) (hb : Below w.heap.size w w') : At4 w' r a b c d := by
  have hr := lt_of_cell h.c0
  exact ⟨(hb.cell (p := ⟨r, 0, none⟩) hr).trans h.c0, (hb.cell (p := ⟨r, 1, none⟩) hr).trans h.c1, (hb.cell (p := ⟨r, 2, none⟩) hr).trans h.c2, (hb.cell (p := ⟨r, 3, none⟩) hr).trans h.c3, fun o => (hb.frozen (p := ⟨r, o, none⟩) hr).trans (h.fr o)⟩

theorem plain_fin {a : Act} {w w1 : World} {g r : Nat} {A B C D : Int} (hK : Kp g w w1) (hp : Pk w1 g) (hr : w.heap.size = r) (hg : g < w.heap.size) (hd : a.defers = []) (hm : plB (A, B, C, D) = true)
    (hrun : (results Try.f24 a.tmps).run Try.prog ((((w1.setCell ⟨r, 0, none⟩ (.int .i64 A)).setCell ⟨r, 1, none⟩ (.int .i64 B)).setCell ⟨r, 2, none⟩ (.int .i64 C)).setCell ⟨r, 3, none⟩ (.int .i64 D)) = .ok (.agg #[.int .i64 A, .int .i64 B, .int .i64 C, .int .i64 D]) ((((w1.setCell ⟨r, 0, none⟩ (.int .i64 A)).setCell ⟨r, 1, none⟩ (.int .i64 B)).setCell ⟨r, 2, none⟩ (.int .i64 C)).setCell ⟨r, 3, none⟩ (.int .i64 D))) :
    bodyPost Try.prog Try.f24 (fun e w' => ∃ x : In, e = .returned (.agg #[.int .i64 x.1, .int .i64 x.2.1, .int .i64 x.2.2.1, .int .i64 x.2.2.2]) ∧ plB x = true ∧ Pk w' g ∧ Kp g w w') Exit.ret a
      ((((w1.setCell ⟨r, 0, none⟩ (.int .i64 A)).setCell ⟨r, 1, none⟩ (.int .i64 B)).setCell ⟨r, 2, none⟩ (.int .i64 C)).setCell ⟨r, 3, none⟩ (.int .i64 D)) := by
  have h1 : w.heap.size ≤ r := by omega
  have h2 : g < r := by omega
  exact bodyPost_ret hrun hd ⟨(A, B, C, D), rfl, hm, (((hp.set h2 _).set h2 _).set h2 _).set h2 _, (((hK.setNew h1 _).setNew h1 _).setNew h1 _).setNew h1 _⟩

set_option maxHeartbeats 4000000 in
theorem plain_any (g : Nat) (w : World) (hp : Pk w g) :
    Calls Try.prog 24 #[.pointer (some ⟨g, 0, none⟩)] w fun e w' => ∃ x : In, e = .returned (.agg #[.int .i64 x.1, .int .i64 x.2.1, .int .i64 x.2.2.1, .int .i64 x.2.2.2]) ∧ plB x = true ∧ Pk w' g ∧ Kp g w w' := by
  have hg := hp.lt
  have hp1 : Pk (w.alloc (.cells #[.int .i64 0, .int .i64 0, .int .i64 0, .int .i64 0] 38)) g := hp.alloc _
  have hK : Kp g w (w.alloc (.cells #[.int .i64 0, .int .i64 0, .int .i64 0, .int .i64 0] 38)) := (Kp.refl _ _).alloc _
  obtain ⟨r, hr⟩ : ∃ r, w.heap.size = r := ⟨_, rfl⟩
  have hA : At4 (w.alloc (.cells #[.int .i64 0, .int .i64 0, .int .i64 0, .int .i64 0] 38)) r (.int .i64 0) (.int .i64 0) (.int .i64 0) (.int .i64 0) := At4.new hr
  have HR : Hid (w.heap.size = r) := hr
  have hne : ¬ r = g := by omega
  go_enter Try.func24, Try.ntmps24
  go_wp2_with (first
    | (go_at_call 23; refine (num_any g _ _ (by assumption) (by omega) (by omega)).mono ?_; rintro e w1 ⟨v, rfl, va, vb, hp1, hk1⟩; have hK := Kp.trans hK hk1; have hA := At4.kp hA hk1 hne; have hAA := hA; obtain ⟨q0, q1, q2, q3, qf⟩ := hAA; clear hk1))
  all_goals
    refine plain_fin hK hp1 HR.out hg rfl ?_ ?_
    · exact pl_of (by unfold mayP; simp <;> omega) (by simp) (by simp)
    · simp [results, Try.results24, go_sem, q0, q1, q2, q3]
end Go.Proofs.Ytjejabineblnhaa
