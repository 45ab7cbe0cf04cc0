/-
  The law PureAll, walked.
-/
import Derived.Test.YtboffjabffcddaaRrung
import Derived.Test.YtboffjabffcddaaPrun
import Derived.Test.YtboffjabffcddaaMade
import Derived.Test.YtboffjabffcddaaLots
namespace Go.Proofs.Ytboffjabffcddaa
open Go.ChangeShapes Go.WideShapes Go.ChangeAt Go.RowKit
attribute [local go_sem ↓] Go.wp_at_zero Go.wp_at_succ

theorem rd_own {α : Type} {E : Elt α} {w : World} {p : Option Addr} {c : Nat} {l : List α} (h : Rd E w p c l) : ∀ b o, p = some ⟨b, o, none⟩ → l ≠ [] → b < w.heap.size := fun b o e hne => by
  obtain ⟨b', o', e', hlt, _⟩ := h.pos (List.length_pos_iff.2 hne)
  rw [e] at e'
  cases e'
  exact hlt
/-- what a run comes to, whatever l is -/
theorem run_is (l : List In) (x : Int) (hx0 : -9223372036854775808 ≤ x) (hx1 : x ≤ 9223372036854775807) : ∃ (v : Int) (N : Nat) (ok : Bool), -9223372036854775808 ≤ v ∧ (ok = false → v = 0 ∧ N = 0) ∧ (ok = okB l) ∧ (ok = true → EndsAt l x N v) := by
  cases h : okB l with
  | false => exact ⟨0, 0, false, by decide, fun _ => ⟨rfl, rfl⟩, rfl, fun h => by cases h⟩
  | true =>
    obtain ⟨N, v, hE, _⟩ := ends_ex h hx0 hx1
    by_cases hv : -9223372036854775808 ≤ v
    · exact ⟨v, N, true, hv, (fun h => by cases h), rfl, fun _ => hE⟩
    · exact absurd (show -9223372036854775808 ≤ v from by
        obtain ⟨n, hn⟩ : ∃ n, n = N := ⟨N, rfl⟩
        have hP := prg_of h
        have key : ∀ k, k ≤ N → ∃ pc mem R ov, RI l x (tk l) k pc mem R ov := fun k => by
          induction k with
          | zero => exact fun _ => ⟨_, _, _, _, ri_start hP hx0 hx1⟩
          | succ k ih =>
            intro hk
            obtain ⟨pc, mem, R, ov, hI⟩ := ih (by omega)
            have := hE.2.1 k (by omega)
            rw [hI.st] at this
            obtain rfl : ov = false := this
            obtain ⟨⟨pcF, memF, RF, ovF, y, ok⟩, hF⟩ : ∃ y, stepF l pc mem R false = y := ⟨_, rfl⟩
            exact ⟨_, _, _, _, (ri_step hP hI hF).2⟩
        obtain ⟨pc, mem, R, ov, hI⟩ := key N (Nat.le_refl _)
        have := hE.2.2
        rw [hI.st] at this
        rw [this]
        exact (getD_in hI.vi.mb 0).1) hv
theorem prun_c (p : Option Addr) (c : Nat) (l : List In) (w : World) (hr : Rd eIn w p c l) (n : Nat) (hN : l.length = n) (hn : n ≤ 1000) (x : Int) (hx0 : -9223372036854775808 ≤ x) (hx1 : x ≤ 9223372036854775807) (N : Nat) (v : Int) (ok : Bool) (h0 : ok = false → v = 0 ∧ N = 0) (h1 : ok = okB l) (h2 : ok = true → EndsAt l x N v) :
    Calls Try.prog 13 #[.slice p n c, .int .i64 x] w fun e w' => e = .returned (.tuple #[.int .i64 v, .int .i64 (N : Int), .bool ok]) ∧ Below w.heap.size w w' := by
  cases ok with
  | true => exact prun_yes p c l w hr n hN hn h1.symm x hx0 hx1 N v (h2 rfl)
  | false => obtain ⟨rfl, rfl⟩ := h0 rfl; exact prun_no p c l w hr n hN hn h1.symm x
theorem rrun_c (p : Option Addr) (c : Nat) (l : List In) (w : World) (hr : Rd eIn w p c l) (n : Nat) (hN : l.length = n) (hn : n ≤ 1000) (x : Int) (hx0 : -9223372036854775808 ≤ x) (hx1 : x ≤ 9223372036854775807) (N : Nat) (v : Int) (ok : Bool) (h0 : ok = false → v = 0 ∧ N = 0) (h1 : ok = okB l) (h2 : ok = true → EndsAt l x N v) :
    Calls Try.prog 14 #[.slice p n c, .int .i64 x] w fun e w' => e = .returned (.tuple #[.int .i64 v, .int .i64 (N : Int), .bool ok]) ∧ Below w.heap.size w w' := by
  cases ok with
  | true => exact rrun_yes p c l w hr n hN h1.symm x hx0 hx1 N v (h2 rfl)
  | false => obtain ⟨rfl, rfl⟩ := h0 rfl; exact rrun_no p c l w hr n hN hn h1.symm x

set_option maxRecDepth 100000 in
set_option maxHeartbeats 8000000 in
theorem pall_walk (pl : Option Addr) (cl nl : Nat) (l0 : List In) (p : Option Addr) (c : Nat) (n : Nat) (zs : List Int) (w : World) (hl0 : Rd eIn w pl cl l0) (hnl : l0.length = nl) (hp : Rd eBy w p c zs) (hn : zs.length = n) (hbz : ∀ x ∈ zs, 0 ≤ x ∧ x ≤ 255) (hm1 : n ≤ 9223372036854775807) (hm2 : nl ≤ 9223372036854775807) (x : Int) (hx0 : -9223372036854775808 ≤ x) (hx1 : x ≤ 9223372036854775807) :
    Calls Try.prog 3 #[.slice pl nl cl, .slice p n c, .int .i64 x] w fun e w' => e = .returned (.bool true) ∧ Below w.heap.size w w' := by
  have HN : Hid (zs.length = n) := hn
  have HL : Hid (l0.length = nl) := hnl
  clear hn hnl
  by_cases c0 : 30 < nl
  · have d1 : decide ((30 : Int) < (nl : Int)) = true := by simp; omega
    go_enter Try.func3, Try.ntmps3
    go_wp2_with (go_at_call 9; refine (begun9 _).mono ?_; rintro e w1 ⟨rfl, hb1⟩)
    go_ret
    exact ⟨rfl, hb1⟩
  have d0 : decide ((30 : Int) < (nl : Int)) = false := by simp; omega
  by_cases c1 : 80 < n
  · have d1 : decide ((80 : Int) < (n : Int)) = true := by simp; omega
    go_enter Try.func3, Try.ntmps3
    go_wp2_with (go_at_call 9; refine (begun9 _).mono ?_; rintro e w1 ⟨rfl, hb1⟩)
    go_ret
    exact ⟨rfl, hb1⟩
  · have d1 : decide ((80 : Int) < (n : Int)) = false := by simp; omega
    have h1000 : n ≤ 1000 := by omega
    go_enter Try.func3, Try.ntmps3
    go_wp2_with (first
      | (go_at_call 9; refine (begun9 _).mono ?_; rintro e w1 ⟨rfl, hb1⟩; have hp1 := hp.below hb1)
      | (go_at_call 10; (with_reducible (refine (made_any p c zs _ n HN.out h1000 hp1 hbz).mono ?_)); rintro e w2 ⟨rfl, pk2, hb2, hs2⟩; have hB2 := bel_call hb1 (Nat.le_refl _) hb2)
      | (go_at_call 11; (with_reducible (refine (code_any w1.heap.size _ pk2).mono ?_)); (rintro e w3 ⟨p3, n3, c3, l3, rfl, ⟨o3, a3, e3, pk3, kp3⟩, g3, g3', k3⟩); have hB3 := hB2.trans (kp3.below (B := w.heap.size) (by have := hb1.size; omega) (by have := hB2.size; omega)); have hp3 := rd_under hp hB3 (rd_own hp))
      | (go_at_call 10; (with_reducible (refine (made_any p c zs _ n HN.out h1000 hp3 hbz).mono ?_)); rintro e w4 ⟨rfl, pk4, hb4, hs4⟩; have hB4 := bel_call hB3 (Nat.le_refl _) hb4; have o34 := own_below o3 hb4)
      | (go_at_call 12; (with_reducible (refine (wild_any w3.heap.size _ pk4).mono ?_)); (rintro e w5 ⟨p5, n5, c5, l5, rfl, ⟨o5, a5, e5, pk5, kp5⟩, g5, g5', _⟩); have hB5 := hB4.trans (kp5.below (B := w.heap.size) (by have := hB3.size; omega) (by have := hB4.size; omega)); have hrd3 := rd_kp (own_rd o34) kp5 (fun b o e hne => (by subst e; obtain ⟨b', o', e', hlt, _⟩ := (own_rd o3).pos (List.length_pos_iff.2 hne); cases e'; omega))))
    have hal : Below w5.heap.size w5 (w5.alloc (Obj.cells #[Value.slice p3 n3 c3, Value.slice p5 n5 c5, Value.slice pl nl cl] 22)) := (Below.refl _ _).alloc (Nat.le_refl _) _
    have hRw : Rws (w5.alloc (Obj.cells #[Value.slice p3 n3 c3, Value.slice p5 n5 c5, Value.slice pl nl cl] 22)) w5.heap.size [l3, l5, l0] :=
      Rws.three (heap_alloc_new _ _) (hrd3.below hal) e3 ((own_rd o5).below hal) e5 ((rd_under hl0 hB5 (rd_own hl0)).below hal) HL.out
    have hBw : Below w.heap.size w (w5.alloc (Obj.cells #[Value.slice p3 n3 c3, Value.slice p5 n5 c5, Value.slice pl nl cl] 22)) := hB5.alloc hB5.size _
    have hAll : ∀ l ∈ [l3, l5, l0], l.length ≤ 30 := by
      intro l hl
      simp at hl
      rcases hl with rfl | rfl | rfl
      · omega
      · omega
      · rw [HL.out]; omega
    have hP3 : [l3, l5, l0].length = 3 := rfl
    generalize [l3, l5, l0] = P at *
    generalize (w5.alloc (Obj.cells #[Value.slice p3 n3 c3, Value.slice p5 n5 c5, Value.slice pl nl cl] 22)) = w6 at *
    generalize w5.heap.size = b6 at *
    clear hrd3 o5 pk5 kp5 hB5 o34 pk4 hb4 hs4 hB4 hp3 o3 pk3 kp3 hB3 pk2 hb2 hs2 hB2 hp1 hb1 a3 e3 a5 e5 g3 g5 g5' k3 hal
    go_loopw [8] (fun i wr => ∃ k : Nat, k ≤ 3 ∧ i = .int .i64 k ∧ Below w6.heap.size w6 wr) (fun i _ => 3 - (intOf i).toNat)
    case atStart => exact ⟨0, by omega, rfl, Below.refl _ _⟩
    case round =>
      obtain ⟨kk, hkk, rfl, hbw⟩ := hrel
      by_cases hlt : kk < 3
      · have hkP : kk < P.length := by omega
        obtain ⟨q, d, hcell, hrd⟩ := (hRw.below hbw).2 kk hkP
        have hbb := (hRw.below hbw).1
        have hl30 := hAll _ (List.getElem_mem hkP)
        generalize P[kk] = l at *
        obtain ⟨m, hm⟩ : ∃ m, l.length = m := ⟨_, rfl⟩
        have HM : Hid (l.length = m) := hm
        rw [hm] at hcell hl30
        clear hm
        obtain ⟨v, N, ok, hv0, t0, t1, t2⟩ := run_is l x hx0 hx1
        have K1 := fun w' (hb' : Below wr.heap.size wr w') => prun_c q d l w' (hrd.below hb') m HM.out (by omega) x hx0 hx1 N v ok t0 t1 t2
        have K2 := fun w' (hb' : Below wr.heap.size wr w') => rrun_c q d l w' (hrd.below hb') m HM.out (by omega) x hx0 hx1 N v ok t0 t1 t2
        clear t0 t1 t2 hrd hv0
        have hoo : (ok == ok) = true := by simp
        go_wp2_with (first
          | (go_at_call 13; (with_reducible (refine (K1 _ (Below.refl _ _)).mono ?_)); rintro e w7 ⟨rfl, b7⟩; have c7 := (b7.cell (p := ⟨b6, kk, none⟩) hbb).trans hcell; have z7 := b7.size)
          | (go_at_call 14; (with_reducible (refine (K2 _ b7).mono ?_)); rintro e w8 ⟨rfl, b8⟩; have B8 := b7.trans (b8.mono b7.size)))
        go_roundw
        case rel => exact ⟨kk + 1, by omega, by go_num, hbw.trans (B8.mono hbw.size)⟩
        case measure => simp [intOf]; omega
      · have t1 : decide ((kk : Int) < 3) = false := decide_eq_false (by omega)
        go_wp2
        go_ret
        exact ⟨rfl, bel_call hBw (Nat.le_refl _) hbw⟩
end Go.Proofs.Ytboffjabffcddaa
