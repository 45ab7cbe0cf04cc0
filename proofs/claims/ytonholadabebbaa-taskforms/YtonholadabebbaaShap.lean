/-
  Put together:
  Whether Marks stand in nothing.
  Where a semaphore is locked or let go, as an array.
  Whether one that is held is of that semaphore.
  What is held so far: a row of places, and a map from where each was taken.
  A Lock takes its semaphore, or tells that it may not.
  An Unlock lets its semaphore go, or tells that it may not.
  The pairs of a program.
  Which programs may be, by package shape; the contracts at letters.
-/
import Derived.Test.YtonholadabebbaaLowt
import Derived.Test.YtonholadabebbaaHand
import Derived.Laws.CopyRow
import Derived.Test.YtonholadabebbaaMade
namespace Go.Proofs.Ytonholadabebbaa
open Go.ChangeShapes Go.WideShapes Go.ChangeAt Go.RowKit
attribute [local go_sem ↓] Go.wp_at_zero Go.wp_at_succ

theorem mark_no {l : List In} (k : Nat) (hk : k < l.length) (h : ((gt l k).1 == 11 && (decide (scL l k ≠ List.replicate 24 0) || betw (pairL l) k)) = true) : markB l = false := allN_no k hk (by simp only [h]; rfl)

set_option maxHeartbeats 2000000 in
set_option maxRecDepth 20000 in
theorem marks_any (p : Option Addr) (c : Nat) (l : List In) (w : World) (hr : Rd eIn w p c l) (n : Nat) (hN : l.length = n) (hl : n ≤ 24) (ha : l.all mayB = true) (q : Option Addr) (d : Nat) (hq : Rd eI w q d (pairL l)) :
    Calls Try.prog 53 #[.slice p n c, .slice q n d] w fun e w' => e = .returned (.bool (markB l)) ∧ Below w.heap.size w w' := by
  have HN : Hid (l.length = n) := hN
  have HP : Hid ((pairL l).length = n) := by show _ = _; rw [← hN]; exact outO_len l _
  clear hN
  go_enter Try.func53, Try.ntmps53
  go_wp2
  go_loopw [9] (fun i wr => ∃ k : Nat, k ≤ n ∧ i = .int .i64 k ∧ Hid (∀ j, j < k → ((gt l j).1 == 11 && (decide (scL l j ≠ List.replicate 24 0) || betw (pairL l) j)) = false) ∧ Below w.heap.size w wr) (fun i _ => n - (intOf i).toNat)
  case atStart => exact ⟨0, Nat.zero_le _, rfl, fun j hj => by omega, Below.refl _ _⟩
  case round =>
    obtain ⟨k, hk, rfl, HT, hbw⟩ := hrel
    by_cases hlt : k < n
    · have hkl : k < l.length := by rw [HN.out]; exact hlt
      obtain ⟨b, o, rfl, hb, f0, f1, f2, f3⟩ := (hr.below hbw).inst k hkl
      have HG : Hid (gt l k = l[k]) := gt_eq hkl
      have hsc := fun w' hb' => scope_any _ c l w' (hr.below (bel_call hbw (Nat.le_refl _) hb')) n HN.out hl ha k hlt
      have hbe := fun w' hb' => between_any q d (pairL l) w' (hq.below (bel_call hbw (Nat.le_refl _) hb')) n HP.out (by omega) k
      generalize l[k] = x at *
      obtain ⟨xo, xa, xb, xn⟩ := x
      simp only at f0 f1 f2 f3
      by_cases h11 : xo = 11
      · subst h11
        have HNX : Hid ((gt l k).1 = 11) := by show _ = _; rw [HG.out]
        have hneq := fun w' => neq75 (A := scL l k) (B := List.replicate 24 0) (scL_len l k) (by simp) w'
        by_cases hs : scL l k = List.replicate 24 0
        · have hneq' : ∀ w', (binOp .neq 107 (.agg (cI7 (scL l k))) (.agg #[.int .i64 0, .int .i64 0, .int .i64 0, .int .i64 0, .int .i64 0, .int .i64 0, .int .i64 0, .int .i64 0, .int .i64 0, .int .i64 0, .int .i64 0, .int .i64 0, .int .i64 0, .int .i64 0, .int .i64 0, .int .i64 0, .int .i64 0, .int .i64 0, .int .i64 0, .int .i64 0, .int .i64 0, .int .i64 0, .int .i64 0, .int .i64 0])).run Try.prog w' = .ok (.bool false) w' := fun w' => by have := hneq w'; rw [decide_eq_true hs] at this; exact this
          by_cases hbt : betw (pairL l) k = true
          · have HF : Hid (markB l = false) := mark_no k hkl (by rw [HNX.out, hbt]; simp)
            rw [hbt] at hbe
            clear hneq hs
            generalize cI7 (scL l k) = S at *
            go_wp2_with (first
              | (go_at_call 63; refine (hsc _ (by repeat (first | exact Below.refl _ _ | refine Below.alloc ?_ (by simp <;> omega) _ | refine Below.setCell ?_ (by simp <;> omega) _))).mono ?_; rintro e w4 ⟨rfl, hb4⟩
                 have hB4 : Below wr.heap.size wr w4 := bel_call (by repeat (first | exact Below.refl _ _ | refine Below.alloc ?_ (by simp <;> omega) _ | refine Below.setCell ?_ (by simp <;> omega) _)) (Nat.le_refl _) hb4)
              | (go_at_call 64; refine (hbe _ hB4).mono ?_; rintro e w5 ⟨rfl, hb5⟩))
            go_ret
            exact ⟨by rw [HF.out]; rfl, bel_call (bel_call hbw (Nat.le_refl _) hB4) (Nat.le_refl _) hb5⟩
          · have hbt' : betw (pairL l) k = false := by simpa using hbt
            have HK : Hid (((gt l k).1 == 11 && (decide (scL l k ≠ List.replicate 24 0) || betw (pairL l) k)) = false) := by show _ = _; rw [hbt', hs]; simp
            rw [hbt'] at hbe
            clear hneq hs
            generalize cI7 (scL l k) = S at *
            go_wp2_with (first
              | (go_at_call 63; refine (hsc _ (by repeat (first | exact Below.refl _ _ | refine Below.alloc ?_ (by simp <;> omega) _ | refine Below.setCell ?_ (by simp <;> omega) _))).mono ?_; rintro e w4 ⟨rfl, hb4⟩
                 have hB4 : Below wr.heap.size wr w4 := bel_call (by repeat (first | exact Below.refl _ _ | refine Below.alloc ?_ (by simp <;> omega) _ | refine Below.setCell ?_ (by simp <;> omega) _)) (Nat.le_refl _) hb4)
              | (go_at_call 64; refine (hbe _ hB4).mono ?_; rintro e w5 ⟨rfl, hb5⟩))
            go_roundw
            case rel => exact ⟨k + 1, by omega, by go_num, fun j hj => (if e : j = k then by subst e; exact HK.out else HT.out j (by omega)), bel_call (bel_call hbw (Nat.le_refl _) hB4) (Nat.le_refl _) hb5⟩
            case measure => simp [intOf]; omega
        · have hneq' : ∀ w', (binOp .neq 107 (.agg (cI7 (scL l k))) (.agg #[.int .i64 0, .int .i64 0, .int .i64 0, .int .i64 0, .int .i64 0, .int .i64 0, .int .i64 0, .int .i64 0, .int .i64 0, .int .i64 0, .int .i64 0, .int .i64 0, .int .i64 0, .int .i64 0, .int .i64 0, .int .i64 0, .int .i64 0, .int .i64 0, .int .i64 0, .int .i64 0, .int .i64 0, .int .i64 0, .int .i64 0, .int .i64 0])).run Try.prog w' = .ok (.bool true) w' := fun w' => by have := hneq w'; rw [decide_eq_false hs] at this; exact this
          have HF : Hid (markB l = false) := mark_no k hkl (by rw [HNX.out, decide_eq_true (p := scL l k ≠ List.replicate 24 0) hs]; rfl)
          clear hneq hs
          generalize cI7 (scL l k) = S at *
          go_wp2_with (first
            | (go_at_call 63; refine (hsc _ (by repeat (first | exact Below.refl _ _ | refine Below.alloc ?_ (by simp <;> omega) _ | refine Below.setCell ?_ (by simp <;> omega) _))).mono ?_; rintro e w4 ⟨rfl, hb4⟩
               have hB4 : Below wr.heap.size wr w4 := bel_call (by repeat (first | exact Below.refl _ _ | refine Below.alloc ?_ (by simp <;> omega) _ | refine Below.setCell ?_ (by simp <;> omega) _)) (Nat.le_refl _) hb4))
          go_ret
          exact ⟨by rw [HF.out]; rfl, bel_call hbw (Nat.le_refl _) hB4⟩
      · have d11 : (xo == 11) = false := by simpa using h11
        have HK : Hid (((gt l k).1 == 11 && (decide (scL l k ≠ List.replicate 24 0) || betw (pairL l) k)) = false) := by show _ = _; rw [HG.out, d11]; rfl
        clear hsc hbe
        go_wp2
        go_roundw
        case rel => exact ⟨k + 1, by omega, by go_num, fun j hj => (if e : j = k then by subst e; exact HK.out else HT.out j (by omega)), bel_call hbw (Nat.le_refl _) (by repeat (first | exact Below.refl _ _ | refine Below.alloc ?_ (by simp <;> omega) _ | refine Below.setCell ?_ (by simp <;> omega) _))⟩
        case measure => simp [intOf]; omega
    · have HF : Hid (markB l = true) := allN_iff.2 (fun i hi => by rw [HT.out i (by rw [HN.out] at hi; omega)]; rfl)
      go_wp2
      go_ret
      exact ⟨by rw [HF.out]; rfl, hbw⟩
end Go.Proofs.Ytonholadabebbaa

namespace Go.Proofs.Ytonholadabebbaa
open Go.ChangeShapes Go.WideShapes Go.ChangeAt Go.RowKit
attribute [local go_sem ↓] Go.wp_at_zero Go.wp_at_succ

def siteL (l : List In) (k : Nat) : List Int := (gt l k).2.1 :: scL l k
theorem siteL_len (l : List In) (k : Nat) : (siteL l k).length = 25 := by simp [siteL, scL_len]
def xz (X : Int) : List Int := X :: List.replicate 24 0
theorem xz_len (X : Int) : (xz X).length = 25 := by simp [xz]
theorem info81 : (Try.prog.info? 113).map (·.size) = some 25 := by kernel_rfl
theorem build81 (X : Int) (w : World) : (Instr.build 113 #[(0, .int .i64 X)]).run Try.prog w = .ok (.agg (cI7 (xz X))) w := run_build w 113 _ _ (by kernel_rfl)
theorem wpList_build81 {ops : Array Oper} {rest : List Oper} {o : Oper} {a : Act} {w : World} {Q : Exit → Act → World → Prop} (hgd : o.guard = none) (x : Operand) (ho : o.op = .build 113 #[(0, x)]) (X : Int) (hx : a.eval x = .int .i64 X)
    (h : wpList Try.prog ops Q rest (a.put o.dst (.agg (cI7 (xz X)))) w) : wpList Try.prog ops Q (o :: rest) a w :=
  wpList_plain hgd fun K hK => by
    have hb := build81 X w
    unfold Oper.wp
    simp only [execOp, ho]
    simp [hx, hb, Result.andThen]
    exact hK _ _ h
theorem zero81 (w : World) : (zeroValue 113).run Try.prog w = .ok (.agg (cI7 (List.replicate 25 0))) w := Try.zeroValue113 w
theorem step_builtin2 {P : Program} {ops : Array Oper} {o : Oper} {a : Act} {w : World} {K : Act → World → Prop} {Q : Exit → Act → World → Prop} {G : Prop}
    (hg : o.guard = none) (d x : Operand) (dT sT : TypeId) (hop : o.op = Op.call { callee := Callee.builtin Builtin.copy, args := #[d, x], argTypes := #[dT, sT] })
    (ty : TypeId) (hty : o.type = ty) (v u : Value) (hd : a.eval d = v) (hx : a.eval x = u) {v' : Value} {w' : World} (hr : (Builtin.copy_ #[dT, sT] ty #[v, u]).run P w = .ok v' w') (hK : K (a.put o.dst v') w') :
    if Region.wanted o (yielded ops a.tmps) = true then Oper.wp P o a w K Q else G := by
  have hw : Region.wanted o (yielded ops a.tmps) = true := by simp [Region.wanted, hg]
  rw [if_pos hw]
  subst hty
  unfold Oper.wp
  simp [execOp, hop, resolve, invoke, builtin, hd, hx, hr, Result.andThen]
  exact hK

set_option maxHeartbeats 4000000 in
set_option maxRecDepth 20000 in
theorem site_any (p : Option Addr) (c : Nat) (l : List In) (w : World) (hr : Rd eIn w p c l) (n : Nat) (hN : l.length = n) (hl : n ≤ 24) (ha : l.all mayB = true) (a : Nat) (hal : a < n) :
    Calls Try.prog 67 #[.slice p n c, .int .i64 a] w fun e w' => e = .returned (.agg (cI7 (siteL l a))) ∧ Below w.heap.size w w' := by
  have hal' : a < l.length := by omega
  obtain ⟨b, o, rfl, hb, f0, f1, f2, f3⟩ := hr.inst a hal'
  have hsc := fun w' hb' => scope_any _ c l w' (hr.below (w' := w') hb') n hN hl ha a hal
  have HX : Hid (siteL l a = l[a].2.1 :: scL l a) := by show _ = _; rw [siteL, gt_eq hal']
  have HS : Hid ((scL l a).length = 24) := scL_len l a
  rw [HX.out]
  generalize l[a].2.1 = X at *
  generalize scL l a = S at *
  clear f0 f2 f3 hN
  go_enter Try.func67, Try.ntmps67
  go_wp2_with (first
    | (go_at_call 63; refine (hsc _ (by repeat (first | exact Below.refl _ _ | refine Below.alloc ?_ (by simp <;> omega) _ | refine Below.setCell ?_ (by simp <;> omega) _))).mono ?_; rintro e w4 ⟨rfl, hb4⟩
       have hz4 := hb4.size; simp at hz4
       have hbz : b < w4.heap.size := by omega
       have hbz1 : ¬ b = w4.heap.size := by omega
       have hB4 : Below w.heap.size w w4 := bel_call (by repeat (first | exact Below.refl _ _ | refine Below.alloc ?_ (by simp <;> omega) _ | refine Below.setCell ?_ (by simp <;> omega) _)) (Nat.le_refl _) hb4
       have f4 := (hB4.cell (p := ⟨b, o + a * 4 + 1, none⟩) hb).trans f1
       have h0 := (hb4.block w.heap.size (by simp)).trans (heap_alloc_new w _))
    | (refine wpList_build81 rfl _ rfl X rfl ?_)
    | (refine wpList_store_row rfl 107 _ _ rfl w4.heap.size (cI7 S) rfl rfl 107 _ (heap_alloc_new _ _) (by rw [cI_size7, HS.out]; exact info75) (by rw [cI_size7, HS.out]; rfl) (cI_one7 _) ?_; rw [World.setRow_alloc_new])
    | (refine wpList_store_row rfl 113 _ _ rfl (w4.alloc (Obj.cells (cI7 S) 107)).heap.size (cI7 (xz X)) ?hq rfl 113 (cI7 (List.replicate 25 0)) (heap_alloc_new _ _) (by rw [cI_size7, xz_len]; exact info81) (by rw [cI_size7, cI_size7, xz_len]; rfl) (cI_one7 _) ?_; (case hq => simp [go_sem]); rw [World.setRow_alloc_new]))
  have hA : ((w4.alloc (Obj.cells (cI7 S) 107)).alloc (Obj.cells (cI7 (xz X)) 113)).heap[w4.heap.size]? = some (.cells (cI7 S) 107 (0, 0)) := heap_alloc2_old _ _ _
  have hB : ((w4.alloc (Obj.cells (cI7 S) 107)).alloc (Obj.cells (cI7 (xz X)) 113)).heap[w4.heap.size + 1]? = some (.cells (cI7 (xz X)) 113 (0, 0)) := heap_alloc2_new _ _ _
  have hC : ((w4.alloc (Obj.cells (cI7 S) 107)).alloc (Obj.cells (cI7 (xz X)) 113)).heap[w.heap.size]? = some (.cells (cI7 (List.replicate 25 0)) 113 (0, 0)) := by
    exact (Below.heap_alloc _ _ _ (by simp; omega)).trans ((Below.heap_alloc _ _ _ (by omega)).trans h0)
  have hBW : Below w.heap.size w ((w4.alloc (Obj.cells (cI7 S) 107)).alloc (Obj.cells (cI7 (xz X)) 113)) := (hB4.alloc (by omega) _).alloc (by simp; omega) _
  generalize ((w4.alloc (Obj.cells (cI7 S) 107)).alloc (Obj.cells (cI7 (xz X)) 113)) = W at *
  clear h0 f4 hb4 hB4 hsc
  generalize w4.heap.size = g at *
  refine wp_region_held_drew (S := fun _ => True) (by kernel_rfl) trivial (fun hHeld => ?_)
  refine wpAnyH_take (i := 0) (oi := _) (v := ?_) rfl (by kernel_rfl) (by kernel_rfl) (by kernel_rfl) (fun _ _ _ h => h) (Or.inl ⟨by rfl, ?_⟩) hHeld ?_
  rotate_left
  · intro w' hSw
    (go_simp <;> with_reducible rfl)
  try simp only [Act.put, List.getElem_toArray, List.getElem_cons_zero, List.setIfInBounds_toArray, List.set_cons_zero, List.set_cons_succ]
  refine wpAnyH_take (i := 1) (oi := _) (v := ?_) rfl (by kernel_rfl) (by kernel_rfl) (by kernel_rfl) (fun _ _ _ h => h) (Or.inl ⟨by rfl, ?_⟩) hHeld ?_
  rotate_left
  · intro w' hSw
    (go_simp <;> with_reducible rfl)
  try simp only [Act.put, List.getElem_toArray, List.getElem_cons_succ, List.getElem_cons_zero, List.setIfInBounds_toArray, List.set_cons_zero, List.set_cons_succ]
  refine wpAnyH_ready (rs := [2]) (by kernel_rfl) (by simp) ?_
  refine AllReadyH.cons (o := _) rfl (fun K hK => ?_) AllReadyH.nil
  have hcp := run_copy_row Try.prog W.drew 73 73 3 3 (g + 1) 1 24 24 ⟨g, 0, none⟩ 24 24 (cI7 (xz X)) 113 (S.map (Value.int .i64)) Try.underlying73 (by kernel_rfl) hB (by rw [List.length_map, HS.out]; rfl)
    (fun j v hj => by
      rw [add_plain, Nat.zero_add, cell_of_row _ _ _ _ _ _ (show W.drew.heap[g]? = _ from hA)]
      simpa [cI7] using hj) (by rw [cI_size7, List.length_map, HS.out, xz_len]; decide)
    (fun v hv => by
      simp at hv
      obtain ⟨x, _, rfl⟩ := hv
      rfl)
  refine step_builtin2 rfl (.tmp 16) (.tmp 17) 73 73 rfl 3 rfl (.slice (some ⟨g + 1, 1, none⟩) 24 24) (.slice (some ⟨g, 0, none⟩) 24 24) rfl rfl hcp ?_
  have eX : ((cI7 (xz X)).toList.take 1 ++ S.map (Value.int .i64) ++ (cI7 (xz X)).toList.drop (1 + (S.map (Value.int .i64)).length)).toArray = cI7 (X :: S) := by
    rw [List.length_map, HS.out]
    simp [cI7, xz]
  rw [eX]
  have hB' := setRow_heap W.drew (g + 1) _ (cI7 (X :: S)) _ _ hB
  have hC' := (setRow_other W.drew (g + 1) w.heap.size (cI7 (X :: S)) (by omega)).trans hC
  have hBW' : Below w.heap.size w (W.drew.setRow (g + 1) (cI7 (X :: S))) := ⟨hBW.os, hBW.tape, hBW.output, by simpa using hBW.size, fun i hi => (setRow_other _ _ _ _ (by omega)).trans (hBW.block i hi)⟩
  generalize W.drew.setRow (g + 1) (cI7 (X :: S)) = W2 at *
  refine hK.out _ _ trivial (fun _ => ?_)
  refine wpAnyH_done (by kernel_rfl) ?_ _
  clear hK K hA hB hC hBW eX
  go_wp2_with (first
    | (refine wpList_load_row rfl 113 _ rfl (g + 1) rfl 113 (cI7 (X :: S)) (0, 0) _ hB' Try.underlying113 rfl (by rw [cI_size7, List.length_cons, HS.out]; exact info81) ?_)
    | (refine wpList_store_row rfl 113 _ _ rfl (w.heap.size) (cI7 (X :: S)) rfl rfl 113 (cI7 (List.replicate 25 0)) hC' (by rw [cI_size7, List.length_cons, HS.out]; exact info81) (by rw [cI_size7, cI_size7, List.length_cons, HS.out]; rfl) (cI_one7 _) ?_))
  refine bodyPost_ret (v := .agg (cI7 (X :: S))) (results_cell_row (fn := Try.f67) Try.results67 _ _ w.heap.size 113 (cI7 (X :: S)) (0, 0) _ rfl (setRow_heap _ _ _ _ _ _ hC') Try.underlying113 rfl (by rw [cI_size7, List.length_cons, HS.out]; exact info81)) rfl ⟨rfl, ?_⟩
  exact ⟨hBW'.os, hBW'.tape, hBW'.output, by simpa using hBW'.size, fun i hi => (setRow_other _ _ _ _ (by omega)).trans (hBW'.block i hi)⟩
end Go.Proofs.Ytonholadabebbaa

namespace Go.Proofs.Ytonholadabebbaa
open Go.ChangeShapes Go.WideShapes Go.ChangeAt Go.RowKit
attribute [local go_sem ↓] Go.wp_at_zero Go.wp_at_succ

def sameA (l : List In) (a k : Nat) : Bool := (gt l k).2.1 == (gt l a).2.1
set_option maxHeartbeats 1000000 in
set_option maxRecDepth 20000 in
theorem same43 (p : Option Addr) (c : Nat) (l : List In) (w : World) (hr : Rd eIn w p c l) (n : Nat) (hN : l.length = n) (_hn : n ≤ 24) (a k : Nat) (ha : a < n) (hk : k < n) (r s : Nat) (h0 : w.cell? ⟨r, 0, none⟩ = some (.slice p n c)) (h1 : w.cell? ⟨s, 0, none⟩ = some (.int .i64 a)) :
    Calls Try.prog 66 #[.int .i64 k, .pointer (some ⟨r, 0, none⟩), .pointer (some ⟨s, 0, none⟩)] w fun e w' => e = .returned (.bool (sameA l a k)) ∧ Below w.heap.size w w' := by
  obtain ⟨b, o, rfl, hb, f0, f1, f2, f3⟩ := hr.inst a (by omega)
  obtain ⟨b', o', e, hb', g0, g1, g2, g3⟩ := hr.inst k (by omega)
  cases e
  have HS : Hid (sameA l a k = (l[k].2.1 == l[a].2.1)) := by show _ = _; unfold sameA; rw [gt_eq (by omega), gt_eq (by omega)]
  rw [HS.out]
  generalize l[k].2.1 = y at *
  generalize l[a].2.1 = x at *
  clear f0 f2 f3 g0 g2 g3 HS hN
  have z0 : (0 : Int) ≤ (k : Int) := by omega
  have z1 : (k : Int) < (n : Int) := by omega
  have z2 : (0 : Int) ≤ (a : Int) := by omega
  have z3 : (a : Int) < (n : Int) := by omega
  go_enter Try.func66, Try.ntmps66
  go_wp2
  go_quiet (fail)
  go_wp2
  go_ret
  exact ⟨rfl, bel_draws (Below.refl _ _) _⟩

theorem any_no {o : List Nat} {f : Nat → Bool} (h : ∀ j, (hj : j < o.length) → f o[j] = false) : o.any f = false := by
  rw [List.any_eq_false]
  intro x hx
  obtain ⟨i, hi, rfl⟩ := List.mem_iff_getElem.1 hx
  rw [h i hi]
  simp
theorem any_yes {o : List Nat} {f : Nat → Bool} {j : Nat} (hj : j < o.length) (h : f o[j] = true) : o.any f = true := List.any_eq_true.2 ⟨_, List.getElem_mem hj, h⟩
def oI (o : List Nat) : List Int := o.map fun k : Nat => (k : Int)
theorem oI_len (o : List Nat) : (oI o).length = o.length := by simp [oI]

set_option maxHeartbeats 2000000 in
set_option maxRecDepth 20000 in
theorem index_any (p : Option Addr) (c : Nat) (l : List In) (w : World) (hr : Rd eIn w p c l) (n : Nat) (hN : l.length = n) (hn : n ≤ 24) (a : Nat) (ha : a < n) (r s : Nat) (h0 : w.cell? ⟨r, 0, none⟩ = some (.slice p n c)) (h1 : w.cell? ⟨s, 0, none⟩ = some (.int .i64 a))
    (q : Option Addr) (d : Nat) (o : List Nat) (hq : Rd eI w q d (oI o)) (m : Nat) (hM : o.length = m) (hm : m ≤ 2) (ho : ∀ k ∈ o, k < n) :
    Calls Try.prog 74 #[.slice q m d, .func (.func 66) #[] #[.pointer (some ⟨r, 0, none⟩), .pointer (some ⟨s, 0, none⟩)]] w fun e w' => (∃ v : Int, e = .returned (.int .i64 v) ∧ decide (0 ≤ v) = o.any (sameA l a)) ∧ Below w.heap.size w w' := by
  have HM : Hid (o.length = m) := hM
  clear hM
  have hsm := fun (w' : World) (hb : Below w.heap.size w w') (k : Nat) (hk : k < n) => same43 p c l w' (hr.below hb) n hN hn a k ha hk r s ((hb.cell (p := ⟨r, 0, none⟩) (lt_of_cell h0)).trans h0) ((hb.cell (p := ⟨s, 0, none⟩) (lt_of_cell h1)).trans h1)
  clear hN hr h0 h1
  go_enter Try.func74, Try.ntmps74
  go_wp2
  go_loopw [8] (fun i wr => ∃ k : Nat, k ≤ m ∧ i = .int .i64 k ∧ Hid (∀ j, (hj : j < o.length) → j < k → sameA l a o[j] = false) ∧ Below w.heap.size w wr) (fun i _ => m - (intOf i).toNat)
  case atStart => exact ⟨0, Nat.zero_le _, rfl, fun j _ hj => by omega, Below.refl _ _⟩
  case round =>
    obtain ⟨k, hk, rfl, HT, hbw⟩ := hrel
    by_cases hlt : k < m
    · have hkl : k < o.length := by rw [HM.out]; exact hlt
      obtain ⟨b, f, rfl, hb, f0⟩ := (hq.below hbw).num k (by rw [oI_len]; exact hkl)
      have hx : (oI o)[k]'(by rw [oI_len]; exact hkl) = (o[k] : Int) := by simp [oI]
      rw [hx] at f0
      have hkn := ho o[k] (List.getElem_mem hkl)
      have hc := hsm wr hbw o[k] hkn
      clear hx
      by_cases hs : sameA l a o[k] = true
      · have HF : Hid (o.any (sameA l a) = true) := any_yes hkl hs
        rw [hs] at hc
        generalize o[k] = x at *
        go_wp2_with (go_at_call 66; refine hc.mono ?_; rintro e w4 ⟨rfl, hb4⟩)
        go_ret
        exact ⟨⟨k, rfl, by rw [HF.out]; simp⟩, bel_call hbw (Nat.le_refl _) hb4⟩
      · have hs' : sameA l a o[k] = false := by simpa using hs
        rw [hs'] at hc
        have HK : Hid (∀ j, (hj : j < o.length) → j < k + 1 → sameA l a o[j] = false) := fun j hj hlt => (if e : j = k then by subst e; exact hs' else HT.out j hj (by omega))
        clear hs hs'
        generalize o[k] = x at *
        go_wp2_with (go_at_call 66; refine hc.mono ?_; rintro e w4 ⟨rfl, hb4⟩)
        go_roundw
        case rel => exact ⟨k + 1, by omega, by go_num, HK, bel_call hbw (Nat.le_refl _) hb4⟩
        case measure => simp [intOf]; omega
    · have HF : Hid (o.any (sameA l a) = false) := any_no (fun j hj => HT.out j hj (by rw [HM.out] at hj; omega))
      go_wp2
      go_ret
      exact ⟨⟨-1, rfl, by rw [HF.out]; decide⟩, hbw⟩

set_option maxHeartbeats 1000000 in
set_option maxRecDepth 20000 in
theorem contains_any (p : Option Addr) (c : Nat) (l : List In) (w : World) (hr : Rd eIn w p c l) (n : Nat) (hN : l.length = n) (hn : n ≤ 24) (a : Nat) (ha : a < n) (r s : Nat) (h0 : w.cell? ⟨r, 0, none⟩ = some (.slice p n c)) (h1 : w.cell? ⟨s, 0, none⟩ = some (.int .i64 a))
    (q : Option Addr) (d : Nat) (o : List Nat) (hq : Rd eI w q d (oI o)) (m : Nat) (hM : o.length = m) (hm : m ≤ 2) (ho : ∀ k ∈ o, k < n) :
    Calls Try.prog 65 #[.slice q m d, .func (.func 66) #[] #[.pointer (some ⟨r, 0, none⟩), .pointer (some ⟨s, 0, none⟩)]] w fun e w' => e = .returned (.bool (o.any (sameA l a))) ∧ Below w.heap.size w w' := by
  have hx := index_any p c l w hr n hN hn a ha r s h0 h1 q d o hq m hM hm ho
  clear hM
  go_enter Try.func65, Try.ntmps65
  go_wp2_with (go_at_call 74; refine hx.mono ?_; rintro e w4 ⟨⟨v, rfl, hv⟩, hb4⟩)
  go_ret
  exact ⟨by rw [← hv]; rfl, hb4⟩
end Go.Proofs.Ytonholadabebbaa

namespace Go.Proofs.Ytonholadabebbaa
open Go.ChangeShapes Go.WideShapes Go.ChangeAt Go.RowKit
attribute [local go_sem ↓] Go.wp_at_zero Go.wp_at_succ

/-- At hb lies a struct of a row of places o, its own, and a map, at mb, of the entries m; all from base on. -/
structure Hx (w : World) (base hb mb : Nat) (o : List Nat) (m : List En) : Prop where
  hq : ∃ q d, w.heap[hb]? = some (.cells #[.slice q o.length d, .map (some mb)] 96 (0, 0)) ∧ Own eI w base 3 q d (oI o)
  mp : IsMp w mb m
  b1 : base ≤ hb
  b2 : base ≤ mb
theorem own_len {w : World} {base : Nat} {q : Option Addr} {d n : Nat} {l : List Int} (h : Own eI w base 3 q d l) (hn : l.length = n) : w.ownsRow base 3 1 (.slice q n d) n (fl eI l) := by subst hn; exact h
theorem own_ne {w : World} {base : Nat} {q : Option Addr} {d b : Nat} {l : List Int} {cs : Array Value} (h : Own eI w base 3 q d l) (hb : w.heap[b]? = some (.cells cs 96 (0, 0))) : ∀ g, q = some ⟨g, 0, none⟩ → b ≠ g := by
  rintro g rfl rfl
  rcases h.2 with ⟨h1, _⟩ | ⟨g, cap, cur, h1, _, h2, _⟩
  · simp only [Value.slice.injEq] at h1; cases h1.1
  · simp only [Value.slice.injEq, Option.some.injEq, Addr.mk.injEq, true_and] at h1
    obtain ⟨⟨rfl, _⟩, _⟩ := h1
    rw [h2] at hb
    simp at hb
theorem own_nm {w : World} {base : Nat} {q : Option Addr} {d b : Nat} {l : List Int} {m : List En} (h : Own eI w base 3 q d l) (hb : IsMp w b m) : ∀ g, q = some ⟨g, 0, none⟩ → b ≠ g := by
  rintro g rfl rfl
  obtain ⟨es, cl, hb, _⟩ := hb
  rcases h.2 with ⟨h1, _⟩ | ⟨g, cap, cur, h1, _, h2, _⟩
  · simp only [Value.slice.injEq] at h1; cases h1.1
  · simp only [Value.slice.injEq, Option.some.injEq, Addr.mk.injEq, true_and] at h1
    obtain ⟨⟨rfl, _⟩, _⟩ := h1
    rw [h2] at hb
    simp at hb
theorem own_q {w : World} {base : Nat} {q : Option Addr} {d : Nat} {l : List Int} (h : Own eI w base 3 q d l) : q = none ∨ ∃ g, q = some ⟨g, 0, none⟩ := by
  rcases h.2 with ⟨h1, _⟩ | ⟨g, cap, cur, h1, _⟩
  · simp only [Value.slice.injEq] at h1; exact .inl h1.1
  · simp only [Value.slice.injEq] at h1; exact .inr ⟨g, h1.1⟩
theorem ownBlock_ne {q : Option Addr} {n d b : Nat} (hq : q = none ∨ ∃ g, q = some ⟨g, 0, none⟩) (h : ∀ g, q = some ⟨g, 0, none⟩ → b ≠ g) : (Value.slice q n d).ownBlock ≠ some b := by
  rcases hq with rfl | ⟨g, rfl⟩
  · simp [Value.ownBlock]
  · have := h g rfl
    simp [Value.ownBlock]
    exact fun e => this e.symm
theorem own_take {w : World} {base : Nat} {q : Option Addr} {d : Nat} {l : List Int} (h : Own eI w base 3 q d l) (hl : 0 < l.length) (k : Nat) (hk : k ≤ l.length) : Own eI w base 3 q d (l.take k) := by
  have hlen : (l.take k).length = k := by simp; omega
  unfold Own
  rw [hlen]
  refine ⟨by rw [fl_length, hlen], ?_⟩
  rcases h.2 with ⟨h1, h2⟩ | ⟨g, cap, cur, h1, h2, h3, h4, h5, h6, h7⟩
  · omega
  · simp only [Value.slice.injEq, true_and] at h1
    obtain ⟨rfl, rfl⟩ := h1
    refine .inr ⟨g, d, cur, rfl, h2, h3, by omega, h5, h6, ?_⟩
    rw [← fl_take, ← h7, List.take_take]
    congr 1
    simp [eI]
    omega

theorem Hx.below {w w' : World} {base hb mb : Nat} {o : List Nat} {m : List En} (h : Hx w base hb mb o m) (hb' : Below w.heap.size w w') : Hx w' base hb mb o m := by
  obtain ⟨⟨q, d, h1, h2⟩, h3, h4, h5⟩ := h
  exact ⟨⟨q, d, (hb'.block hb (lt_of_block h1)).trans h1, own_below h2 hb'⟩, h3.below hb', h4, h5⟩
/-- the map has turned -/
theorem Hx.kp {w w' : World} {base hb mb : Nat} {o : List Nat} {m m' : List En} (h : Hx w base hb mb o m) (hk : Kp mb w w') (hm : IsMp w' mb m') : Hx w' base hb mb o m' := by
  obtain ⟨⟨q, d, h1, h2⟩, h3, h4, h5⟩ := h
  have hne : ¬ hb = mb := by
    rintro rfl
    obtain ⟨es, cl, h6, _⟩ := h3
    rw [h6] at h1
    cases h1
  refine ⟨⟨q, d, (hk.block hb (lt_of_block h1) (by intro e; cases e; exact hne rfl)).trans h1, ?_⟩, hm, h4, h5⟩
  exact World.ownsRow.kept h2 hk (.inr (ownBlock_ne (own_q h2) (own_nm h2 h3)))
/-- the row is another one -/
theorem Hx.row {w w1 : World} {base hb mb : Nat} {o o' : List Nat} {m : List En} (h : Hx w base hb mb o m) (e1 : w1.heap[hb]? = w.heap[hb]?) (e2 : w1.heap[mb]? = w.heap[mb]?) {p : Option Addr} {c n : Nat} (hn : o'.length = n) (ho : Own eI w1 base 3 p c (oI o')) :
    Hx (w1.setCell ⟨hb, 0, none⟩ (.slice p n c)) base hb mb o' m := by
  subst hn
  obtain ⟨⟨q, d, h1, h2⟩, h3, h4, h5⟩ := h
  have hne : ¬ mb = hb := by
    rintro rfl
    obtain ⟨es, cl, h6, _⟩ := h3
    rw [h6] at h1
    cases h1
  have h1' := e1.trans h1
  refine ⟨⟨p, c, ?_, ?_⟩, (h3.of_block e2).of_block (heap_setCell_other _ _ _ _ hne), h4, h5⟩
  · rw [heap_setCell_same _ _ _ _ _ _ h1']
    rfl
  · exact ownsRow_setCell_other ho (ownBlock_ne (own_q ho) (own_ne ho h1')) _
theorem Hx.facts {w : World} {base hb mb : Nat} {o : List Nat} {m : List En} (h : Hx w base hb mb o m) :
    ∃ q d, w.heap[hb]? = some (.cells #[.slice q o.length d, .map (some mb)] 96 (0, 0)) ∧ Own eI w base 3 q d (oI o) ∧ w.cell? ⟨hb, 0, none⟩ = some (.slice q o.length d) ∧ w.cell? ⟨hb, 1, none⟩ = some (.map (some mb)) ∧ hb < w.heap.size ∧ mb < w.heap.size ∧ ¬ hb = mb ∧ (∀ j, w.frozen? ⟨hb, j, none⟩ = false) := by
  obtain ⟨⟨q, d, h1, h2⟩, h3, h4, h5⟩ := h
  refine ⟨q, d, h1, h2, by rw [cell_of_row _ _ _ _ _ _ h1]; rfl, by rw [cell_of_row _ _ _ _ _ _ h1]; rfl, lt_of_block h1, h3.lt, ?_, fun j => frozen_of_row _ _ _ _ _ h1⟩
  rintro rfl
  obtain ⟨es, cl, h6, _⟩ := h3
  rw [h6] at h1
  cases h1
def ents (l : List In) (o : List Nat) : List En := o.map fun k => (siteL l k, (k : Int))
theorem oI_snoc (o : List Nat) (a : Nat) : oI (o ++ [a]) = oI o ++ [(a : Int)] := by simp [oI]
theorem ents_snoc (l : List In) (o : List Nat) (a : Nat) : ents l (o ++ [a]) = ents l o ++ [(siteL l a, (a : Int))] := by simp [ents]
theorem ents_ne {l : List In} {o : List Nat} {a : Nat} (h : o.any (sameA l a) = false) : ∀ x ∈ ents l o, siteL l a ≠ x.1 := by
  intro x hx e
  simp only [ents, List.mem_map] at hx
  obtain ⟨k, hk, rfl⟩ := hx
  rw [List.any_eq_false] at h
  apply h k hk
  simp only [siteL, List.cons.injEq] at e
  simp [sameA, e.1]
end Go.Proofs.Ytonholadabebbaa

namespace Go.Proofs.Ytonholadabebbaa
open Go.ChangeShapes Go.WideShapes Go.ChangeAt Go.RowKit
attribute [local go_sem ↓] Go.wp_at_zero Go.wp_at_succ

set_option maxHeartbeats 2000000 in
set_option maxRecDepth 20000 in
theorem lock_no (p : Option Addr) (c : Nat) (l : List In) (w : World) (hr : Rd eIn w p c l) (n : Nat) (hN : l.length = n) (hn : n ≤ 24) (a : Nat) (ha : a < n) (base hb mb : Nat) (o : List Nat) (ho : ∀ k ∈ o, k < n) (hX : Hx w base hb mb o (ents l o)) (hle : o.length ≤ 2) (hno : (o.any (sameA l a) || decide (2 ≤ o.length)) = true) :
    Calls Try.prog 54 #[.pointer (some ⟨hb, 0, none⟩), .slice p n c, .int .i64 a] w fun e w' => e = .returned (.bool false) ∧ Below base w w' := by
  obtain ⟨q, d, hh, hown, c0, c1, hhb, hmb, hne, hfz⟩ := hX.facts
  obtain ⟨m, hM⟩ : ∃ m, o.length = m := ⟨_, rfl⟩
  rw [hM] at hh c0
  have HM : Hid (o.length = m) := hM
  have hbase : base ≤ w.heap.size := by have := hX.b1; omega
  have hrp := own_rd hown
  have e0 : ((w.alloc (Obj.cells #[Value.slice p n c] 22)).alloc (Obj.cells #[Value.int IntKind.i64 (a : Int)] 3)).cell? ⟨w.heap.size, 0, none⟩ = some (Value.slice p n c) := cell_of_one (heap_alloc2_old _ _ _)
  have e1 : ((w.alloc (Obj.cells #[Value.slice p n c] 22)).alloc (Obj.cells #[Value.int IntKind.i64 (a : Int)] 3)).cell? ⟨w.heap.size + 1, 0, none⟩ = some (Value.int IntKind.i64 (a : Int)) := cell_of_one (heap_alloc2_new _ _ _)
  have hb2 : Below w.heap.size w ((w.alloc (Obj.cells #[Value.slice p n c] 22)).alloc (Obj.cells #[Value.int IntKind.i64 (a : Int)] 3)) := (by repeat (first | exact Below.refl _ _ | refine Below.alloc ?_ (by simp <;> omega) _ | refine Below.setCell ?_ (by simp <;> omega) _))
  have hct := contains_any p c l _ (hr.below hb2) n hN hn a ha w.heap.size (w.heap.size + 1) e0 e1 q d o (hrp.below hb2) m hM (by omega) ho
  rw [hM] at hno hle
  by_cases hany : o.any (sameA l a) = true
  · rw [hany] at hct
    clear hM hX hrp hr hown ho hno HM
    go_enter Try.func54, Try.ntmps54
    go_wp2_with (go_at_call 65; refine hct.mono ?_; rintro e w4 ⟨rfl, hb4⟩)
    go_ret
    exact ⟨rfl, (bel_call hb2 (Nat.le_refl _) hb4).mono hbase⟩
  · have hany' : o.any (sameA l a) = false := by simpa using hany
    rw [hany'] at hct hno
    have hm2 : 2 ≤ m := by simpa using hno
    have d2 : decide ((2 : Int) ≤ (m : Int)) = true := by simp; omega
    clear hM hX hrp hr hown ho hno hany HM
    go_enter Try.func54, Try.ntmps54
    go_wp2_with (go_at_call 65; refine hct.mono ?_; rintro e w4 ⟨rfl, hb4⟩; have c4 := (((bel_call hb2 (Nat.le_refl _) hb4)).cell (p := ⟨hb, 0, none⟩) hhb).trans c0)
    go_ret
    exact ⟨rfl, (bel_call hb2 (Nat.le_refl _) hb4).mono hbase⟩

set_option maxHeartbeats 4000000 in
set_option maxRecDepth 20000 in
theorem lock_yes (p : Option Addr) (c : Nat) (l : List In) (w : World) (hr : Rd eIn w p c l) (n : Nat) (hN : l.length = n) (hn : n ≤ 24) (hal : l.all mayB = true) (a : Nat) (ha : a < n) (base hb mb : Nat) (hpb : ∀ b o, p = some ⟨b, o, none⟩ → l ≠ [] → b < base) (o : List Nat) (ho : ∀ k ∈ o, k < n) (hX : Hx w base hb mb o (ents l o)) (hle : o.length ≤ 1) (hno : o.any (sameA l a) = false) :
    Calls Try.prog 54 #[.pointer (some ⟨hb, 0, none⟩), .slice p n c, .int .i64 a] w fun e w' => e = .returned (.bool true) ∧ Hx w' base hb mb (o ++ [a]) (ents l (o ++ [a])) ∧ Below base w w' := by
  obtain ⟨q, d, hh, hown, c0, c1, hhb, hmb, hne, hfz⟩ := hX.facts
  obtain ⟨m, hM⟩ : ∃ m, o.length = m := ⟨_, rfl⟩
  rw [hM] at hh c0
  have HM : Hid (o.length = m) := hM
  have hbase : base ≤ w.heap.size := by have := hX.b1; omega
  have hrp := own_rd hown
  have e0 : ((w.alloc (Obj.cells #[Value.slice p n c] 22)).alloc (Obj.cells #[Value.int IntKind.i64 (a : Int)] 3)).cell? ⟨w.heap.size, 0, none⟩ = some (Value.slice p n c) := cell_of_one (heap_alloc2_old _ _ _)
  have e1 : ((w.alloc (Obj.cells #[Value.slice p n c] 22)).alloc (Obj.cells #[Value.int IntKind.i64 (a : Int)] 3)).cell? ⟨w.heap.size + 1, 0, none⟩ = some (Value.int IntKind.i64 (a : Int)) := cell_of_one (heap_alloc2_new _ _ _)
  have hb2 : Below w.heap.size w ((w.alloc (Obj.cells #[Value.slice p n c] 22)).alloc (Obj.cells #[Value.int IntKind.i64 (a : Int)] 3)) := (by repeat (first | exact Below.refl _ _ | refine Below.alloc ?_ (by simp <;> omega) _ | refine Below.setCell ?_ (by simp <;> omega) _))
  have hct := contains_any p c l _ (hr.below hb2) n hN hn a ha w.heap.size (w.heap.size + 1) e0 e1 q d o (hrp.below hb2) m hM (by omega) ho
  rw [hM] at hle
  rw [hno] at hct
  have d2 : decide ((2 : Int) ≤ (m : Int)) = false := by simp; omega
  have HN : Hid (l.length = n) := hN
  clear hM hrp hN
  go_enter Try.func54, Try.ntmps54
  go_wp2_with (go_at_call 65; refine hct.mono ?_; rintro e w4 ⟨rfl, hb4⟩; have hB4 := bel_call hb2 (Nat.le_refl _) hb4; have q4 := (hB4.cell (p := ⟨hb, 0, none⟩) hhb).trans c0)
  have hX4 := hX.below hB4
  have c4 := (hb4.cell (p := ⟨w.heap.size, 0, none⟩) (by simp; omega)).trans e0
  have c5 := (hb4.cell (p := ⟨w.heap.size + 1, 0, none⟩) (by simp)).trans e1
  have z5 : w.heap.size + 1 < w4.heap.size := lt_of_cell c5
  have hown4 := own_below hown hB4
  have hhb4 : hb < w4.heap.size := by omega
  have hmb4 : mb < w4.heap.size := by omega
  have h4b := (hB4.block hb hhb).trans hh
  have hB4b := hB4.mono hbase
  have hr5h : ¬ w.heap.size + 1 = hb := by omega
  have hr4h : ¬ w.heap.size = hb := by omega
  have hr5m : ¬ w.heap.size + 1 = mb := by omega
  have hr4m : ¬ w.heap.size = mb := by omega
  have hr4q : ∀ g, q = some ⟨g, 0, none⟩ → w.heap.size ≠ g := fun g e e' => by subst e; have := World.ownsRow.lt hown g rfl; omega
  have hr5q : ∀ g, q = some ⟨g, 0, none⟩ → w.heap.size + 1 ≠ g := fun g e e' => by subst e; have := World.ownsRow.lt hown g rfl; omega
  have z4 : w.heap.size < w4.heap.size := by omega
  have z4' : base ≤ w4.heap.size := by omega
  clear e0 e1 hb2 hct hb4 hB4 hown hh c0 c1 hfz
  generalize w.heap.size = r4 at *
  generalize r4 + 1 = r5 at *
  refine wp_region_held_drew (S := fun w' => w'.cell? ⟨r5, 0, none⟩ = some (.int .i64 (a : Int)) ∧ r5 < w'.heap.size) (by kernel_rfl) ⟨c5, z5⟩ (fun hHeld => ?_)
  refine wpAnyH_take (i := 0) (oi := _) (v := ?_) rfl (by kernel_rfl) (by kernel_rfl) (by kernel_rfl) (fun _ _ _ h => h) (Or.inl ⟨by rfl, ?_⟩) hHeld ?_
  rotate_left
  · intro w' hSw
    (go_simp <;> with_reducible rfl)
  try simp only [Act.put, List.getElem_toArray, List.getElem_cons_zero, List.setIfInBounds_toArray, List.set_cons_zero, List.set_cons_succ]
  refine wpAnyH_take (i := 1) (oi := _) (v := ?_) rfl (by kernel_rfl) (by kernel_rfl) (by kernel_rfl) (fun _ _ _ h => h) (Or.inl ⟨by rfl, ?_⟩) hHeld ?_
  rotate_left
  · intro w' hSw
    (go_simp <;> with_reducible rfl)
  try simp only [Act.put, List.getElem_toArray, List.getElem_cons_succ, List.getElem_cons_zero, List.setIfInBounds_toArray, List.set_cons_zero, List.set_cons_succ]
  refine wpAnyH_take (i := 2) (oi := _) (v := ?_) rfl (by kernel_rfl) (by kernel_rfl) (by kernel_rfl) (fun _ _ _ h => h) (Or.inl ⟨by rfl, ?_⟩) hHeld ?_
  rotate_left
  · intro w' hSw
    (go_simp <;> with_reducible rfl)
  try simp only [Act.put, List.getElem_toArray, List.getElem_cons_succ, List.getElem_cons_zero, List.setIfInBounds_toArray, List.set_cons_zero, List.set_cons_succ]
  refine wpAnyH_take (i := 3) (oi := _) (v := ?_) rfl (by kernel_rfl) (by kernel_rfl) (by kernel_rfl) (fun _ _ _ h => h) (Or.inl ⟨by rfl, ?_⟩) hHeld ?_
  rotate_left
  · intro w' hSw
    (go_simp <;> with_reducible rfl)
  try simp only [Act.put, List.getElem_toArray, List.getElem_cons_succ, List.getElem_cons_zero, List.setIfInBounds_toArray, List.set_cons_zero, List.set_cons_succ]
  refine wpAnyH_take (i := 5) (oi := _) (v := ?_) rfl (by kernel_rfl) (by kernel_rfl) (by kernel_rfl) (fun _ _ _ h => h) (Or.inl ⟨by rfl, ?_⟩) hHeld ?_
  rotate_left
  · intro w' hSw
    obtain ⟨k5, _⟩ := hSw
    (go_simp <;> with_reducible rfl)
  try simp only [Act.put, List.getElem_toArray, List.getElem_cons_succ, List.getElem_cons_zero, List.setIfInBounds_toArray, List.set_cons_zero, List.set_cons_succ]
  refine wpAnyH_ready (rs := [4, 6]) (by kernel_rfl) (by simp) ?_
  refine AllReadyH.cons (o := _) rfl (fun K hK => ?_) (AllReadyH.cons (o := _) rfl (fun K hK => ?_) AllReadyH.nil)
  · go_simp
    refine hK.out _ _ ⟨c5, z5⟩ (fun hHeld => ?_)
    clear hK K
    try simp only [Act.put, List.getElem_toArray, List.getElem_cons_succ, List.getElem_cons_zero, List.setIfInBounds_toArray, List.set_cons_zero, List.set_cons_succ]
    have hS6 := hHeld
    have ho6 : Own eI (w4.drew.alloc (Obj.cells #[Value.int IntKind.i64 (a : Int)] 3)) base 3 q d (oI o) := own_below hown4 (((Below.refl _ _).drew).alloc (Nat.le_refl _) _)
    clear hS6
    have hS6 : (w4.drew.alloc (Obj.cells #[Value.int IntKind.i64 (a : Int)] 3)).cell? ⟨r5, 0, none⟩ = some (.int .i64 (a : Int)) ∧ r5 < (w4.drew.alloc (Obj.cells #[Value.int IntKind.i64 (a : Int)] 3)).heap.size := ⟨(((Below.refl _ w4).drew.alloc (Nat.le_refl _) _).cell (p := ⟨r5, 0, none⟩) z5).trans c5, by simp; omega⟩
    refine wpAnyH_ready (rs := [6]) (by kernel_rfl) (by simp) ?_
    refine AllReadyH.cons (o := _) rfl (fun K hK => ?_) AllReadyH.nil
    go_simp
    refine hK.out _ _ hS6 (fun hHeld => ?_)
    clear hK K
    try simp only [Act.put, List.getElem_toArray, List.getElem_cons_succ, List.getElem_cons_zero, List.setIfInBounds_toArray, List.set_cons_zero, List.set_cons_succ]
    refine wpAnyH_ready (rs := [7]) (by kernel_rfl) (by simp) ?_
    refine AllReadyH.cons (o := _) rfl (fun K hK => ?_) AllReadyH.nil
    refine step_app tI _ rfl _ _ rfl base q d (oI o) m (by rw [oI_len]; exact HM.out) rfl ho6 _ _ [(a : Int)] 1 rfl rfl ((rd_block (l := [(a : Int)]) (heap_alloc_new w4 _) 1 rfl rfl).below ((Below.refl _ _).drew)) (by omega) (by simp; omega) (m + 1) rfl ?_
    intro p7 c7 w7 ho7 hb7 hst7
    have hq7 := own_q hown4
    have hb7a : w7.heap[hb]? = w4.heap[hb]? := (hst7 hb (by simp; omega) (own_ne hown4 h4b)).trans (Below.heap_alloc _ _ _ hhb4)
    have hb7m : w7.heap[mb]? = w4.heap[mb]? := (hst7 mb (by simp; omega) (own_nm hown4 hX4.mp)).trans (Below.heap_alloc _ _ _ hmb4)
    have hb7r : w7.heap[r5]? = w4.heap[r5]? := (hst7 r5 (by simp; omega) hr5q).trans (Below.heap_alloc _ _ _ z5)
    have c75 : w7.cell? ⟨r5, 0, none⟩ = some (.int .i64 (a : Int)) := (World.cell?_of_block (a := ⟨r5, 0, none⟩) hb7r).trans c5
    have hb7q : w7.heap[r4]? = w4.heap[r4]? := (hst7 r4 (by simp; omega) hr4q).trans (Below.heap_alloc _ _ _ z4)
    have c74 : w7.cell? ⟨r4, 0, none⟩ = some (.slice p n c) := (World.cell?_of_block (a := ⟨r4, 0, none⟩) hb7q).trans c4
    have hB7 : Below base w w7 := (hB4b.trans (((Below.refl _ _).drew).alloc z4' _)).trans hb7
    have hz7 := hb7.size
    simp at hz7
    have hH7 : w7.heap[hb]? = some (.cells #[.slice q m d, .map (some mb)] 96 (0, 0)) := hb7a.trans h4b
    have hf7 : w7.frozen? ⟨hb, 0, none⟩ = false := frozen_of_row _ _ _ _ _ hH7
    have hc7 : w7.cell? ⟨hb, 0, none⟩ = some (.slice q m d) := by rw [cell_of_row _ _ _ _ _ _ hH7]; rfl
    have hX7 : Hx (w7.setCell ⟨hb, 0, none⟩ (.slice p7 (m + 1) c7)) base hb mb (o ++ [a]) (ents l o) := Hx.row hX4 hb7a hb7m (by rw [List.length_append, HM.out]; rfl) (by rw [oI_snoc]; exact ho7)
    refine hK.out _ _ ⟨c75, by omega⟩ (fun hHeld => ?_)
    clear hK K
    try simp only [Act.put, List.getElem_toArray, List.getElem_cons_succ, List.getElem_cons_zero, List.setIfInBounds_toArray, List.set_cons_zero, List.set_cons_succ]
    refine wpAnyH_take (i := 8) (oi := _) (v := ?_) rfl (by kernel_rfl) (by kernel_rfl) (by kernel_rfl) (fun _ _ _ h => h) (Or.inl ⟨by rfl, ?_⟩) hHeld ?_
    rotate_left
    · intro w' hSw
      (go_simp <;> with_reducible rfl)
    try simp only [Act.put, List.getElem_toArray, List.getElem_cons_succ, List.getElem_cons_zero, List.setIfInBounds_toArray, List.set_cons_zero, List.set_cons_succ]
    refine wpAnyH_take (i := 9) (oi := _) (v := ?_) rfl (by kernel_rfl) (by kernel_rfl) (by kernel_rfl) (fun _ _ _ h => h) (Or.inl ⟨by rfl, ?_⟩) hHeld ?_
    rotate_left
    · intro w' hSw
      (go_simp <;> with_reducible rfl)
    try simp only [Act.put, List.getElem_toArray, List.getElem_cons_succ, List.getElem_cons_zero, List.setIfInBounds_toArray, List.set_cons_zero, List.set_cons_succ]
    refine wpAnyH_ready (rs := [10]) (by kernel_rfl) (by simp) ?_
    refine AllReadyH.cons (o := _) rfl (fun K hK => ?_) AllReadyH.nil
    go_simp
    have c85 : (w7.setCell ⟨hb, 0, none⟩ (.slice p7 (m + 1) c7)).cell? ⟨r5, 0, none⟩ = some (.int .i64 (a : Int)) := (World.cell?_of_block (a := ⟨r5, 0, none⟩) (heap_setCell_other _ _ _ _ hr5h)).trans c75
    have c84 : (w7.setCell ⟨hb, 0, none⟩ (.slice p7 (m + 1) c7)).cell? ⟨r4, 0, none⟩ = some (.slice p n c) := (World.cell?_of_block (a := ⟨r4, 0, none⟩) (heap_setCell_other _ _ _ _ hr4h)).trans c74
    have hB8 : Below base w (w7.setCell ⟨hb, 0, none⟩ (.slice p7 (m + 1) c7)) := hB7.setCell hX.b1 _
    have hz8 : (w7.setCell ⟨hb, 0, none⟩ (.slice p7 (m + 1) c7)).heap.size = w7.heap.size := by simp [World.setCell]
    refine hK.out _ _ ⟨c85, by omega⟩ (fun hHeld => ?_)
    clear hK K
    refine wpAnyH_done (by kernel_rfl) ?_ _
    generalize w7.setCell ⟨hb, 0, none⟩ (.slice p7 (m + 1) c7) = w8 at *
    clear hst7 hb7 hX4 hb7a hb7m hb7r c75 hb7q c74 hB7 hH7 hf7 hc7 ho7 ho6 hHeld hown4 h4b hB4b c4 c5 hq7 hz7
    go_wp2
    obtain ⟨q8, d8, hh8, hown8, k80, k81, hhb8, hmb8, hne8, hfz8⟩ := hX7.facts
    have hz4 : r4 < w8.heap.size := lt_of_cell c84
    have hz5 : r5 < w8.heap.size := lt_of_cell c85
    have hrd : Rd eIn w8.drew p c l := (rd_under hr hB8 hpb).below ((Below.refl _ _).drew)
    have hst := site_any p c l w8.drew hrd n HN.out hn hal a ha
    have hsl := siteL_len l a
    have hen := ents_ne hno
    refine wp_region_held_drew (S := fun w' => Kp mb w8 w') (by kernel_rfl) (Kp.refl _ _).drew (fun hHeld => ?_)
    refine wpAnyH_take (i := 0) (oi := _) (v := ?_) rfl (by kernel_rfl) (by kernel_rfl) (by kernel_rfl) (fun _ _ _ h => h) (Or.inl ⟨by rfl, ?_⟩) hHeld ?_
    rotate_left
    · intro w' hSw
      (go_simp <;> with_reducible rfl)
    try simp only [Act.put, List.getElem_toArray, List.getElem_cons_zero, List.setIfInBounds_toArray, List.set_cons_zero, List.set_cons_succ]
    refine wpAnyH_take (i := 1) (oi := _) (v := ?_) rfl (by kernel_rfl) (by kernel_rfl) (by kernel_rfl) (fun _ _ _ h => h) (Or.inl ⟨by rfl, ?_⟩) hHeld ?_
    rotate_left
    · intro w' hSw
      (go_simp <;> with_reducible rfl)
    try simp only [Act.put, List.getElem_toArray, List.getElem_cons_succ, List.getElem_cons_zero, List.setIfInBounds_toArray, List.set_cons_zero, List.set_cons_succ]
    refine wpAnyH_take (i := 2) (oi := _) (v := ?_) rfl (by kernel_rfl) (by kernel_rfl) (by kernel_rfl) (fun _ _ _ h => h) (Or.inl ⟨by rfl, ?_⟩) hHeld ?_
    rotate_left
    · intro w' hSw
      (go_simp <;> with_reducible rfl)
    try simp only [Act.put, List.getElem_toArray, List.getElem_cons_succ, List.getElem_cons_zero, List.setIfInBounds_toArray, List.set_cons_zero, List.set_cons_succ]
    refine wpAnyH_take (i := 3) (oi := _) (v := ?_) rfl (by kernel_rfl) (by kernel_rfl) (by kernel_rfl) (fun _ _ _ h => h) (Or.inl ⟨by rfl, ?_⟩) hHeld ?_
    rotate_left
    · intro w' hSw
      have f3 := ((kcell hSw).1 hb 1 hhb8 hne8).trans k81
      (go_simp <;> with_reducible rfl)
    try simp only [Act.put, List.getElem_toArray, List.getElem_cons_succ, List.getElem_cons_zero, List.setIfInBounds_toArray, List.set_cons_zero, List.set_cons_succ]
    refine wpAnyH_take (i := 4) (oi := _) (v := ?_) rfl (by kernel_rfl) (by kernel_rfl) (by kernel_rfl) (fun _ _ _ h => h) (Or.inl ⟨by rfl, ?_⟩) hHeld ?_
    rotate_left
    · intro w' hSw
      have f3 := ((kcell hSw).1 r4 0 hz4 hr4m).trans c84
      (go_simp <;> with_reducible rfl)
    try simp only [Act.put, List.getElem_toArray, List.getElem_cons_succ, List.getElem_cons_zero, List.setIfInBounds_toArray, List.set_cons_zero, List.set_cons_succ]
    refine wpAnyH_take (i := 5) (oi := _) (v := ?_) rfl (by kernel_rfl) (by kernel_rfl) (by kernel_rfl) (fun _ _ _ h => h) (Or.inl ⟨by rfl, ?_⟩) hHeld ?_
    rotate_left
    · intro w' hSw
      have f3 := ((kcell hSw).1 r5 0 hz5 hr5m).trans c85
      (go_simp <;> with_reducible rfl)
    try simp only [Act.put, List.getElem_toArray, List.getElem_cons_succ, List.getElem_cons_zero, List.setIfInBounds_toArray, List.set_cons_zero, List.set_cons_succ]
    refine wpAnyH_take (i := 7) (oi := _) (v := ?_) rfl (by kernel_rfl) (by kernel_rfl) (by kernel_rfl) (fun _ _ _ h => h) (Or.inl ⟨by rfl, ?_⟩) hHeld ?_
    rotate_left
    · intro w' hSw
      have f3 := ((kcell hSw).1 r5 0 hz5 hr5m).trans c85
      (go_simp <;> with_reducible rfl)
    try simp only [Act.put, List.getElem_toArray, List.getElem_cons_succ, List.getElem_cons_zero, List.setIfInBounds_toArray, List.set_cons_zero, List.set_cons_succ]
    refine wpAnyH_ready (rs := [6]) (by kernel_rfl) (by simp) ?_
    refine AllReadyH.cons (o := _) rfl (fun K hK => ?_) AllReadyH.nil
    go_simp
    go_at_call 67
    (with_reducible (refine hst.mono ?_))
    rintro e w9 ⟨rfl, hb9⟩
    have hb9' : Below w8.heap.size w8 w9 := (Below.refl _ _).drew.trans hb9
    refine hK.out _ _ (Kp.of_below hb9') (fun hHeld => ?_)
    clear hK K
    try simp only [Act.put, List.getElem_toArray, List.getElem_cons_succ, List.getElem_cons_zero, List.setIfInBounds_toArray, List.set_cons_zero, List.set_cons_succ]
    refine wpAnyH_ready (rs := [8]) (by kernel_rfl) (by simp) ?_
    refine AllReadyH.cons (o := _) rfl (fun K hK => ?_) AllReadyH.nil
    refine step_put rfl (.tmp 36) (.tmp 39) (.tmp 40) rfl mb (ents l o) rfl (hX7.mp.below hb9') (siteL l a) hsl (a : Int) rfl rfl hen ?_
    intro w10 hm10 hk10
    have hk10' : Kp mb w8 w10 := (Kp.of_below hb9').trans hk10
    have hXf : Hx w10 base hb mb (o ++ [a]) (ents l (o ++ [a])) := by rw [ents_snoc]; exact Hx.kp hX7 hk10' hm10
    have hBf : Below base w w10 := hB8.trans (hk10'.below hX.b2 (by have := hX.b2; omega))
    refine hK.out _ _ hk10' (fun hHeld => ?_)
    clear hK K
    refine wpAnyH_done (by kernel_rfl) ?_ _
    clear hen hst hsl hX7
    go_wp2
    go_ret
    exact ⟨rfl, hXf, hBf⟩
  · have ho6 : Own eI (w4.drew.alloc (Obj.cells #[Value.int IntKind.i64 (a : Int)] 3)) base 3 q d (oI o) := own_below hown4 (((Below.refl _ _).drew).alloc (Nat.le_refl _) _)
    have hS6 : (w4.drew.alloc (Obj.cells #[Value.int IntKind.i64 (a : Int)] 3)).cell? ⟨r5, 0, none⟩ = some (.int .i64 (a : Int)) ∧ r5 < (w4.drew.alloc (Obj.cells #[Value.int IntKind.i64 (a : Int)] 3)).heap.size := ⟨(((Below.refl _ w4).drew.alloc (Nat.le_refl _) _).cell (p := ⟨r5, 0, none⟩) z5).trans c5, by simp; omega⟩
    go_simp
    refine hK.out _ _ hS6 (fun hHeld => ?_)
    clear hK K
    try simp only [Act.put, List.getElem_toArray, List.getElem_cons_succ, List.getElem_cons_zero, List.setIfInBounds_toArray, List.set_cons_zero, List.set_cons_succ]
    refine wpAnyH_ready (rs := [4]) (by kernel_rfl) (by simp) ?_
    refine AllReadyH.cons (o := _) rfl (fun K hK => ?_) AllReadyH.nil
    have q6 := (((Below.refl _ w4).drew.alloc (Nat.le_refl _) (Obj.cells #[Value.int IntKind.i64 (a : Int)] 3)).cell (p := ⟨hb, 0, none⟩) hhb4).trans q4
    go_simp
    refine hK.out _ _ hS6 (fun hHeld => ?_)
    clear hK K
    try simp only [Act.put, List.getElem_toArray, List.getElem_cons_succ, List.getElem_cons_zero, List.setIfInBounds_toArray, List.set_cons_zero, List.set_cons_succ]
    refine wpAnyH_ready (rs := [7]) (by kernel_rfl) (by simp) ?_
    refine AllReadyH.cons (o := _) rfl (fun K hK => ?_) AllReadyH.nil
    refine step_app tI _ rfl _ _ rfl base q d (oI o) m (by rw [oI_len]; exact HM.out) rfl ho6 _ _ [(a : Int)] 1 rfl rfl ((rd_block (l := [(a : Int)]) (heap_alloc_new w4 _) 1 rfl rfl).below ((Below.refl _ _).drew)) (by omega) (by simp; omega) (m + 1) rfl ?_
    intro p7 c7 w7 ho7 hb7 hst7
    have hq7 := own_q hown4
    have hb7a : w7.heap[hb]? = w4.heap[hb]? := (hst7 hb (by simp; omega) (own_ne hown4 h4b)).trans (Below.heap_alloc _ _ _ hhb4)
    have hb7m : w7.heap[mb]? = w4.heap[mb]? := (hst7 mb (by simp; omega) (own_nm hown4 hX4.mp)).trans (Below.heap_alloc _ _ _ hmb4)
    have hb7r : w7.heap[r5]? = w4.heap[r5]? := (hst7 r5 (by simp; omega) hr5q).trans (Below.heap_alloc _ _ _ z5)
    have c75 : w7.cell? ⟨r5, 0, none⟩ = some (.int .i64 (a : Int)) := (World.cell?_of_block (a := ⟨r5, 0, none⟩) hb7r).trans c5
    have hb7q : w7.heap[r4]? = w4.heap[r4]? := (hst7 r4 (by simp; omega) hr4q).trans (Below.heap_alloc _ _ _ z4)
    have c74 : w7.cell? ⟨r4, 0, none⟩ = some (.slice p n c) := (World.cell?_of_block (a := ⟨r4, 0, none⟩) hb7q).trans c4
    have hB7 : Below base w w7 := (hB4b.trans (((Below.refl _ _).drew).alloc z4' _)).trans hb7
    have hz7 := hb7.size
    simp at hz7
    have hH7 : w7.heap[hb]? = some (.cells #[.slice q m d, .map (some mb)] 96 (0, 0)) := hb7a.trans h4b
    have hf7 : w7.frozen? ⟨hb, 0, none⟩ = false := frozen_of_row _ _ _ _ _ hH7
    have hc7 : w7.cell? ⟨hb, 0, none⟩ = some (.slice q m d) := by rw [cell_of_row _ _ _ _ _ _ hH7]; rfl
    have hX7 : Hx (w7.setCell ⟨hb, 0, none⟩ (.slice p7 (m + 1) c7)) base hb mb (o ++ [a]) (ents l o) := Hx.row hX4 hb7a hb7m (by rw [List.length_append, HM.out]; rfl) (by rw [oI_snoc]; exact ho7)
    refine hK.out _ _ ⟨c75, by omega⟩ (fun hHeld => ?_)
    clear hK K
    try simp only [Act.put, List.getElem_toArray, List.getElem_cons_succ, List.getElem_cons_zero, List.setIfInBounds_toArray, List.set_cons_zero, List.set_cons_succ]
    refine wpAnyH_take (i := 8) (oi := _) (v := ?_) rfl (by kernel_rfl) (by kernel_rfl) (by kernel_rfl) (fun _ _ _ h => h) (Or.inl ⟨by rfl, ?_⟩) hHeld ?_
    rotate_left
    · intro w' hSw
      (go_simp <;> with_reducible rfl)
    try simp only [Act.put, List.getElem_toArray, List.getElem_cons_succ, List.getElem_cons_zero, List.setIfInBounds_toArray, List.set_cons_zero, List.set_cons_succ]
    refine wpAnyH_take (i := 9) (oi := _) (v := ?_) rfl (by kernel_rfl) (by kernel_rfl) (by kernel_rfl) (fun _ _ _ h => h) (Or.inl ⟨by rfl, ?_⟩) hHeld ?_
    rotate_left
    · intro w' hSw
      (go_simp <;> with_reducible rfl)
    try simp only [Act.put, List.getElem_toArray, List.getElem_cons_succ, List.getElem_cons_zero, List.setIfInBounds_toArray, List.set_cons_zero, List.set_cons_succ]
    refine wpAnyH_ready (rs := [10]) (by kernel_rfl) (by simp) ?_
    refine AllReadyH.cons (o := _) rfl (fun K hK => ?_) AllReadyH.nil
    go_simp
    have c85 : (w7.setCell ⟨hb, 0, none⟩ (.slice p7 (m + 1) c7)).cell? ⟨r5, 0, none⟩ = some (.int .i64 (a : Int)) := (World.cell?_of_block (a := ⟨r5, 0, none⟩) (heap_setCell_other _ _ _ _ hr5h)).trans c75
    have c84 : (w7.setCell ⟨hb, 0, none⟩ (.slice p7 (m + 1) c7)).cell? ⟨r4, 0, none⟩ = some (.slice p n c) := (World.cell?_of_block (a := ⟨r4, 0, none⟩) (heap_setCell_other _ _ _ _ hr4h)).trans c74
    have hB8 : Below base w (w7.setCell ⟨hb, 0, none⟩ (.slice p7 (m + 1) c7)) := hB7.setCell hX.b1 _
    have hz8 : (w7.setCell ⟨hb, 0, none⟩ (.slice p7 (m + 1) c7)).heap.size = w7.heap.size := by simp [World.setCell]
    refine hK.out _ _ ⟨c85, by omega⟩ (fun hHeld => ?_)
    clear hK K
    refine wpAnyH_done (by kernel_rfl) ?_ _
    generalize w7.setCell ⟨hb, 0, none⟩ (.slice p7 (m + 1) c7) = w8 at *
    clear hst7 hb7 hX4 hb7a hb7m hb7r c75 hb7q c74 hB7 hH7 hf7 hc7 ho7 ho6 hHeld hown4 h4b hB4b c4 c5 hq7 hz7
    go_wp2
    obtain ⟨q8, d8, hh8, hown8, k80, k81, hhb8, hmb8, hne8, hfz8⟩ := hX7.facts
    have hz4 : r4 < w8.heap.size := lt_of_cell c84
    have hz5 : r5 < w8.heap.size := lt_of_cell c85
    have hrd : Rd eIn w8.drew p c l := (rd_under hr hB8 hpb).below ((Below.refl _ _).drew)
    have hst := site_any p c l w8.drew hrd n HN.out hn hal a ha
    have hsl := siteL_len l a
    have hen := ents_ne hno
    refine wp_region_held_drew (S := fun w' => Kp mb w8 w') (by kernel_rfl) (Kp.refl _ _).drew (fun hHeld => ?_)
    refine wpAnyH_take (i := 0) (oi := _) (v := ?_) rfl (by kernel_rfl) (by kernel_rfl) (by kernel_rfl) (fun _ _ _ h => h) (Or.inl ⟨by rfl, ?_⟩) hHeld ?_
    rotate_left
    · intro w' hSw
      (go_simp <;> with_reducible rfl)
    try simp only [Act.put, List.getElem_toArray, List.getElem_cons_zero, List.setIfInBounds_toArray, List.set_cons_zero, List.set_cons_succ]
    refine wpAnyH_take (i := 1) (oi := _) (v := ?_) rfl (by kernel_rfl) (by kernel_rfl) (by kernel_rfl) (fun _ _ _ h => h) (Or.inl ⟨by rfl, ?_⟩) hHeld ?_
    rotate_left
    · intro w' hSw
      (go_simp <;> with_reducible rfl)
    try simp only [Act.put, List.getElem_toArray, List.getElem_cons_succ, List.getElem_cons_zero, List.setIfInBounds_toArray, List.set_cons_zero, List.set_cons_succ]
    refine wpAnyH_take (i := 2) (oi := _) (v := ?_) rfl (by kernel_rfl) (by kernel_rfl) (by kernel_rfl) (fun _ _ _ h => h) (Or.inl ⟨by rfl, ?_⟩) hHeld ?_
    rotate_left
    · intro w' hSw
      (go_simp <;> with_reducible rfl)
    try simp only [Act.put, List.getElem_toArray, List.getElem_cons_succ, List.getElem_cons_zero, List.setIfInBounds_toArray, List.set_cons_zero, List.set_cons_succ]
    refine wpAnyH_take (i := 3) (oi := _) (v := ?_) rfl (by kernel_rfl) (by kernel_rfl) (by kernel_rfl) (fun _ _ _ h => h) (Or.inl ⟨by rfl, ?_⟩) hHeld ?_
    rotate_left
    · intro w' hSw
      have f3 := ((kcell hSw).1 hb 1 hhb8 hne8).trans k81
      (go_simp <;> with_reducible rfl)
    try simp only [Act.put, List.getElem_toArray, List.getElem_cons_succ, List.getElem_cons_zero, List.setIfInBounds_toArray, List.set_cons_zero, List.set_cons_succ]
    refine wpAnyH_take (i := 4) (oi := _) (v := ?_) rfl (by kernel_rfl) (by kernel_rfl) (by kernel_rfl) (fun _ _ _ h => h) (Or.inl ⟨by rfl, ?_⟩) hHeld ?_
    rotate_left
    · intro w' hSw
      have f3 := ((kcell hSw).1 r4 0 hz4 hr4m).trans c84
      (go_simp <;> with_reducible rfl)
    try simp only [Act.put, List.getElem_toArray, List.getElem_cons_succ, List.getElem_cons_zero, List.setIfInBounds_toArray, List.set_cons_zero, List.set_cons_succ]
    refine wpAnyH_take (i := 5) (oi := _) (v := ?_) rfl (by kernel_rfl) (by kernel_rfl) (by kernel_rfl) (fun _ _ _ h => h) (Or.inl ⟨by rfl, ?_⟩) hHeld ?_
    rotate_left
    · intro w' hSw
      have f3 := ((kcell hSw).1 r5 0 hz5 hr5m).trans c85
      (go_simp <;> with_reducible rfl)
    try simp only [Act.put, List.getElem_toArray, List.getElem_cons_succ, List.getElem_cons_zero, List.setIfInBounds_toArray, List.set_cons_zero, List.set_cons_succ]
    refine wpAnyH_take (i := 7) (oi := _) (v := ?_) rfl (by kernel_rfl) (by kernel_rfl) (by kernel_rfl) (fun _ _ _ h => h) (Or.inl ⟨by rfl, ?_⟩) hHeld ?_
    rotate_left
    · intro w' hSw
      have f3 := ((kcell hSw).1 r5 0 hz5 hr5m).trans c85
      (go_simp <;> with_reducible rfl)
    try simp only [Act.put, List.getElem_toArray, List.getElem_cons_succ, List.getElem_cons_zero, List.setIfInBounds_toArray, List.set_cons_zero, List.set_cons_succ]
    refine wpAnyH_ready (rs := [6]) (by kernel_rfl) (by simp) ?_
    refine AllReadyH.cons (o := _) rfl (fun K hK => ?_) AllReadyH.nil
    go_simp
    go_at_call 67
    (with_reducible (refine hst.mono ?_))
    rintro e w9 ⟨rfl, hb9⟩
    have hb9' : Below w8.heap.size w8 w9 := (Below.refl _ _).drew.trans hb9
    refine hK.out _ _ (Kp.of_below hb9') (fun hHeld => ?_)
    clear hK K
    try simp only [Act.put, List.getElem_toArray, List.getElem_cons_succ, List.getElem_cons_zero, List.setIfInBounds_toArray, List.set_cons_zero, List.set_cons_succ]
    refine wpAnyH_ready (rs := [8]) (by kernel_rfl) (by simp) ?_
    refine AllReadyH.cons (o := _) rfl (fun K hK => ?_) AllReadyH.nil
    refine step_put rfl (.tmp 36) (.tmp 39) (.tmp 40) rfl mb (ents l o) rfl (hX7.mp.below hb9') (siteL l a) hsl (a : Int) rfl rfl hen ?_
    intro w10 hm10 hk10
    have hk10' : Kp mb w8 w10 := (Kp.of_below hb9').trans hk10
    have hXf : Hx w10 base hb mb (o ++ [a]) (ents l (o ++ [a])) := by rw [ents_snoc]; exact Hx.kp hX7 hk10' hm10
    have hBf : Below base w w10 := hB8.trans (hk10'.below hX.b2 (by have := hX.b2; omega))
    refine hK.out _ _ hk10' (fun hHeld => ?_)
    clear hK K
    refine wpAnyH_done (by kernel_rfl) ?_ _
    clear hen hst hsl hX7
    go_wp2
    go_ret
    exact ⟨rfl, hXf, hBf⟩
end Go.Proofs.Ytonholadabebbaa

namespace Go.Proofs.Ytonholadabebbaa
open Go.ChangeShapes Go.WideShapes Go.ChangeAt Go.RowKit
attribute [local go_sem ↓] Go.wp_at_zero Go.wp_at_succ

theorem lookE_some {k : List Int} {v : Int} : ∀ {m : List En}, lookE m k = some v → ∃ x ∈ m, x.1 = k ∧ x.2 = v
  | x :: r, h => by
    unfold lookE at h
    split at h
    · rename_i e
      simp only [Option.some.injEq] at h
      exact ⟨x, by simp, e.symm, h⟩
    · obtain ⟨y, hy, h1, h2⟩ := lookE_some h
      exact ⟨y, by simp [hy], h1, h2⟩
theorem load_yields7 {a : Act} {w : World} {o : Oper} {P : Program} (t : TypeId) (x : Operand) (ho : o.op = .load t x) (g : Nat) (hx : a.eval x = .pointer (some ⟨g, 0, none⟩)) {v : Value} (h : (loadVar t ⟨g, 0, none⟩).run P w = .ok v w) : (execOp a.eval o).run P w = .ok (.value v) w := by
  unfold execOp
  simp only [ho, hx, Instr.loadAt, Instr.sureAddr, Sem.run_bind, Sem.run_pure, Result.andThen_ok, h]
set_option maxHeartbeats 4000000 in
set_option maxRecDepth 20000 in
theorem unlock_none (p : Option Addr) (c : Nat) (l : List In) (w : World) (hr : Rd eIn w p c l) (n : Nat) (hN : l.length = n) (hn : n ≤ 24) (hal : l.all mayB = true) (a : Nat) (ha : a < n) (base hb mb : Nat) (o : List Nat) (hX : Hx w base hb mb o (ents l o)) (hlo : lookE (ents l o) (siteL l a) = none) :
    Calls Try.prog 55 #[.pointer (some ⟨hb, 0, none⟩), .slice p n c, .int .i64 a] w fun e w' => e = .returned (.tuple #[.int .i64 0, .bool false]) ∧ Below base w w' := by
  obtain ⟨q, d, hh, hown, c0, c1, hhb, hmb, hne, hfz⟩ := hX.facts
  obtain ⟨m, hM⟩ : ∃ m, o.length = m := ⟨_, rfl⟩
  rw [hM] at hh c0
  have HM : Hid (o.length = m) := hM
  have hbase : base ≤ w.heap.size := by have := hX.b1; omega
  have hst := site_any p c l w hr n hN hn hal a ha
  have hsl := siteL_len l a
  clear hM hN
  go_enter Try.func55, Try.ntmps55
  go_wp2_with (first
    | (go_at_call 67; refine hst.mono ?_; rintro e w4 ⟨rfl, hb4⟩)
    | (refine wpList_store_row rfl 113 _ _ rfl w4.heap.size (cI7 (siteL l a)) rfl rfl 113 _ (heap_alloc_new _ _) (by rw [cI_size7, hsl]; exact info81) (by rw [cI_size7, hsl]; rfl) (cI_one7 _) ?_; rw [World.setRow_alloc_new]))
  have hB5 : Below w.heap.size w (w4.alloc (Obj.cells (cI7 (siteL l a)) 113)) := hb4.alloc hb4.size _
  have hr8 : (w4.alloc (Obj.cells (cI7 (siteL l a)) 113)).heap[w4.heap.size]? = some (.cells (cI7 (siteL l a)) 113 (0, 0)) := heap_alloc_new _ _
  have hz8 : w4.heap.size < (w4.alloc (Obj.cells (cI7 (siteL l a)) 113)).heap.size := by simp
  have hX5 := hX.below hB5
  have hz4 := hb4.size
  generalize w4.alloc (Obj.cells (cI7 (siteL l a)) 113) = w5 at *
  generalize w4.heap.size = r8 at *
  clear hb4 hst
  obtain ⟨q5, d5, hh5, hown5, c50, c51, hhb5, hmb5, hne5, hfz5⟩ := hX5.facts
  rw [HM.out] at hh5 c50
  clear hh hown c0 c1 hfz
  have hlk : ∀ w', Below w5.heap.size w5 w' → (Instr.lookup 94 (.map (some mb)) (.agg (cI7 (siteL l a))) true).run Try.prog w' = .ok (.tuple #[.int .i64 0, .bool false]) w' := fun w' hb' => by
    have := look_run (hX5.mp.below hb') hsl
    rw [hlo] at this
    exact this
  have hld : ∀ w', Below w5.heap.size w5 w' → (loadVar 113 ⟨r8, 0, none⟩).run Try.prog w' = .ok (.agg (cI7 (siteL l a))) w' := fun w' hb' => run_loadVar_row w' r8 113 113 _ (0, 0) _ ((hb'.block r8 hz8).trans hr8) Try.underlying113 rfl (by rw [cI_size7, hsl]; exact info81)
  refine wp_region_held_drew (S := fun w' => Below w5.heap.size w5 w') (by kernel_rfl) (Below.refl _ _).drew (fun hHeld => ?_)
  refine wpAnyH_take (i := 0) (oi := _) (v := ?_) rfl (by kernel_rfl) (by kernel_rfl) (by kernel_rfl) (fun _ _ _ h => h) (Or.inl ⟨by rfl, ?_⟩) hHeld ?_
  rotate_left
  · intro w' hSw
    (go_simp <;> with_reducible rfl)
  try simp only [Act.put, List.getElem_toArray, List.getElem_cons_zero, List.setIfInBounds_toArray, List.set_cons_zero, List.set_cons_succ]
  refine wpAnyH_take (i := 1) (oi := _) (v := ?_) rfl (by kernel_rfl) (by kernel_rfl) (by kernel_rfl) (fun _ _ _ h => h) (Or.inl ⟨by rfl, ?_⟩) hHeld ?_
  rotate_left
  · intro w' hSw
    (go_simp <;> with_reducible rfl)
  try simp only [Act.put, List.getElem_toArray, List.getElem_cons_succ, List.getElem_cons_zero, List.setIfInBounds_toArray, List.set_cons_zero, List.set_cons_succ]
  refine wpAnyH_take (i := 2) (oi := _) (v := ?_) rfl (by kernel_rfl) (by kernel_rfl) (by kernel_rfl) (fun _ _ _ h => h) (Or.inl ⟨by rfl, ?_⟩) hHeld ?_
  rotate_left
  · intro w' hSw
    (go_simp <;> with_reducible rfl)
  try simp only [Act.put, List.getElem_toArray, List.getElem_cons_succ, List.getElem_cons_zero, List.setIfInBounds_toArray, List.set_cons_zero, List.set_cons_succ]
  refine wpAnyH_take (i := 3) (oi := _) (v := ?_) rfl (by kernel_rfl) (by kernel_rfl) (by kernel_rfl) (fun _ _ _ h => h) (Or.inl ⟨by rfl, ?_⟩) hHeld ?_
  rotate_left
  · intro w' hSw
    have f3 := (hSw.cell (p := ⟨hb, 1, none⟩) hhb5).trans c51
    (go_simp <;> with_reducible rfl)
  try simp only [Act.put, List.getElem_toArray, List.getElem_cons_succ, List.getElem_cons_zero, List.setIfInBounds_toArray, List.set_cons_zero, List.set_cons_succ]
  refine wpAnyH_take (i := 4) (oi := _) (v := .agg (cI7 (siteL l a))) rfl (by kernel_rfl) (by kernel_rfl) (by kernel_rfl) (fun _ _ _ h => h) (Or.inl ⟨by rfl, fun w' hSw => load_yields7 113 (.tmp 8) rfl r8 rfl (hld w' hSw)⟩) hHeld ?_
  try simp only [Act.put, List.getElem_toArray, List.getElem_cons_succ, List.getElem_cons_zero, List.setIfInBounds_toArray, List.set_cons_zero, List.set_cons_succ]
  refine wpAnyH_take (i := 5) (oi := _) (v := ?_) rfl (by kernel_rfl) (by kernel_rfl) (by kernel_rfl) (fun _ _ _ h => h) (Or.inl ⟨by rfl, ?_⟩) hHeld ?_
  rotate_left
  · intro w' hSw
    have f3 := hlk w' hSw
    (go_simp <;> with_reducible rfl)
  try simp only [Act.put, List.getElem_toArray, List.getElem_cons_succ, List.getElem_cons_zero, List.setIfInBounds_toArray, List.set_cons_zero, List.set_cons_succ]
  refine wpAnyH_take (i := 6) (oi := _) (v := ?_) rfl (by kernel_rfl) (by kernel_rfl) (by kernel_rfl) (fun _ _ _ h => h) (Or.inl ⟨by rfl, ?_⟩) hHeld ?_
  rotate_left
  · intro w' hSw
    (go_simp <;> with_reducible rfl)
  try simp only [Act.put, List.getElem_toArray, List.getElem_cons_succ, List.getElem_cons_zero, List.setIfInBounds_toArray, List.set_cons_zero, List.set_cons_succ]
  refine wpAnyH_take (i := 7) (oi := _) (v := ?_) rfl (by kernel_rfl) (by kernel_rfl) (by kernel_rfl) (fun _ _ _ h => h) (Or.inl ⟨by rfl, ?_⟩) hHeld ?_
  rotate_left
  · intro w' hSw
    (go_simp <;> with_reducible rfl)
  try simp only [Act.put, List.getElem_toArray, List.getElem_cons_succ, List.getElem_cons_zero, List.setIfInBounds_toArray, List.set_cons_zero, List.set_cons_succ]
  refine wpAnyH_take (i := 8) (oi := _) (v := ?_) rfl (by kernel_rfl) (by kernel_rfl) (by kernel_rfl) (fun _ _ _ h => h) (Or.inl ⟨by rfl, ?_⟩) hHeld ?_
  rotate_left
  · intro w' hSw
    (go_simp <;> with_reducible rfl)
  try simp only [Act.put, List.getElem_toArray, List.getElem_cons_succ, List.getElem_cons_zero, List.setIfInBounds_toArray, List.set_cons_zero, List.set_cons_succ]
  refine wpAnyH_take (i := 9) (oi := _) (v := ?_) rfl (by kernel_rfl) (by kernel_rfl) (by kernel_rfl) (fun _ _ _ h => h) (Or.inl ⟨by rfl, ?_⟩) hHeld ?_
  rotate_left
  · intro w' hSw
    (go_simp <;> with_reducible rfl)
  try simp only [Act.put, List.getElem_toArray, List.getElem_cons_succ, List.getElem_cons_zero, List.setIfInBounds_toArray, List.set_cons_zero, List.set_cons_succ]
  refine wpAnyH_take (i := 10) (oi := _) (v := ?_) rfl (by kernel_rfl) (by kernel_rfl) (by kernel_rfl) (fun _ _ _ h => h) (Or.inl ⟨by rfl, ?_⟩) hHeld ?_
  rotate_left
  · intro w' hSw
    (go_simp <;> with_reducible rfl)
  try simp only [Act.put, List.getElem_toArray, List.getElem_cons_succ, List.getElem_cons_zero, List.setIfInBounds_toArray, List.set_cons_zero, List.set_cons_succ]
  refine wpAnyH_done (by kernel_rfl) ?_ _
  have hX6 := hX5.below ((Below.refl _ w5).drew)
  have hB6 : Below w.heap.size w w5.drew := hB5.trans ((Below.refl _ w5).drew.mono hB5.size)
  have c60 : w5.drew.cell? ⟨hb, 0, none⟩ = some (.slice q5 m d5) := c50
  have c61 : w5.drew.cell? ⟨hb, 1, none⟩ = some (.map (some mb)) := c51
  have hr6 : w5.drew.heap[r8]? = some (.cells (cI7 (siteL l a)) 113 (0, 0)) := hr8
  have hh6 : w5.drew.heap[hb]? = some (.cells #[.slice q5 m d5, .map (some mb)] 96 (0, 0)) := hh5
  have hown6 : Own eI w5.drew base 3 q5 d5 (oI o) := own_below hown5 ((Below.refl _ w5).drew)
  have hz6 : w5.drew.heap.size = w5.heap.size := rfl
  generalize w5.drew = w6 at *
  clear hHeld hlk hld hX5 hB5 c50 c51 hr8 hh5 hown5 hfz5
  go_wp2
  go_ret2
  exact ⟨rfl, hB6.mono hbase⟩

set_option maxHeartbeats 4000000 in
set_option maxRecDepth 20000 in
theorem unlock_other (p : Option Addr) (c : Nat) (l : List In) (w : World) (hr : Rd eIn w p c l) (n : Nat) (hN : l.length = n) (hn : n ≤ 24) (hal : l.all mayB = true) (a : Nat) (ha : a < n) (base hb mb : Nat) (o : List Nat) (hX : Hx w base hb mb o (ents l o)) (v : Int) (hlo : lookE (ents l o) (siteL l a) = some v) (k : Nat) (o1 : List Nat) (hk : o = o1 ++ [k]) (hle : o.length ≤ 2) (hv : ¬ (k : Int) = v) :
    Calls Try.prog 55 #[.pointer (some ⟨hb, 0, none⟩), .slice p n c, .int .i64 a] w fun e w' => e = .returned (.tuple #[.int .i64 0, .bool false]) ∧ Below base w w' := by
  obtain ⟨q, d, hh, hown, c0, c1, hhb, hmb, hne, hfz⟩ := hX.facts
  obtain ⟨m, hM⟩ : ∃ m, o.length = m := ⟨_, rfl⟩
  rw [hM] at hh c0
  have HM : Hid (o.length = m) := hM
  have hbase : base ≤ w.heap.size := by have := hX.b1; omega
  have hst := site_any p c l w hr n hN hn hal a ha
  have hsl := siteL_len l a
  clear hM hN
  obtain ⟨m1, hm1⟩ : ∃ m1, o1.length = m1 := ⟨_, rfl⟩
  have HMM : Hid (m = m1 + 1) := by show _ = _; rw [← HM.out, hk, List.length_append, hm1]; rfl
  rw [HM.out] at hle
  have HK : Hid (o = o1 ++ [k]) := hk
  have HM1 : Hid (o1.length = m1) := hm1
  clear hk hm1
  have dv : ((k : Int) == v) = false := by simpa using hv
  go_enter Try.func55, Try.ntmps55
  go_wp2_with (first
    | (go_at_call 67; refine hst.mono ?_; rintro e w4 ⟨rfl, hb4⟩)
    | (refine wpList_store_row rfl 113 _ _ rfl w4.heap.size (cI7 (siteL l a)) rfl rfl 113 _ (heap_alloc_new _ _) (by rw [cI_size7, hsl]; exact info81) (by rw [cI_size7, hsl]; rfl) (cI_one7 _) ?_; rw [World.setRow_alloc_new]))
  have hB5 : Below w.heap.size w (w4.alloc (Obj.cells (cI7 (siteL l a)) 113)) := hb4.alloc hb4.size _
  have hr8 : (w4.alloc (Obj.cells (cI7 (siteL l a)) 113)).heap[w4.heap.size]? = some (.cells (cI7 (siteL l a)) 113 (0, 0)) := heap_alloc_new _ _
  have hz8 : w4.heap.size < (w4.alloc (Obj.cells (cI7 (siteL l a)) 113)).heap.size := by simp
  have hX5 := hX.below hB5
  have hz4 := hb4.size
  generalize w4.alloc (Obj.cells (cI7 (siteL l a)) 113) = w5 at *
  generalize w4.heap.size = r8 at *
  clear hb4 hst
  obtain ⟨q5, d5, hh5, hown5, c50, c51, hhb5, hmb5, hne5, hfz5⟩ := hX5.facts
  rw [HM.out] at hh5 c50
  clear hh hown c0 c1 hfz
  have hlk : ∀ w', Below w5.heap.size w5 w' → (Instr.lookup 94 (.map (some mb)) (.agg (cI7 (siteL l a))) true).run Try.prog w' = .ok (.tuple #[.int .i64 v, .bool true]) w' := fun w' hb' => by
    have := look_run (hX5.mp.below hb') hsl
    rw [hlo] at this
    exact this
  have hld : ∀ w', Below w5.heap.size w5 w' → (loadVar 113 ⟨r8, 0, none⟩).run Try.prog w' = .ok (.agg (cI7 (siteL l a))) w' := fun w' hb' => run_loadVar_row w' r8 113 113 _ (0, 0) _ ((hb'.block r8 hz8).trans hr8) Try.underlying113 rfl (by rw [cI_size7, hsl]; exact info81)
  refine wp_region_held_drew (S := fun w' => Below w5.heap.size w5 w') (by kernel_rfl) (Below.refl _ _).drew (fun hHeld => ?_)
  refine wpAnyH_take (i := 0) (oi := _) (v := ?_) rfl (by kernel_rfl) (by kernel_rfl) (by kernel_rfl) (fun _ _ _ h => h) (Or.inl ⟨by rfl, ?_⟩) hHeld ?_
  rotate_left
  · intro w' hSw
    (go_simp <;> with_reducible rfl)
  try simp only [Act.put, List.getElem_toArray, List.getElem_cons_zero, List.setIfInBounds_toArray, List.set_cons_zero, List.set_cons_succ]
  refine wpAnyH_take (i := 1) (oi := _) (v := ?_) rfl (by kernel_rfl) (by kernel_rfl) (by kernel_rfl) (fun _ _ _ h => h) (Or.inl ⟨by rfl, ?_⟩) hHeld ?_
  rotate_left
  · intro w' hSw
    (go_simp <;> with_reducible rfl)
  try simp only [Act.put, List.getElem_toArray, List.getElem_cons_succ, List.getElem_cons_zero, List.setIfInBounds_toArray, List.set_cons_zero, List.set_cons_succ]
  refine wpAnyH_take (i := 2) (oi := _) (v := ?_) rfl (by kernel_rfl) (by kernel_rfl) (by kernel_rfl) (fun _ _ _ h => h) (Or.inl ⟨by rfl, ?_⟩) hHeld ?_
  rotate_left
  · intro w' hSw
    (go_simp <;> with_reducible rfl)
  try simp only [Act.put, List.getElem_toArray, List.getElem_cons_succ, List.getElem_cons_zero, List.setIfInBounds_toArray, List.set_cons_zero, List.set_cons_succ]
  refine wpAnyH_take (i := 3) (oi := _) (v := ?_) rfl (by kernel_rfl) (by kernel_rfl) (by kernel_rfl) (fun _ _ _ h => h) (Or.inl ⟨by rfl, ?_⟩) hHeld ?_
  rotate_left
  · intro w' hSw
    have f3 := (hSw.cell (p := ⟨hb, 1, none⟩) hhb5).trans c51
    (go_simp <;> with_reducible rfl)
  try simp only [Act.put, List.getElem_toArray, List.getElem_cons_succ, List.getElem_cons_zero, List.setIfInBounds_toArray, List.set_cons_zero, List.set_cons_succ]
  refine wpAnyH_take (i := 4) (oi := _) (v := .agg (cI7 (siteL l a))) rfl (by kernel_rfl) (by kernel_rfl) (by kernel_rfl) (fun _ _ _ h => h) (Or.inl ⟨by rfl, fun w' hSw => load_yields7 113 (.tmp 8) rfl r8 rfl (hld w' hSw)⟩) hHeld ?_
  try simp only [Act.put, List.getElem_toArray, List.getElem_cons_succ, List.getElem_cons_zero, List.setIfInBounds_toArray, List.set_cons_zero, List.set_cons_succ]
  refine wpAnyH_take (i := 5) (oi := _) (v := ?_) rfl (by kernel_rfl) (by kernel_rfl) (by kernel_rfl) (fun _ _ _ h => h) (Or.inl ⟨by rfl, ?_⟩) hHeld ?_
  rotate_left
  · intro w' hSw
    have f3 := hlk w' hSw
    (go_simp <;> with_reducible rfl)
  try simp only [Act.put, List.getElem_toArray, List.getElem_cons_succ, List.getElem_cons_zero, List.setIfInBounds_toArray, List.set_cons_zero, List.set_cons_succ]
  refine wpAnyH_take (i := 6) (oi := _) (v := ?_) rfl (by kernel_rfl) (by kernel_rfl) (by kernel_rfl) (fun _ _ _ h => h) (Or.inl ⟨by rfl, ?_⟩) hHeld ?_
  rotate_left
  · intro w' hSw
    (go_simp <;> with_reducible rfl)
  try simp only [Act.put, List.getElem_toArray, List.getElem_cons_succ, List.getElem_cons_zero, List.setIfInBounds_toArray, List.set_cons_zero, List.set_cons_succ]
  refine wpAnyH_take (i := 7) (oi := _) (v := ?_) rfl (by kernel_rfl) (by kernel_rfl) (by kernel_rfl) (fun _ _ _ h => h) (Or.inl ⟨by rfl, ?_⟩) hHeld ?_
  rotate_left
  · intro w' hSw
    (go_simp <;> with_reducible rfl)
  try simp only [Act.put, List.getElem_toArray, List.getElem_cons_succ, List.getElem_cons_zero, List.setIfInBounds_toArray, List.set_cons_zero, List.set_cons_succ]
  refine wpAnyH_take (i := 8) (oi := _) (v := ?_) rfl (by kernel_rfl) (by kernel_rfl) (by kernel_rfl) (fun _ _ _ h => h) (Or.inl ⟨by rfl, ?_⟩) hHeld ?_
  rotate_left
  · intro w' hSw
    (go_simp <;> with_reducible rfl)
  try simp only [Act.put, List.getElem_toArray, List.getElem_cons_succ, List.getElem_cons_zero, List.setIfInBounds_toArray, List.set_cons_zero, List.set_cons_succ]
  refine wpAnyH_take (i := 9) (oi := _) (v := ?_) rfl (by kernel_rfl) (by kernel_rfl) (by kernel_rfl) (fun _ _ _ h => h) (Or.inl ⟨by rfl, ?_⟩) hHeld ?_
  rotate_left
  · intro w' hSw
    (go_simp <;> with_reducible rfl)
  try simp only [Act.put, List.getElem_toArray, List.getElem_cons_succ, List.getElem_cons_zero, List.setIfInBounds_toArray, List.set_cons_zero, List.set_cons_succ]
  refine wpAnyH_take (i := 10) (oi := _) (v := ?_) rfl (by kernel_rfl) (by kernel_rfl) (by kernel_rfl) (fun _ _ _ h => h) (Or.inl ⟨by rfl, ?_⟩) hHeld ?_
  rotate_left
  · intro w' hSw
    (go_simp <;> with_reducible rfl)
  try simp only [Act.put, List.getElem_toArray, List.getElem_cons_succ, List.getElem_cons_zero, List.setIfInBounds_toArray, List.set_cons_zero, List.set_cons_succ]
  refine wpAnyH_done (by kernel_rfl) ?_ _
  have hX6 := hX5.below ((Below.refl _ w5).drew)
  have hB6 : Below w.heap.size w w5.drew := hB5.trans ((Below.refl _ w5).drew.mono hB5.size)
  have c60 : w5.drew.cell? ⟨hb, 0, none⟩ = some (.slice q5 m d5) := c50
  have c61 : w5.drew.cell? ⟨hb, 1, none⟩ = some (.map (some mb)) := c51
  have hr6 : w5.drew.heap[r8]? = some (.cells (cI7 (siteL l a)) 113 (0, 0)) := hr8
  have hh6 : w5.drew.heap[hb]? = some (.cells #[.slice q5 m d5, .map (some mb)] 96 (0, 0)) := hh5
  have hown6 : Own eI w5.drew base 3 q5 d5 (oI o) := own_below hown5 ((Below.refl _ w5).drew)
  have hz6 : w5.drew.heap.size = w5.heap.size := rfl
  generalize w5.drew = w6 at *
  clear hHeld hlk hld hX5 hB5 c50 c51 hr8 hh5 hown5 hfz5
  have hq0 := HMM.out
  have hq1 : (m : Int) - 1 = (m1 : Int) := by omega
  have hm3 : m1 ≤ 1 := by omega
  have hq2 : (m1 : Int) < (m : Int) := by omega
  obtain ⟨b, f, rfl, hbz, f0⟩ := (own_rd hown6).num m1 (by rw [oI_len, HM.out]; have := HMM.out; omega)
  have hx : (oI o)[m1]'(by rw [oI_len, HM.out]; have := HMM.out; omega) = (k : Int) := by
    have e : oI o = oI o1 ++ [(k : Int)] := by rw [HK.out, oI_snoc]
    simp only [e]
    rw [List.getElem_append_right (by rw [oI_len, HM1.out]; exact Nat.le_refl _)]
    simp [oI_len, HM1.out]
  rw [hx] at f0
  clear hx hq0
  go_wp2
  go_ret2
  exact ⟨rfl, hB6.mono hbase⟩

set_option maxHeartbeats 4000000 in
set_option maxRecDepth 20000 in
theorem unlock_yes (p : Option Addr) (c : Nat) (l : List In) (w : World) (hr : Rd eIn w p c l) (n : Nat) (hN : l.length = n) (hn : n ≤ 24) (hal : l.all mayB = true) (a : Nat) (ha : a < n) (base hb mb : Nat) (o : List Nat) (hX : Hx w base hb mb o (ents l o)) (k : Nat) (o1 : List Nat) (hk : o = o1 ++ [k]) (hle : o.length ≤ 2) (hsk : siteL l k = siteL l a) (hd1 : ∀ j ∈ o1, (gt l j).2.1 ≠ (gt l k).2.1) :
    Calls Try.prog 55 #[.pointer (some ⟨hb, 0, none⟩), .slice p n c, .int .i64 a] w fun e w' => e = .returned (.tuple #[.int .i64 k, .bool true]) ∧ Hx w' base hb mb o1 (ents l o1) ∧ Below base w w' := by
  have hen : ∀ x ∈ ents l o1, siteL l a ≠ x.1 := by
    intro x hx e
    simp only [ents, List.mem_map] at hx
    obtain ⟨j, hj, rfl⟩ := hx
    rw [← hsk] at e
    simp only [siteL, List.cons.injEq] at e
    exact hd1 j hj e.1.symm
  have hE : ents l o = ents l o1 ++ [(siteL l a, (k : Int))] := by rw [hk, ents_snoc, hsk]
  have hlo : lookE (ents l o) (siteL l a) = some (k : Int) := by rw [hE]; exact lookE_last hen
  have hb1 := hX.b1
  have hb2 := hX.b2
  obtain ⟨q, d, hh, hown, c0, c1, hhb, hmb, hne, hfz⟩ := hX.facts
  obtain ⟨m, hM⟩ : ∃ m, o.length = m := ⟨_, rfl⟩
  rw [hM] at hh c0
  have HM : Hid (o.length = m) := hM
  have hbase : base ≤ w.heap.size := by have := hX.b1; omega
  have hst := site_any p c l w hr n hN hn hal a ha
  have hsl := siteL_len l a
  clear hM hN
  obtain ⟨m1, hm1⟩ : ∃ m1, o1.length = m1 := ⟨_, rfl⟩
  have HMM : Hid (m = m1 + 1) := by show _ = _; rw [← HM.out, hk, List.length_append, hm1]; rfl
  rw [HM.out] at hle
  have HK : Hid (o = o1 ++ [k]) := hk
  have HM1 : Hid (o1.length = m1) := hm1
  have HE : Hid (ents l o = ents l o1 ++ [(siteL l a, (k : Int))]) := hE
  clear hk hm1 hE hd1 hsk
  go_enter Try.func55, Try.ntmps55
  go_wp2_with (first
    | (go_at_call 67; refine hst.mono ?_; rintro e w4 ⟨rfl, hb4⟩)
    | (refine wpList_store_row rfl 113 _ _ rfl w4.heap.size (cI7 (siteL l a)) rfl rfl 113 _ (heap_alloc_new _ _) (by rw [cI_size7, hsl]; exact info81) (by rw [cI_size7, hsl]; rfl) (cI_one7 _) ?_; rw [World.setRow_alloc_new]))
  have hB5 : Below w.heap.size w (w4.alloc (Obj.cells (cI7 (siteL l a)) 113)) := hb4.alloc hb4.size _
  have hr8 : (w4.alloc (Obj.cells (cI7 (siteL l a)) 113)).heap[w4.heap.size]? = some (.cells (cI7 (siteL l a)) 113 (0, 0)) := heap_alloc_new _ _
  have hz8 : w4.heap.size < (w4.alloc (Obj.cells (cI7 (siteL l a)) 113)).heap.size := by simp
  have hX5 := hX.below hB5
  have hz4 := hb4.size
  generalize w4.alloc (Obj.cells (cI7 (siteL l a)) 113) = w5 at *
  generalize w4.heap.size = r8 at *
  clear hb4 hst
  obtain ⟨q5, d5, hh5, hown5, c50, c51, hhb5, hmb5, hne5, hfz5⟩ := hX5.facts
  rw [HM.out] at hh5 c50
  clear hh hown c0 c1 hfz
  have hlk : ∀ w', Below w5.heap.size w5 w' → (Instr.lookup 94 (.map (some mb)) (.agg (cI7 (siteL l a))) true).run Try.prog w' = .ok (.tuple #[.int .i64 (k : Int), .bool true]) w' := fun w' hb' => by
    have := look_run (hX5.mp.below hb') hsl
    rw [hlo] at this
    exact this
  have hld : ∀ w', Below w5.heap.size w5 w' → (loadVar 113 ⟨r8, 0, none⟩).run Try.prog w' = .ok (.agg (cI7 (siteL l a))) w' := fun w' hb' => run_loadVar_row w' r8 113 113 _ (0, 0) _ ((hb'.block r8 hz8).trans hr8) Try.underlying113 rfl (by rw [cI_size7, hsl]; exact info81)
  refine wp_region_held_drew (S := fun w' => Below w5.heap.size w5 w') (by kernel_rfl) (Below.refl _ _).drew (fun hHeld => ?_)
  refine wpAnyH_take (i := 0) (oi := _) (v := ?_) rfl (by kernel_rfl) (by kernel_rfl) (by kernel_rfl) (fun _ _ _ h => h) (Or.inl ⟨by rfl, ?_⟩) hHeld ?_
  rotate_left
  · intro w' hSw
    (go_simp <;> with_reducible rfl)
  try simp only [Act.put, List.getElem_toArray, List.getElem_cons_zero, List.setIfInBounds_toArray, List.set_cons_zero, List.set_cons_succ]
  refine wpAnyH_take (i := 1) (oi := _) (v := ?_) rfl (by kernel_rfl) (by kernel_rfl) (by kernel_rfl) (fun _ _ _ h => h) (Or.inl ⟨by rfl, ?_⟩) hHeld ?_
  rotate_left
  · intro w' hSw
    (go_simp <;> with_reducible rfl)
  try simp only [Act.put, List.getElem_toArray, List.getElem_cons_succ, List.getElem_cons_zero, List.setIfInBounds_toArray, List.set_cons_zero, List.set_cons_succ]
  refine wpAnyH_take (i := 2) (oi := _) (v := ?_) rfl (by kernel_rfl) (by kernel_rfl) (by kernel_rfl) (fun _ _ _ h => h) (Or.inl ⟨by rfl, ?_⟩) hHeld ?_
  rotate_left
  · intro w' hSw
    (go_simp <;> with_reducible rfl)
  try simp only [Act.put, List.getElem_toArray, List.getElem_cons_succ, List.getElem_cons_zero, List.setIfInBounds_toArray, List.set_cons_zero, List.set_cons_succ]
  refine wpAnyH_take (i := 3) (oi := _) (v := ?_) rfl (by kernel_rfl) (by kernel_rfl) (by kernel_rfl) (fun _ _ _ h => h) (Or.inl ⟨by rfl, ?_⟩) hHeld ?_
  rotate_left
  · intro w' hSw
    have f3 := (hSw.cell (p := ⟨hb, 1, none⟩) hhb5).trans c51
    (go_simp <;> with_reducible rfl)
  try simp only [Act.put, List.getElem_toArray, List.getElem_cons_succ, List.getElem_cons_zero, List.setIfInBounds_toArray, List.set_cons_zero, List.set_cons_succ]
  refine wpAnyH_take (i := 4) (oi := _) (v := .agg (cI7 (siteL l a))) rfl (by kernel_rfl) (by kernel_rfl) (by kernel_rfl) (fun _ _ _ h => h) (Or.inl ⟨by rfl, fun w' hSw => load_yields7 113 (.tmp 8) rfl r8 rfl (hld w' hSw)⟩) hHeld ?_
  try simp only [Act.put, List.getElem_toArray, List.getElem_cons_succ, List.getElem_cons_zero, List.setIfInBounds_toArray, List.set_cons_zero, List.set_cons_succ]
  refine wpAnyH_take (i := 5) (oi := _) (v := ?_) rfl (by kernel_rfl) (by kernel_rfl) (by kernel_rfl) (fun _ _ _ h => h) (Or.inl ⟨by rfl, ?_⟩) hHeld ?_
  rotate_left
  · intro w' hSw
    have f3 := hlk w' hSw
    (go_simp <;> with_reducible rfl)
  try simp only [Act.put, List.getElem_toArray, List.getElem_cons_succ, List.getElem_cons_zero, List.setIfInBounds_toArray, List.set_cons_zero, List.set_cons_succ]
  refine wpAnyH_take (i := 6) (oi := _) (v := ?_) rfl (by kernel_rfl) (by kernel_rfl) (by kernel_rfl) (fun _ _ _ h => h) (Or.inl ⟨by rfl, ?_⟩) hHeld ?_
  rotate_left
  · intro w' hSw
    (go_simp <;> with_reducible rfl)
  try simp only [Act.put, List.getElem_toArray, List.getElem_cons_succ, List.getElem_cons_zero, List.setIfInBounds_toArray, List.set_cons_zero, List.set_cons_succ]
  refine wpAnyH_take (i := 7) (oi := _) (v := ?_) rfl (by kernel_rfl) (by kernel_rfl) (by kernel_rfl) (fun _ _ _ h => h) (Or.inl ⟨by rfl, ?_⟩) hHeld ?_
  rotate_left
  · intro w' hSw
    (go_simp <;> with_reducible rfl)
  try simp only [Act.put, List.getElem_toArray, List.getElem_cons_succ, List.getElem_cons_zero, List.setIfInBounds_toArray, List.set_cons_zero, List.set_cons_succ]
  refine wpAnyH_take (i := 8) (oi := _) (v := ?_) rfl (by kernel_rfl) (by kernel_rfl) (by kernel_rfl) (fun _ _ _ h => h) (Or.inl ⟨by rfl, ?_⟩) hHeld ?_
  rotate_left
  · intro w' hSw
    (go_simp <;> with_reducible rfl)
  try simp only [Act.put, List.getElem_toArray, List.getElem_cons_succ, List.getElem_cons_zero, List.setIfInBounds_toArray, List.set_cons_zero, List.set_cons_succ]
  refine wpAnyH_take (i := 9) (oi := _) (v := ?_) rfl (by kernel_rfl) (by kernel_rfl) (by kernel_rfl) (fun _ _ _ h => h) (Or.inl ⟨by rfl, ?_⟩) hHeld ?_
  rotate_left
  · intro w' hSw
    (go_simp <;> with_reducible rfl)
  try simp only [Act.put, List.getElem_toArray, List.getElem_cons_succ, List.getElem_cons_zero, List.setIfInBounds_toArray, List.set_cons_zero, List.set_cons_succ]
  refine wpAnyH_take (i := 10) (oi := _) (v := ?_) rfl (by kernel_rfl) (by kernel_rfl) (by kernel_rfl) (fun _ _ _ h => h) (Or.inl ⟨by rfl, ?_⟩) hHeld ?_
  rotate_left
  · intro w' hSw
    (go_simp <;> with_reducible rfl)
  try simp only [Act.put, List.getElem_toArray, List.getElem_cons_succ, List.getElem_cons_zero, List.setIfInBounds_toArray, List.set_cons_zero, List.set_cons_succ]
  refine wpAnyH_done (by kernel_rfl) ?_ _
  have hX6 := hX5.below ((Below.refl _ w5).drew)
  have hB6 : Below w.heap.size w w5.drew := hB5.trans ((Below.refl _ w5).drew.mono hB5.size)
  have c60 : w5.drew.cell? ⟨hb, 0, none⟩ = some (.slice q5 m d5) := c50
  have c61 : w5.drew.cell? ⟨hb, 1, none⟩ = some (.map (some mb)) := c51
  have hr6 : w5.drew.heap[r8]? = some (.cells (cI7 (siteL l a)) 113 (0, 0)) := hr8
  have hh6 : w5.drew.heap[hb]? = some (.cells #[.slice q5 m d5, .map (some mb)] 96 (0, 0)) := hh5
  have hown6 : Own eI w5.drew base 3 q5 d5 (oI o) := own_below hown5 ((Below.refl _ w5).drew)
  have hz6 : w5.drew.heap.size = w5.heap.size := rfl
  generalize w5.drew = w6 at *
  clear hHeld hlk hld hX5 hB5 c50 c51 hr8 hh5 hown5 hfz5
  have hq0 := HMM.out
  have hq1 : (m : Int) - 1 = (m1 : Int) := by omega
  have hm3 : m1 ≤ 1 := by omega
  have hq2 : (m1 : Int) < (m : Int) := by omega
  have hcap := own_cap hown6
  rw [oI_len, HM.out] at hcap
  have hq3 : (m1 : Int) ≤ (d5 : Int) := by omega
  have hq4 : m1 ≤ d5 := by omega
  clear hq0
  rcases own_q hown6 with rfl | ⟨b, rfl⟩
  · obtain ⟨b, f, e, _⟩ := (own_rd hown6).num m1 (by rw [oI_len, HM.out]; have := HMM.out; omega)
    cases e
  obtain ⟨b', f, e, hbz, f0⟩ := (own_rd hown6).num m1 (by rw [oI_len, HM.out]; have := HMM.out; omega)
  cases e
  have hx : (oI o)[m1]'(by rw [oI_len, HM.out]; have := HMM.out; omega) = (k : Int) := by
    have e : oI o = oI o1 ++ [(k : Int)] := by rw [HK.out, oI_snoc]
    simp only [e]
    rw [List.getElem_append_right (by rw [oI_len, HM1.out]; exact Nat.le_refl _)]
    simp [oI_len, HM1.out]
  rw [hx] at f0
  clear hx
  rw [Nat.zero_add] at f0
  have hownT : Own eI w6 base 3 (some ⟨b, 0, none⟩) d5 (oI o1) := by
    have h := own_take hown6 (by rw [oI_len, HM.out]; have := HMM.out; omega) m1 (by rw [oI_len, HM.out]; have := HMM.out; omega)
    have e : (oI o).take m1 = oI o1 := by
      rw [HK.out, oI_snoc, List.take_append_of_le_length (by rw [oI_len, HM1.out]; exact Nat.le_refl _), List.take_of_length_le (by rw [oI_len, HM1.out]; exact Nat.le_refl _)]
    rwa [e] at h
  go_wp2
  have hz8' : r8 < w6.heap.size := by omega
  have hnr : ¬ r8 = mb := by omega
  have hmp : IsMp w6 mb (ents l o1 ++ [(siteL l a, (k : Int))]) := by rw [← HE.out]; exact hX6.mp
  have hld : ∀ w', Kp mb w6 w' → (loadVar 113 ⟨r8, 0, none⟩).run Try.prog w' = .ok (.agg (cI7 (siteL l a))) w' := fun w' hb' => run_loadVar_row w' r8 113 113 _ (0, 0) _ ((hb'.block r8 hz8' (by intro e; cases e; exact hnr rfl)).trans hr6) Try.underlying113 rfl (by rw [cI_size7, hsl]; exact info81)
  refine wp_region_held_drew (S := fun w' => Kp mb w6 w') (by kernel_rfl) (Kp.refl _ _).drew (fun hHeld => ?_)
  refine wpAnyH_take (i := 0) (oi := _) (v := ?_) rfl (by kernel_rfl) (by kernel_rfl) (by kernel_rfl) (fun _ _ _ h => h) (Or.inl ⟨by rfl, ?_⟩) hHeld ?_
  rotate_left
  · intro w' hSw
    (go_simp <;> with_reducible rfl)
  try simp only [Act.put, List.getElem_toArray, List.getElem_cons_zero, List.setIfInBounds_toArray, List.set_cons_zero, List.set_cons_succ]
  refine wpAnyH_take (i := 1) (oi := _) (v := ?_) rfl (by kernel_rfl) (by kernel_rfl) (by kernel_rfl) (fun _ _ _ h => h) (Or.inl ⟨by rfl, ?_⟩) hHeld ?_
  rotate_left
  · intro w' hSw
    (go_simp <;> with_reducible rfl)
  try simp only [Act.put, List.getElem_toArray, List.getElem_cons_succ, List.getElem_cons_zero, List.setIfInBounds_toArray, List.set_cons_zero, List.set_cons_succ]
  refine wpAnyH_take (i := 2) (oi := _) (v := ?_) rfl (by kernel_rfl) (by kernel_rfl) (by kernel_rfl) (fun _ _ _ h => h) (Or.inl ⟨by rfl, ?_⟩) hHeld ?_
  rotate_left
  · intro w' hSw
    (go_simp <;> with_reducible rfl)
  try simp only [Act.put, List.getElem_toArray, List.getElem_cons_succ, List.getElem_cons_zero, List.setIfInBounds_toArray, List.set_cons_zero, List.set_cons_succ]
  refine wpAnyH_take (i := 3) (oi := _) (v := ?_) rfl (by kernel_rfl) (by kernel_rfl) (by kernel_rfl) (fun _ _ _ h => h) (Or.inl ⟨by rfl, ?_⟩) hHeld ?_
  rotate_left
  · intro w' hSw
    have f3 := ((kcell hSw).1 hb 1 (by omega) hne5).trans c61
    (go_simp <;> with_reducible rfl)
  try simp only [Act.put, List.getElem_toArray, List.getElem_cons_succ, List.getElem_cons_zero, List.setIfInBounds_toArray, List.set_cons_zero, List.set_cons_succ]
  refine wpAnyH_take (i := 4) (oi := _) (v := .agg (cI7 (siteL l a))) rfl (by kernel_rfl) (by kernel_rfl) (by kernel_rfl) (fun _ _ _ h => h) (Or.inl ⟨by rfl, fun w' hSw => load_yields7 113 (.tmp 8) rfl r8 rfl (hld w' hSw)⟩) hHeld ?_
  try simp only [Act.put, List.getElem_toArray, List.getElem_cons_succ, List.getElem_cons_zero, List.setIfInBounds_toArray, List.set_cons_zero, List.set_cons_succ]
  refine wpAnyH_ready (rs := [5]) (by kernel_rfl) (by simp) ?_
  refine AllReadyH.cons (o := _) rfl (fun K hK => ?_) AllReadyH.nil
  refine step_del rfl (.tmp 46) (.tmp 47) rfl mb (ents l o1) rfl (siteL l a) (k : Int) (hmp.below ((Below.refl _ _).drew)) rfl hen ?_
  intro w7 hm7 hk7
  have hk7' : Kp mb w6 w7 := (Kp.refl _ _).drew.trans hk7
  refine hK.out _ _ hk7' (fun hHeld => ?_)
  clear hK K
  refine wpAnyH_done (by kernel_rfl) ?_ _
  have hX7 := Hx.kp hX6 hk7' hm7
  have hown7 : Own eI w7 base 3 (some ⟨b, 0, none⟩) d5 (oI o1) := World.ownsRow.kept hownT hk7' (.inr (ownBlock_ne (own_q hownT) (own_nm hownT hX6.mp)))
  have c70 := ((kcell hk7').1 hb 0 (by omega) hne5).trans c60
  have f70 := (kcell hk7').2 hb 0 (by omega) hne5
  rw [frozen_of_row _ _ _ _ _ hh6] at f70
  have hXf := Hx.row hX7 rfl rfl HM1.out hown7
  have hB7 : Below base w w7 := (hB6.mono hbase).trans (hk7'.below hb2 (by omega))
  clear hX7 hX6 hmp hen hld hHeld hk7 hown6 hown7 hownT hm7 hk7'
  go_wp2
  go_ret2
  exact ⟨rfl, hXf, hB7.setCell hb1 _⟩
end Go.Proofs.Ytonholadabebbaa

namespace Go.Proofs.Ytonholadabebbaa
open Go.ChangeShapes Go.WideShapes Go.ChangeAt Go.RowKit
attribute [local go_sem ↓] Go.wp_at_zero Go.wp_at_succ

theorem run_step {l : List In} {k : Nat} {o : List Nat} (h : runO l k = some o) : runO l (k + 1) = stepO l k o := by
  show (runO l k).bind _ = _
  rw [h]
  rfl
theorem okP_no {l : List In} {k : Nat} (hk : k ≤ l.length) (h : runO l k = none) : okP l = false := by
  unfold okP
  rw [runO_none h _ hk]
  rfl
theorem site_eq {l : List In} {k a : Nat} : siteL l k = siteL l a ↔ (gt l k).2.1 = (gt l a).2.1 ∧ scL l k = scL l a := by simp [siteL]
theorem out_other {l : List In} {k : Nat} (h : (gt l k).1 ≠ 10) : outO l (k + 1) = outO l k := by
  show (if (gt l k).1 = 10 then _ else _) = _
  rw [if_neg h]
theorem out_un {l : List In} {k j : Nat} {o : List Nat} (h : (gt l k).1 = 10) (hr : runO l k = some o) (hl : o.getLast? = some j) : outO l (k + 1) = (outO l k).set j k := by
  show (if (gt l k).1 = 10 then (match (runO l k).bind (·.getLast?) with | some k' => (outO l k).set k' (k : Int) | none => outO l k) else outO l k) = _
  rw [if_pos h, hr]
  simp only [Option.bind_some, hl]
theorem step_lock {l : List In} {k : Nat} {o : List Nat} (h : (gt l k).1 = 9) : stepO l k o = if (o.any (sameA l k) || decide (2 ≤ o.length)) = true then none else some (o ++ [k]) := by
  unfold stepO
  rw [if_pos h]
  rfl
theorem step_un {l : List In} {k j : Nat} {o1 : List Nat} (h : (gt l k).1 = 10) : stepO l k (o1 ++ [j]) = if siteL l j = siteL l k then some o1 else none := by
  unfold stepO
  rw [if_neg (by omega), if_pos h]
  simp only [List.getLast?_concat, List.dropLast_concat]
  by_cases hs : siteL l j = siteL l k
  · rw [if_pos hs, if_pos (site_eq.1 hs)]
  · rw [if_neg hs, if_neg (fun e => hs (site_eq.2 e))]
theorem step_un0 {l : List In} {k : Nat} (h : (gt l k).1 = 10) : stepO l k [] = none := by
  unfold stepO
  rw [if_neg (by omega), if_pos h]
  rfl
theorem step_other {l : List In} {k : Nat} {o : List Nat} (h : (gt l k).1 ≠ 9) (h' : (gt l k).1 ≠ 10) : stepO l k o = some o := by
  unfold stepO
  rw [if_neg h, if_neg h']

theorem own_under {w w' : World} {B base : Nat} {p : Option Addr} {c : Nat} {l : List Int} (h : Own eI w base 3 p c l) (hb : Below B w w') (hg : ∀ g, p = some ⟨g, 0, none⟩ → g < B) : Own eI w' base 3 p c l := by
  refine ⟨h.1, ?_⟩
  rcases h.2 with hn | ⟨g, cap, cur, h1, h2, h3, h4⟩
  · exact .inl hn
  · have h1' := h1
    simp only [Value.slice.injEq] at h1'
    exact .inr ⟨g, cap, cur, h1, h2, (hb.block g (hg g h1'.1)).trans h3, h4⟩
theorem own_setI {w : World} {base : Nat} {p : Option Addr} {c : Nat} {l : List Int} (h : Own eI w base 3 p c l) (k : Nat) (hk : k < l.length) :
    ∃ b, p = some ⟨b, 0, none⟩ ∧ base ≤ b ∧ b < w.heap.size ∧ w.frozen? ⟨b, k, none⟩ = false ∧ (∃ u, w.cell? ⟨b, k, none⟩ = some u) ∧ ∀ v, Own eI (w.setCell ⟨b, k, none⟩ (.int .i64 v)) base 3 p c (l.set k v) := by
  have hc := (own_rd h).num k hk
  rcases h.2 with ⟨h1, h2⟩ | ⟨g, cap, cur, h1, h2, h3, h4, h5, h6, h7⟩
  · simp only [Value.slice.injEq] at h1
    omega
  · simp only [Value.slice.injEq, true_and] at h1
    obtain ⟨rfl, rfl⟩ := h1
    obtain ⟨b', o', e', _, hcell⟩ := hc
    cases e'
    refine ⟨g, rfl, h2, (Array.getElem?_eq_some_iff.1 h3).1, by simp [World.frozen?, h3], ⟨_, by rw [Nat.zero_add] at hcell; exact hcell⟩, fun v => ?_⟩
    refine ⟨fl_length eI _, .inr ⟨g, c, cur.setIfInBounds k (.int .i64 v), by simp, h2, ?_, by simpa using h4, h5, by simpa using h6, ?_⟩⟩
    · rw [setCell_eq_setRow w g k _ _ _ _ h3]
      exact setRow_heap w g _ _ _ _ h3
    · have e1 : (fl eI (l.set k v)) = (fl eI l).set k (.int .i64 v) := by rw [flI, flI, List.map_set]
      rw [e1, ← h7, Array.toList_setIfInBounds, List.length_set, List.take_set]
theorem Hx.low {w : World} {base hb mb : Nat} {o : List Nat} {m : List En} (h : Hx w base hb mb o m) {a : Addr} (ha : a.block < base) (u : Value) : Hx (w.setCell a u) base hb mb o m := by
  obtain ⟨⟨q, d, h1, h2⟩, h3, h4, h5⟩ := h
  refine ⟨⟨q, d, (heap_setCell_other _ _ _ _ (by omega)).trans h1, ?_⟩, h3.of_block (heap_setCell_other _ _ _ _ (by omega)), h4, h5⟩
  refine ownsRow_setCell_other h2 ?_ u
  intro e
  have := World.ownsRow.lt h2 _ e
  omega
theorem last_cases (o : List Nat) : o = [] ∨ ∃ o1 k, o = o1 ++ [k] := by
  rcases List.eq_nil_or_concat o with h | ⟨a, b, h⟩
  · exact .inl h
  · exact .inr ⟨a, b, by simpa using h⟩
theorem made_zero (n : Nat) : (madeCells (Value.int .i64 0).cells (n * 1)).toList = fl eI (List.replicate n 0) := by
  rw [flI]
  apply List.ext_getElem (by simp [size_madeCells])
  intro i h1 h2
  simp [madeCells, Value.cells, Nat.mod_one]

/-- what Pairs tells -/
def PairsTold (l : List In) (n base : Nat) (e : Ending) (w' : World) : Prop := ∃ q d m k, e = .returned (.tuple #[.slice q m d, .bool k]) ∧ okP l = k ∧ (k = true → m = n ∧ Own eI w' base 3 q d (pairL l))
set_option maxRecDepth 100000 in
set_option maxHeartbeats 8000000 in
theorem pairs_any (p : Option Addr) (c : Nat) (l : List In) (w : World) (hr : Rd eIn w p c l) (n : Nat) (hN : l.length = n) (hn : n ≤ 24) (hal : l.all mayB = true) (h1 : 1 ≤ n) :
    Calls Try.prog 39 #[.slice p n c] w fun e w' => PairsTold l n w.heap.size e w' ∧ Below w.heap.size w w' := by
  obtain ⟨i0, hi0, hz0, hz1, hz2⟩ := info_parts Try.info3
  have HN : Hid (l.length = n) := hN
  obtain ⟨bl, ol, hpe, hbl, _⟩ := hr.pos (by omega)
  have hpb0 : ∀ b o, p = some ⟨b, o, none⟩ → l ≠ [] → b < w.heap.size := by rintro b o rfl _; cases hpe; exact hbl
  clear hN hpe
  have hmm := run_makeMap (P := Try.prog) 94
  go_enter Try.func39, Try.ntmps39
  go_wp2_with (first
    | (at_make; refine wpList_make_full _ rfl _ _ 73 rfl w.heap.size 3 i0 _ 1 Try.underlying73 hi0 hz0 hz1 .i64 .i64 _ _ n rfl rfl rfl rfl (by rw [hz2]; omega) (by unfold maxLen; omega) (Nat.le_refl _) ?_; intro w0 hown0 hgrow0))
  have hB0 : Below w.heap.size w w0 := (Below.refl _ _).grown hgrow0 (Nat.le_refl _) (fun k hk => by cases hk)
  have hz00 := hB0.size
  have hownU : Own eI w0 w.heap.size 3 (some ⟨w.heap.size, 0, none⟩) n (List.replicate n 0) := by
    unfold Own
    rw [List.length_replicate, ← made_zero]
    exact hown0
  have hUlt := (World.ownsRow.lt hown0 w.heap.size rfl).2
  have hX0 : Hx ((w0.alloc (Obj.map #[] 0)).alloc (Obj.cells #[Value.slice none 0 0, Value.map (some w0.heap.size)] 96)) w0.heap.size (w0.heap.size + 1) w0.heap.size [] (ents l []) := by
    refine ⟨⟨none, 0, heap_alloc2_new _ _ _, own_nil _ _ _⟩, ⟨#[], 0, heap_alloc2_old _ _ _, rfl, by simp [ents]⟩, by omega, Nat.le_refl _⟩
  have hB1 : Below w0.heap.size w0 ((w0.alloc (Obj.map #[] 0)).alloc (Obj.cells #[Value.slice none 0 0, Value.map (some w0.heap.size)] 96)) := (by repeat (first | exact Below.refl _ _ | refine Below.alloc ?_ (by simp <;> omega) _ | refine Below.setCell ?_ (by simp <;> omega) _))
  have hownU1 := own_below hownU hB1
  have hBw1 : Below w.heap.size w ((w0.alloc (Obj.map #[] 0)).alloc (Obj.cells #[Value.slice none 0 0, Value.map (some w0.heap.size)] 96)) := bel_call hB0 (Nat.le_refl _) hB1
  generalize ((w0.alloc (Obj.map #[] 0)).alloc (Obj.cells #[Value.slice none 0 0, Value.map (some w0.heap.size)] 96)) = w1 at *
  have hpb1 : ∀ b o, p = some ⟨b, o, none⟩ → l ≠ [] → b < w0.heap.size := fun b o e hne => Nat.lt_of_lt_of_le (hpb0 b o e hne) hz00
  clear hown0 hgrow0 hownU hi0 hz0 hz1 hz2 hB1 hB0
  generalize w0.heap.size = base at *
  generalize base + 1 = hb at *
  generalize hU : w.heap.size = ub at *
  have HU : Hid (w.heap.size = ub) := hU
  clear hU
  go_loopw [17] (fun i wr => ∃ (k : Nat) (o : List Nat), k ≤ n ∧ i = .int .i64 k ∧ Hid (runO l k = some o) ∧ Hx wr base hb base o (ents l o) ∧ Own eI wr ub 3 (some ⟨ub, 0, none⟩) n (outO l k) ∧ Below ub w wr) (fun i _ => n - (intOf i).toNat)
  case atStart => exact ⟨0, [], Nat.zero_le _, rfl, rfl, hX0, by show Own _ _ _ _ _ _ (List.replicate l.length 0); rw [HN.out]; exact hownU1, hBw1⟩
  case round =>
    obtain ⟨k, o, hk, rfl, HR, hX, hown, hBw⟩ := hrel
    clear hX0 hownU1 hBw1
    have hHd := runO_held l k o HR.out
    have hrw := rd_under hr hBw hpb0
    by_cases hlt : k < n
    · have hkl : k < l.length := by rw [HN.out]; exact hlt
      have hol : ∀ j ∈ o, j < n := fun j hj => Nat.lt_trans (hHd.lt j hj) hlt
      obtain ⟨b, f, rfl, hbz, f0, f1, f2, f3⟩ := hrw.inst k hkl
      have HG : Hid (gt l k = l[k]) := gt_eq hkl
      generalize l[k] = x at *
      obtain ⟨xo, xa, xb, xn⟩ := x
      simp only at f0 f1 f2 f3
      have hAl : Below wr.heap.size wr (wr.alloc (Obj.cells #[.int .i64 xo, .int .i64 xa, .int .i64 xb, .int .i64 xn] 42)) := (by repeat (first | exact Below.refl _ _ | refine Below.alloc ?_ (by simp <;> omega) _ | refine Below.setCell ?_ (by simp <;> omega) _))
      have hXa := hX.below hAl
      have hra := hrw.below hAl
      have hBa := bel_call hBw (by rw [HU.out]; exact Nat.le_refl _) hAl
      have hza := hBa.size
      have hlU : (outO l k).length = n := by rw [outO_len, HN.out]
      by_cases h9 : xo = 9
      · subst h9
        have H9 : Hid ((gt l k).1 = 9) := by show _ = _; rw [HG.out]
        by_cases hc : (o.any (sameA l k) || decide (2 ≤ o.length)) = true
        · have HF : Hid (okP l = false) := okP_no (k := k + 1) (by rw [HN.out]; omega) (by rw [run_step HR.out, step_lock H9.out, if_pos hc])
          have hlk := lock_no _ c l _ hra n HN.out hn k hlt base hb base o hol hXa hHd.le hc
          clear hc
          go_wp2_with (go_at_call 54; refine hlk.mono ?_; rintro e w4 ⟨rfl, hb4⟩)
          go_ret2
          exact ⟨⟨none, 0, 0, false, rfl, HF.out, fun h => by cases h⟩, by rw [HU.out]; exact hBa.trans (hb4.mono (by omega))⟩
        · have HS : Hid (runO l (k + 1) = some (o ++ [k])) := by show _ = _; rw [run_step HR.out, step_lock H9.out, if_neg hc]
          have hc' : (o.any (sameA l k) || decide (2 ≤ o.length)) = false := by simpa using hc
          rw [Bool.or_eq_false_iff] at hc'
          have hle : o.length ≤ 1 := by have := hc'.2; simp at this; omega
          have hlk := lock_yes _ c l _ hra n HN.out hn hal k hlt base hb base hpb1 o hol hXa hle hc'.1
          have HO : Hid (outO l (k + 1) = outO l k) := out_other (by rw [H9.out]; decide)
          clear hc hc'
          go_wp2_with (go_at_call 54; refine hlk.mono ?_; rintro e w4 ⟨rfl, hX4, hb4⟩)
          go_roundw
          case rel => exact ⟨k + 1, o ++ [k], by omega, by go_num, HS, hX4, by rw [HO.out]; exact own_under (own_below hown hAl) hb4 (fun g e => by cases e; exact hUlt), hBa.trans (hb4.mono (by omega))⟩
          case measure => simp [intOf]; omega
      · have d9 : (xo == 9) = false := by simpa using h9
        have H9 : Hid ((gt l k).1 ≠ 9) := by show _ ≠ _; rw [HG.out]; exact h9
        by_cases h10 : xo = 10
        · subst h10
          have H10 : Hid ((gt l k).1 = 10) := by show _ = _; rw [HG.out]
          clear d9 h9
          rcases last_cases o with rfl | ⟨o1, j, rfl⟩
          · have HF : Hid (okP l = false) := okP_no (k := k + 1) (by rw [HN.out]; omega) (by rw [run_step HR.out, step_un0 H10.out])
            have hlk := unlock_none _ c l _ hra n HN.out hn hal k hlt base hb base [] hXa rfl
            go_wp2_with (go_at_call 55; refine hlk.mono ?_; rintro e w4 ⟨rfl, hb4⟩)
            go_ret2
            exact ⟨⟨none, 0, 0, false, rfl, HF.out, fun h => by cases h⟩, by rw [HU.out]; exact hBa.trans (hb4.mono (by omega))⟩
          · by_cases hs : siteL l j = siteL l k
            · have HS : Hid (runO l (k + 1) = some o1) := by show _ = _; rw [run_step HR.out, step_un H10.out, if_pos hs]
              have HO : Hid (outO l (k + 1) = (outO l k).set j k) := out_un H10.out HR.out (by simp)
              have hjn : j < n := hol j (by simp)
              have hd1 : ∀ i ∈ o1, (gt l i).2.1 ≠ (gt l j).2.1 := by
                intro i hi
                have hle := hHd.le
                rw [List.length_append] at hle
                match o1, hi with
                | [y], hi =>
                  simp at hi
                  subst hi
                  exact (hHd.ne i j rfl).1
                | y :: z :: r, _ => simp at hle
              have hlk := unlock_yes _ c l _ hra n HN.out hn hal k hlt base hb base (o1 ++ [j]) hXa j o1 rfl hHd.le hs hd1
              clear hs hd1
              have hownA := own_below hown hAl
              go_wp2_with (go_at_call 55; refine hlk.mono ?_; rintro e w4 ⟨rfl, hX4, hb4⟩
                           have hown4 := own_under hownA hb4 (fun g e => by cases e; exact hUlt)
                           obtain ⟨b', e', hb1', hb2', hfz', ⟨u, hu⟩, hset⟩ := own_setI hown4 j (by rw [hlU]; exact hjn)
                           cases e'
                           have hz4 := hb4.size)
              go_roundw
              case rel => exact ⟨k + 1, o1, by omega, by go_num, HS, hX4.low hUlt _, by rw [HO.out]; exact hset _, (hBa.trans (hb4.mono (by omega))).setCell (Nat.le_refl _) _⟩
              case measure => simp [intOf]; omega
            · have HF : Hid (okP l = false) := okP_no (k := k + 1) (by rw [HN.out]; omega) (by rw [run_step HR.out, step_un H10.out, if_neg hs])
              cases hlo : lookE (ents l (o1 ++ [j])) (siteL l k) with
              | none =>
                have hlk := unlock_none _ c l _ hra n HN.out hn hal k hlt base hb base (o1 ++ [j]) hXa hlo
                clear hs hlo
                go_wp2_with (go_at_call 55; refine hlk.mono ?_; rintro e w4 ⟨rfl, hb4⟩)
                go_ret2
                exact ⟨⟨none, 0, 0, false, rfl, HF.out, fun h => by cases h⟩, by rw [HU.out]; exact hBa.trans (hb4.mono (by omega))⟩
              | some v =>
                have hv : ¬ (j : Int) = v := by
                  rintro rfl
                  obtain ⟨x, hx, e1, e2⟩ := lookE_some hlo
                  simp only [ents, List.mem_map] at hx
                  obtain ⟨i, hi, rfl⟩ := hx
                  simp only at e1 e2
                  have : i = j := by omega
                  subst this
                  exact hs e1
                have hlk := unlock_other _ c l _ hra n HN.out hn hal k hlt base hb base (o1 ++ [j]) hXa v hlo j o1 rfl hHd.le hv
                clear hs hlo hv
                go_wp2_with (go_at_call 55; refine hlk.mono ?_; rintro e w4 ⟨rfl, hb4⟩)
                go_ret2
                exact ⟨⟨none, 0, 0, false, rfl, HF.out, fun h => by cases h⟩, by rw [HU.out]; exact hBa.trans (hb4.mono (by omega))⟩
        · have d10 : (xo == 10) = false := by simpa using h10
          have H10 : Hid ((gt l k).1 ≠ 10) := by show _ ≠ _; rw [HG.out]; exact h10
          have HS : Hid (runO l (k + 1) = some o) := by show _ = _; rw [run_step HR.out, step_other H9.out H10.out]
          have HO : Hid (outO l (k + 1) = outO l k) := out_other H10.out
          go_wp2
          go_roundw
          case rel => exact ⟨k + 1, o, by omega, by go_num, HS, hXa, by rw [HO.out]; exact own_below hown hAl, hBa⟩
          case measure => simp [intOf]; omega
    · obtain rfl : k = n := by omega
      obtain ⟨q5, d5, hh5, hown5, c50, c51, hhb5, hmb5, hne5, hfz5⟩ := hX.facts
      obtain ⟨m, hM⟩ : ∃ m, o.length = m := ⟨_, rfl⟩
      rw [hM] at hh5 c50
      by_cases hm : 0 < m
      · have d : decide ((0 : Int) < (m : Int)) = true := by simpa using hm
        have HF : Hid (okP l = false) := by
          show _ = _
          unfold okP
          rw [HN.out, HR.out]
          exact decide_eq_false (by intro e; simp at e; subst e; simp at hM; omega)
        clear hM
        go_wp2
        go_ret2
        exact ⟨⟨none, 0, 0, false, rfl, HF.out, fun h => by cases h⟩, by rw [HU.out]; exact hBw⟩
      · have d : decide ((0 : Int) < (m : Int)) = false := by simpa using hm
        have HF : Hid (okP l = true) := by
          show _ = _
          unfold okP
          rw [HN.out, HR.out]
          have : o = [] := List.eq_nil_of_length_eq_zero (by omega)
          exact decide_eq_true (by rw [this])
        clear hM
        go_wp2
        go_ret2
        exact ⟨⟨_, _, k, true, rfl, HF.out, fun _ => ⟨rfl, by unfold pairL; rw [HN.out, HU.out]; exact hown⟩⟩, by rw [HU.out]; exact hBw⟩
end Go.Proofs.Ytonholadabebbaa

namespace Go.Proofs.Ytonholadabebbaa
open Go.ChangeShapes Go.WideShapes Go.ChangeAt Go.RowKit
attribute [local go_sem ↓] Go.wp_at_zero Go.wp_at_succ

set_option maxHeartbeats 2000000 in
set_option maxRecDepth 20000 in
theorem shape_any (p : Option Addr) (c : Nat) (l : List In) (w : World) (hr : Rd eIn w p c l) (n : Nat) (hN : l.length = n) (hl : n ≤ 1000) :
    Calls Try.prog 38 #[.slice p n c] w fun e w' => e = .returned (.bool (okB l)) ∧ Below w.heap.size w w' := by
  have h1 := isRow_any p c l w hr n hN hl
  by_cases r1 : rowB l = true
  · rw [r1] at h1
    obtain ⟨k1, k2, _⟩ := row_iff.1 r1
    rw [hN] at k1 k2
    have hal := row_all r1
    obtain ⟨m, hm⟩ : ∃ m, n = m + 1 := ⟨n - 1, by omega⟩
    have h2 := fun w' hb => isNested_any p c l w' (hr.below hb) n m hN hm hl hal
    by_cases r2 : nestB l = true
    · rw [r2] at h2
      have h3 := fun w' hb => isShallow_any p c l w' (hr.below hb) n hN k2 hal
      by_cases r3 : shalB l = true
      · rw [r3] at h3
        have h4 := fun w' hb => pairs_any p c l w' (hr.below hb) n hN k2 hal k1
        by_cases r4 : okP l = true
        · have h5 := fun (w' : World) (hb : Below w.heap.size w w') (q : Option Addr) (d : Nat) hq => marks_any p c l w' (hr.below hb) n hN k2 hal q d hq
          have HF : Hid (okB l = markB l) := by show _ = _; unfold okB; rw [r1, r2, r3, r4]; rfl
          rw [HF.out]
          generalize markB l = M at *
          have R4 : Hid (okP l = true) := r4
          clear hm hN r4
          go_enter Try.func38, Try.ntmps38
          go_wp2_with (first
            | (go_at_call 50; refine h1.mono ?_; rintro e w1 ⟨rfl, b1⟩)
            | (go_at_call 51; refine (h2 _ b1).mono ?_; rintro e w2 ⟨rfl, b2⟩; have B2 := bel_call b1 (Nat.le_refl _) b2)
            | (go_at_call 52; refine (h3 _ B2).mono ?_; rintro e w3 ⟨rfl, b3⟩; have B3 := bel_call B2 (Nat.le_refl _) b3)
            | (go_at_call 39; refine (h4 _ B3).mono ?_; rintro e w4 ⟨⟨q, d, m4, k4, rfl, e4, f4⟩, b4⟩; rw [R4.out] at e4; subst e4; obtain ⟨rfl, o4⟩ := f4 rfl; have B4 := bel_call B3 (Nat.le_refl _) b4)
            | (go_at_call 53; refine (h5 _ B4 q d (own_rd o4)).mono ?_; rintro e w5 ⟨rfl, b5⟩; have B5 := bel_call B4 (Nat.le_refl _) b5))
          go_ret
          exact ⟨rfl, B5⟩
        · have r4' : okP l = false := by simpa using r4
          have HF : Hid (okB l = false) := by show _ = _; unfold okB; rw [r1, r2, r3, r4']; rfl
          rw [HF.out]
          have R4 : Hid (okP l = false) := r4'
          clear hm hN r4 r4'
          go_enter Try.func38, Try.ntmps38
          go_wp2_with (first
            | (go_at_call 50; refine h1.mono ?_; rintro e w1 ⟨rfl, b1⟩)
            | (go_at_call 51; refine (h2 _ b1).mono ?_; rintro e w2 ⟨rfl, b2⟩; have B2 := bel_call b1 (Nat.le_refl _) b2)
            | (go_at_call 52; refine (h3 _ B2).mono ?_; rintro e w3 ⟨rfl, b3⟩; have B3 := bel_call B2 (Nat.le_refl _) b3)
            | (go_at_call 39; refine (h4 _ B3).mono ?_; rintro e w4 ⟨⟨q, d, m4, k4, rfl, e4, f4⟩, b4⟩; rw [R4.out] at e4; subst e4; have B4 := bel_call B3 (Nat.le_refl _) b4; clear f4))
          go_ret
          exact ⟨rfl, B4⟩
      · have r3' : shalB l = false := by simpa using r3
        have HF : Hid (okB l = false) := by show _ = _; unfold okB; rw [r1, r2, r3']; rfl
        rw [HF.out]
        rw [r3'] at h3
        clear hm hN
        go_enter Try.func38, Try.ntmps38
        go_wp2_with (first
          | (go_at_call 50; refine h1.mono ?_; rintro e w1 ⟨rfl, b1⟩)
          | (go_at_call 51; refine (h2 _ b1).mono ?_; rintro e w2 ⟨rfl, b2⟩; have B2 := bel_call b1 (Nat.le_refl _) b2)
          | (go_at_call 52; refine (h3 _ B2).mono ?_; rintro e w3 ⟨rfl, b3⟩; have B3 := bel_call B2 (Nat.le_refl _) b3))
        go_ret
        exact ⟨rfl, B3⟩
    · have r2' : nestB l = false := by simpa using r2
      have HF : Hid (okB l = false) := by show _ = _; unfold okB; rw [r1, r2']; rfl
      rw [HF.out]
      rw [r2'] at h2
      clear hm hN
      go_enter Try.func38, Try.ntmps38
      go_wp2_with (first
        | (go_at_call 50; refine h1.mono ?_; rintro e w1 ⟨rfl, b1⟩)
        | (go_at_call 51; refine (h2 _ b1).mono ?_; rintro e w2 ⟨rfl, b2⟩; have B2 := bel_call b1 (Nat.le_refl _) b2))
      go_ret
      exact ⟨rfl, B2⟩
  · have r1' : rowB l = false := by simpa using r1
    have HF : Hid (okB l = false) := by show _ = _; unfold okB; rw [r1']; rfl
    rw [HF.out]
    rw [r1'] at h1
    clear hN
    go_enter Try.func38, Try.ntmps38
    go_wp2_with (go_at_call 50; refine h1.mono ?_; rintro e w1 ⟨rfl, b1⟩)
    go_ret
    exact ⟨rfl, b1⟩

theorem shape_c (p : Option Addr) (c : Nat) (l : List In) (w : World) (n : Nat) (k : Bool) (hN : l.length = n) (hk : okB l = k) (hr : Rd eIn w p c l) (hl : n ≤ 1000) :
    Calls Try.prog 38 #[.slice p n c] w fun e w' => e = .returned (.bool k) ∧ Below w.heap.size w w' := by
  subst hk
  exact shape_any p c l w hr n hN hl
theorem pairs_yes (p : Option Addr) (c : Nat) (l : List In) (w : World) (n : Nat) (u : List Int) (hN : l.length = n) (hk : okP l = true) (hu : pairL l = u) (hr : Rd eIn w p c l) (hn : n ≤ 24) (hal : l.all mayB = true) (h1 : 1 ≤ n) :
    Calls Try.prog 39 #[.slice p n c] w fun e w' => ∃ q d, e = .returned (.tuple #[.slice q n d, .bool true]) ∧ Own eI w' w.heap.size 3 q d u ∧ Below w.heap.size w w' := by
  subst hu
  refine (pairs_any p c l w hr n hN hn hal h1).mono ?_
  rintro e w' ⟨⟨q, d, m, k, rfl, e4, f4⟩, hb⟩
  rw [hk] at e4
  subst e4
  obtain ⟨rfl, ho⟩ := f4 rfl
  exact ⟨q, d, rfl, ho, hb⟩
theorem pairs_no (p : Option Addr) (c : Nat) (l : List In) (w : World) (n : Nat) (hN : l.length = n) (hk : okP l = false) (hr : Rd eIn w p c l) (hn : n ≤ 24) (hal : l.all mayB = true) (h1 : 1 ≤ n) :
    Calls Try.prog 39 #[.slice p n c] w fun e w' => ∃ q m d, e = .returned (.tuple #[.slice q m d, .bool false]) ∧ Below w.heap.size w w' := by
  refine (pairs_any p c l w hr n hN hn hal h1).mono ?_
  rintro e w' ⟨⟨q, d, m, k, rfl, e4, f4⟩, hb⟩
  rw [hk] at e4
  subst e4
  exact ⟨q, m, d, rfl, hb⟩

def bg3 : List In := [(9, 1, 0, 0), (10, 1, 0, 0), (0, 0, 0, 0)]
theorem bg3_rd {w : World} {vb : Nat} {t : TypeId} {fr : Nat × Nat} (h : w.heap[vb]? = some (.cells #[.int .i64 9, .int .i64 1, .int .i64 0, .int .i64 0, .int .i64 10, .int .i64 1, .int .i64 0, .int .i64 0, .int .i64 0, .int .i64 0, .int .i64 0, .int .i64 0] t fr)) : Rd eIn w (some ⟨vb, 0, none⟩) 3 bg3 := rd_block h 3 rfl rfl
end Go.Proofs.Ytonholadabebbaa
