/-
  Where a semaphore is locked or let go, as an array.
-/
import Derived.Test.YteikdocpncdheaaLows
import Derived.Test.YteikdocpncdheaaHand
import Derived.Laws.CopyRow
namespace Go.Proofs.Yteikdocpncdheaa
open Go.ChangeShapes Go.WideShapes Go.ChangeAt Go.RowKit
attribute [local go_sem ↓] Go.wp_at_zero Go.wp_at_succ

def siteL (l : List In) (k : Nat) : List Int := (gt l k).2.1 :: scL l k
theorem siteL_len (l : List In) (k : Nat) : (siteL l k).length = 25 := by simp [siteL, scL_len]
def xz (X : Int) : List Int := X :: List.replicate 24 0
theorem xz_len (X : Int) : (xz X).length = 25 := by simp [xz]
theorem info81 : (Try.prog.info? 100).map (·.size) = some 25 := by kernel_rfl
theorem build81 (X : Int) (w : World) : (Instr.build 100 #[(0, .int .i64 X)]).run Try.prog w = .ok (.agg (cI (xz X))) w := run_build w 100 _ _ (by kernel_rfl)
theorem wpList_build81 {ops : Array Oper} {rest : List Oper} {o : Oper} {a : Act} {w : World} {Q : Exit → Act → World → Prop} (hgd : o.guard = none) (x : Operand) (ho : o.op = .build 100 #[(0, x)]) (X : Int) (hx : a.eval x = .int .i64 X)
    (h : wpList Try.prog ops Q rest (a.put o.dst (.agg (cI (xz X)))) w) : wpList Try.prog ops Q (o :: rest) a w :=
  wpList_plain hgd fun K hK => by
    have hb := build81 X w
    unfold Oper.wp
    simp only [execOp, ho]
    simp [hx, hb, Result.andThen]
    exact hK _ _ h
theorem zero81 (w : World) : (zeroValue 100).run Try.prog w = .ok (.agg (cI (List.replicate 25 0))) w := Try.zeroValue100 w
theorem step_builtin2 {P : Program} {ops : Array Oper} {o : Oper} {a : Act} {w : World} {K : Act → World → Prop} {Q : Exit → Act → World → Prop} {G : Prop}
    (hg : o.guard = none) (d x : Operand) (dT sT : TypeId) (hop : o.op = Op.call { callee := Callee.builtin Builtin.copy, args := #[d, x], argTypes := #[dT, sT] })
    (ty : TypeId) (hty : o.type = ty) (v u : Value) (hd : a.eval d = v) (hx : a.eval x = u) {v' : Value} {w' : World} (hr : (Builtin.copy_ #[dT, sT] ty #[v, u]).run P w = .ok v' w') (hK : K (a.put o.dst v') w') :
    if Region.wanted o (yielded ops a.tmps) = true then Oper.wp P o a w K Q else G := by
  have hw : Region.wanted o (yielded ops a.tmps) = true := by simp [Region.wanted, hg]
  rw [if_pos hw]
  subst hty
  unfold Oper.wp
  simp [execOp, hop, resolve, invoke, builtin, hd, hx, hr, Result.andThen]
  exact hK

set_option maxHeartbeats 4000000 in
set_option maxRecDepth 20000 in
theorem site_any (p : Option Addr) (c : Nat) (l : List In) (w : World) (hr : Rd eIn w p c l) (n : Nat) (hN : l.length = n) (hl : n ≤ 24) (ha : l.all mayB = true) (a : Nat) (hal : a < n) :
    Calls Try.prog 56 #[.slice p n c, .int .i64 a] w fun e w' => e = .returned (.agg (cI (siteL l a))) ∧ Below w.heap.size w w' := by
  have hal' : a < l.length := by omega
  obtain ⟨b, o, rfl, hb, f0, f1, f2, f3⟩ := hr.inst a hal'
  have hsc := fun w' hb' => scope_any _ c l w' (hr.below (w' := w') hb') n hN hl ha a hal
  have HX : Hid (siteL l a = l[a].2.1 :: scL l a) := by show _ = _; rw [siteL, gt_eq hal']
  have HS : Hid ((scL l a).length = 24) := scL_len l a
  rw [HX.out]
  generalize l[a].2.1 = X at *
  generalize scL l a = S at *
  clear f0 f2 f3 hN
  go_enter Try.func56, Try.ntmps56
  go_wp2_with (first
    | (go_at_call 52; refine (hsc _ (by repeat (first | exact Below.refl _ _ | refine Below.alloc ?_ (by simp <;> omega) _ | refine Below.setCell ?_ (by simp <;> omega) _))).mono ?_; rintro e w4 ⟨rfl, hb4⟩
       have hz4 := hb4.size; simp at hz4
       have hbz : b < w4.heap.size := by omega
       have hbz1 : ¬ b = w4.heap.size := by omega
       have hB4 : Below w.heap.size w w4 := bel_call (by repeat (first | exact Below.refl _ _ | refine Below.alloc ?_ (by simp <;> omega) _ | refine Below.setCell ?_ (by simp <;> omega) _)) (Nat.le_refl _) hb4
       have f4 := (hB4.cell (p := ⟨b, o + a * 4 + 1, none⟩) hb).trans f1
       have h0 := (hb4.block w.heap.size (by simp)).trans (heap_alloc_new w _))
    | (refine wpList_build81 rfl _ rfl X rfl ?_)
    | (refine wpList_store_row rfl 94 _ _ rfl w4.heap.size (cI S) rfl rfl 94 _ (heap_alloc_new _ _) (by rw [cI_size, HS.out]; exact info75) (by rw [cI_size, HS.out]; rfl) (cI_one _) ?_; rw [World.setRow_alloc_new])
    | (refine wpList_store_row rfl 100 _ _ rfl (w4.alloc (Obj.cells (cI S) 94)).heap.size (cI (xz X)) ?hq rfl 100 (cI (List.replicate 25 0)) (heap_alloc_new _ _) (by rw [cI_size, xz_len]; exact info81) (by rw [cI_size, cI_size, xz_len]; rfl) (cI_one _) ?_; (case hq => simp [go_sem]); rw [World.setRow_alloc_new]))
  have hA : ((w4.alloc (Obj.cells (cI S) 94)).alloc (Obj.cells (cI (xz X)) 100)).heap[w4.heap.size]? = some (.cells (cI S) 94 (0, 0)) := heap_alloc2_old _ _ _
  have hB : ((w4.alloc (Obj.cells (cI S) 94)).alloc (Obj.cells (cI (xz X)) 100)).heap[w4.heap.size + 1]? = some (.cells (cI (xz X)) 100 (0, 0)) := heap_alloc2_new _ _ _
  have hC : ((w4.alloc (Obj.cells (cI S) 94)).alloc (Obj.cells (cI (xz X)) 100)).heap[w.heap.size]? = some (.cells (cI (List.replicate 25 0)) 100 (0, 0)) := by
    exact (Below.heap_alloc _ _ _ (by simp; omega)).trans ((Below.heap_alloc _ _ _ (by omega)).trans h0)
  have hBW : Below w.heap.size w ((w4.alloc (Obj.cells (cI S) 94)).alloc (Obj.cells (cI (xz X)) 100)) := (hB4.alloc (by omega) _).alloc (by simp; omega) _
  generalize ((w4.alloc (Obj.cells (cI S) 94)).alloc (Obj.cells (cI (xz X)) 100)) = W at *
  clear h0 f4 hb4 hB4 hsc
  generalize w4.heap.size = g at *
  refine wp_region_held_drew (S := fun _ => True) (by kernel_rfl) trivial (fun hHeld => ?_)
  refine wpAnyH_take (i := 0) (oi := _) (v := ?_) rfl (by kernel_rfl) (by kernel_rfl) (by kernel_rfl) (fun _ _ _ h => h) (Or.inl ⟨by rfl, ?_⟩) hHeld ?_
  rotate_left
  · intro w' hSw
    (go_simp <;> with_reducible rfl)
  try simp only [Act.put, List.getElem_toArray, List.getElem_cons_zero, List.setIfInBounds_toArray, List.set_cons_zero, List.set_cons_succ]
  refine wpAnyH_take (i := 1) (oi := _) (v := ?_) rfl (by kernel_rfl) (by kernel_rfl) (by kernel_rfl) (fun _ _ _ h => h) (Or.inl ⟨by rfl, ?_⟩) hHeld ?_
  rotate_left
  · intro w' hSw
    (go_simp <;> with_reducible rfl)
  try simp only [Act.put, List.getElem_toArray, List.getElem_cons_succ, List.getElem_cons_zero, List.setIfInBounds_toArray, List.set_cons_zero, List.set_cons_succ]
  refine wpAnyH_ready (rs := [2]) (by kernel_rfl) (by simp) ?_
  refine AllReadyH.cons (o := _) rfl (fun K hK => ?_) AllReadyH.nil
  have hcp := run_copy_row Try.prog W.drew 61 61 3 3 (g + 1) 1 24 24 ⟨g, 0, none⟩ 24 24 (cI (xz X)) 100 (S.map (Value.int .i64)) Try.underlying61 (by kernel_rfl) hB (by rw [List.length_map, HS.out]; rfl)
    (fun j v hj => by
      rw [add_plain, Nat.zero_add, cell_of_row _ _ _ _ _ _ (show W.drew.heap[g]? = _ from hA)]
      simpa [cI] using hj) (by rw [cI_size, List.length_map, HS.out, xz_len]; decide)
    (fun v hv => by
      simp at hv
      obtain ⟨x, _, rfl⟩ := hv
      rfl)
  refine step_builtin2 rfl (.tmp 16) (.tmp 17) 61 61 rfl 3 rfl (.slice (some ⟨g + 1, 1, none⟩) 24 24) (.slice (some ⟨g, 0, none⟩) 24 24) rfl rfl hcp ?_
  have eX : ((cI (xz X)).toList.take 1 ++ S.map (Value.int .i64) ++ (cI (xz X)).toList.drop (1 + (S.map (Value.int .i64)).length)).toArray = cI (X :: S) := by
    rw [List.length_map, HS.out]
    simp [cI, xz]
  rw [eX]
  have hB' := setRow_heap W.drew (g + 1) _ (cI (X :: S)) _ _ hB
  have hC' := (setRow_other W.drew (g + 1) w.heap.size (cI (X :: S)) (by omega)).trans hC
  have hBW' : Below w.heap.size w (W.drew.setRow (g + 1) (cI (X :: S))) := ⟨hBW.os, hBW.tape, hBW.output, by simpa using hBW.size, fun i hi => (setRow_other _ _ _ _ (by omega)).trans (hBW.block i hi)⟩
  generalize W.drew.setRow (g + 1) (cI (X :: S)) = W2 at *
  refine hK.out _ _ trivial (fun _ => ?_)
  refine wpAnyH_done (by kernel_rfl) ?_ _
  clear hK K hA hB hC hBW eX
  go_wp2_with (first
    | (refine wpList_load_row rfl 100 _ rfl (g + 1) rfl 100 (cI (X :: S)) (0, 0) _ hB' Try.underlying100 rfl (by rw [cI_size, List.length_cons, HS.out]; exact info81) ?_)
    | (refine wpList_store_row rfl 100 _ _ rfl (w.heap.size) (cI (X :: S)) rfl rfl 100 (cI (List.replicate 25 0)) hC' (by rw [cI_size, List.length_cons, HS.out]; exact info81) (by rw [cI_size, cI_size, List.length_cons, HS.out]; rfl) (cI_one _) ?_))
  refine bodyPost_ret (v := .agg (cI (X :: S))) (results_cell_row (fn := Try.f56) Try.results56 _ _ w.heap.size 100 (cI (X :: S)) (0, 0) _ rfl (setRow_heap _ _ _ _ _ _ hC') Try.underlying100 rfl (by rw [cI_size, List.length_cons, HS.out]; exact info81)) rfl ⟨rfl, ?_⟩
  exact ⟨hBW'.os, hBW'.tape, hBW'.output, by simpa using hBW'.size, fun i hi => (setRow_other _ _ _ _ (by omega)).trans (hBW'.block i hi)⟩
end Go.Proofs.Yteikdocpncdheaa
