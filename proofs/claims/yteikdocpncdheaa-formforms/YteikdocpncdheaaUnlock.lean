/-
  An Unlock lets its semaphore go, or tells that it may not.
-/
import Derived.Test.YteikdocpncdheaaLock
namespace Go.Proofs.Yteikdocpncdheaa
open Go.ChangeShapes Go.WideShapes Go.ChangeAt Go.RowKit
attribute [local go_sem ↓] Go.wp_at_zero Go.wp_at_succ

theorem lookE_some {k : List Int} {v : Int} : ∀ {m : List En}, lookE m k = some v → ∃ x ∈ m, x.1 = k ∧ x.2 = v
  | x :: r, h => by
    unfold lookE at h
    split at h
    · rename_i e
      simp only [Option.some.injEq] at h
      exact ⟨x, by simp, e.symm, h⟩
    · obtain ⟨y, hy, h1, h2⟩ := lookE_some h
      exact ⟨y, by simp [hy], h1, h2⟩
theorem load_yields {a : Act} {w : World} {o : Oper} {P : Program} (t : TypeId) (x : Operand) (ho : o.op = .load t x) (g : Nat) (hx : a.eval x = .pointer (some ⟨g, 0, none⟩)) {v : Value} (h : (loadVar t ⟨g, 0, none⟩).run P w = .ok v w) : (execOp a.eval o).run P w = .ok (.value v) w := by
  unfold execOp
  simp only [ho, hx, Instr.loadAt, Instr.sureAddr, Sem.run_bind, Sem.run_pure, Result.andThen_ok, h]
set_option maxHeartbeats 4000000 in
set_option maxRecDepth 20000 in
theorem unlock_none (p : Option Addr) (c : Nat) (l : List In) (w : World) (hr : Rd eIn w p c l) (n : Nat) (hN : l.length = n) (hn : n ≤ 24) (hal : l.all mayB = true) (a : Nat) (ha : a < n) (base hb mb : Nat) (o : List Nat) (hX : Hx w base hb mb o (ents l o)) (hlo : lookE (ents l o) (siteL l a) = none) :
    Calls Try.prog 40 #[.pointer (some ⟨hb, 0, none⟩), .slice p n c, .int .i64 a] w fun e w' => e = .returned (.tuple #[.int .i64 0, .bool false]) ∧ Below base w w' := by
  obtain ⟨q, d, hh, hown, c0, c1, hhb, hmb, hne, hfz⟩ := hX.facts
  obtain ⟨m, hM⟩ : ∃ m, o.length = m := ⟨_, rfl⟩
  rw [hM] at hh c0
  have HM : Hid (o.length = m) := hM
  have hbase : base ≤ w.heap.size := by have := hX.b1; omega
  have hst := site_any p c l w hr n hN hn hal a ha
  have hsl := siteL_len l a
  clear hM hN
  go_enter Try.func40, Try.ntmps40
  go_wp2_with (first
    | (go_at_call 56; refine hst.mono ?_; rintro e w4 ⟨rfl, hb4⟩)
    | (refine wpList_store_row rfl 100 _ _ rfl w4.heap.size (cI (siteL l a)) rfl rfl 100 _ (heap_alloc_new _ _) (by rw [cI_size, hsl]; exact info81) (by rw [cI_size, hsl]; rfl) (cI_one _) ?_; rw [World.setRow_alloc_new]))
  have hB5 : Below w.heap.size w (w4.alloc (Obj.cells (cI (siteL l a)) 100)) := hb4.alloc hb4.size _
  have hr8 : (w4.alloc (Obj.cells (cI (siteL l a)) 100)).heap[w4.heap.size]? = some (.cells (cI (siteL l a)) 100 (0, 0)) := heap_alloc_new _ _
  have hz8 : w4.heap.size < (w4.alloc (Obj.cells (cI (siteL l a)) 100)).heap.size := by simp
  have hX5 := hX.below hB5
  have hz4 := hb4.size
  generalize w4.alloc (Obj.cells (cI (siteL l a)) 100) = w5 at *
  generalize w4.heap.size = r8 at *
  clear hb4 hst
  obtain ⟨q5, d5, hh5, hown5, c50, c51, hhb5, hmb5, hne5, hfz5⟩ := hX5.facts
  rw [HM.out] at hh5 c50
  clear hh hown c0 c1 hfz
  have hlk : ∀ w', Below w5.heap.size w5 w' → (Instr.lookup 72 (.map (some mb)) (.agg (cI (siteL l a))) true).run Try.prog w' = .ok (.tuple #[.int .i64 0, .bool false]) w' := fun w' hb' => by
    have := look_run (hX5.mp.below hb') hsl
    rw [hlo] at this
    exact this
  have hld : ∀ w', Below w5.heap.size w5 w' → (loadVar 100 ⟨r8, 0, none⟩).run Try.prog w' = .ok (.agg (cI (siteL l a))) w' := fun w' hb' => run_loadVar_row w' r8 100 100 _ (0, 0) _ ((hb'.block r8 hz8).trans hr8) Try.underlying100 rfl (by rw [cI_size, hsl]; exact info81)
  refine wp_region_held_drew (S := fun w' => Below w5.heap.size w5 w') (by kernel_rfl) (Below.refl _ _).drew (fun hHeld => ?_)
  refine wpAnyH_take (i := 0) (oi := _) (v := ?_) rfl (by kernel_rfl) (by kernel_rfl) (by kernel_rfl) (fun _ _ _ h => h) (Or.inl ⟨by rfl, ?_⟩) hHeld ?_
  rotate_left
  · intro w' hSw
    (go_simp <;> with_reducible rfl)
  try simp only [Act.put, List.getElem_toArray, List.getElem_cons_zero, List.setIfInBounds_toArray, List.set_cons_zero, List.set_cons_succ]
  refine wpAnyH_take (i := 1) (oi := _) (v := ?_) rfl (by kernel_rfl) (by kernel_rfl) (by kernel_rfl) (fun _ _ _ h => h) (Or.inl ⟨by rfl, ?_⟩) hHeld ?_
  rotate_left
  · intro w' hSw
    (go_simp <;> with_reducible rfl)
  try simp only [Act.put, List.getElem_toArray, List.getElem_cons_succ, List.getElem_cons_zero, List.setIfInBounds_toArray, List.set_cons_zero, List.set_cons_succ]
  refine wpAnyH_take (i := 2) (oi := _) (v := ?_) rfl (by kernel_rfl) (by kernel_rfl) (by kernel_rfl) (fun _ _ _ h => h) (Or.inl ⟨by rfl, ?_⟩) hHeld ?_
  rotate_left
  · intro w' hSw
    (go_simp <;> with_reducible rfl)
  try simp only [Act.put, List.getElem_toArray, List.getElem_cons_succ, List.getElem_cons_zero, List.setIfInBounds_toArray, List.set_cons_zero, List.set_cons_succ]
  refine wpAnyH_take (i := 3) (oi := _) (v := ?_) rfl (by kernel_rfl) (by kernel_rfl) (by kernel_rfl) (fun _ _ _ h => h) (Or.inl ⟨by rfl, ?_⟩) hHeld ?_
  rotate_left
  · intro w' hSw
    have f3 := (hSw.cell (p := ⟨hb, 1, none⟩) hhb5).trans c51
    (go_simp <;> with_reducible rfl)
  try simp only [Act.put, List.getElem_toArray, List.getElem_cons_succ, List.getElem_cons_zero, List.setIfInBounds_toArray, List.set_cons_zero, List.set_cons_succ]
  refine wpAnyH_take (i := 4) (oi := _) (v := .agg (cI (siteL l a))) rfl (by kernel_rfl) (by kernel_rfl) (by kernel_rfl) (fun _ _ _ h => h) (Or.inl ⟨by rfl, fun w' hSw => load_yields 100 (.tmp 8) rfl r8 rfl (hld w' hSw)⟩) hHeld ?_
  try simp only [Act.put, List.getElem_toArray, List.getElem_cons_succ, List.getElem_cons_zero, List.setIfInBounds_toArray, List.set_cons_zero, List.set_cons_succ]
  refine wpAnyH_take (i := 5) (oi := _) (v := ?_) rfl (by kernel_rfl) (by kernel_rfl) (by kernel_rfl) (fun _ _ _ h => h) (Or.inl ⟨by rfl, ?_⟩) hHeld ?_
  rotate_left
  · intro w' hSw
    have f3 := hlk w' hSw
    (go_simp <;> with_reducible rfl)
  try simp only [Act.put, List.getElem_toArray, List.getElem_cons_succ, List.getElem_cons_zero, List.setIfInBounds_toArray, List.set_cons_zero, List.set_cons_succ]
  refine wpAnyH_take (i := 6) (oi := _) (v := ?_) rfl (by kernel_rfl) (by kernel_rfl) (by kernel_rfl) (fun _ _ _ h => h) (Or.inl ⟨by rfl, ?_⟩) hHeld ?_
  rotate_left
  · intro w' hSw
    (go_simp <;> with_reducible rfl)
  try simp only [Act.put, List.getElem_toArray, List.getElem_cons_succ, List.getElem_cons_zero, List.setIfInBounds_toArray, List.set_cons_zero, List.set_cons_succ]
  refine wpAnyH_take (i := 7) (oi := _) (v := ?_) rfl (by kernel_rfl) (by kernel_rfl) (by kernel_rfl) (fun _ _ _ h => h) (Or.inl ⟨by rfl, ?_⟩) hHeld ?_
  rotate_left
  · intro w' hSw
    (go_simp <;> with_reducible rfl)
  try simp only [Act.put, List.getElem_toArray, List.getElem_cons_succ, List.getElem_cons_zero, List.setIfInBounds_toArray, List.set_cons_zero, List.set_cons_succ]
  refine wpAnyH_take (i := 8) (oi := _) (v := ?_) rfl (by kernel_rfl) (by kernel_rfl) (by kernel_rfl) (fun _ _ _ h => h) (Or.inl ⟨by rfl, ?_⟩) hHeld ?_
  rotate_left
  · intro w' hSw
    (go_simp <;> with_reducible rfl)
  try simp only [Act.put, List.getElem_toArray, List.getElem_cons_succ, List.getElem_cons_zero, List.setIfInBounds_toArray, List.set_cons_zero, List.set_cons_succ]
  refine wpAnyH_take (i := 9) (oi := _) (v := ?_) rfl (by kernel_rfl) (by kernel_rfl) (by kernel_rfl) (fun _ _ _ h => h) (Or.inl ⟨by rfl, ?_⟩) hHeld ?_
  rotate_left
  · intro w' hSw
    (go_simp <;> with_reducible rfl)
  try simp only [Act.put, List.getElem_toArray, List.getElem_cons_succ, List.getElem_cons_zero, List.setIfInBounds_toArray, List.set_cons_zero, List.set_cons_succ]
  refine wpAnyH_take (i := 10) (oi := _) (v := ?_) rfl (by kernel_rfl) (by kernel_rfl) (by kernel_rfl) (fun _ _ _ h => h) (Or.inl ⟨by rfl, ?_⟩) hHeld ?_
  rotate_left
  · intro w' hSw
    (go_simp <;> with_reducible rfl)
  try simp only [Act.put, List.getElem_toArray, List.getElem_cons_succ, List.getElem_cons_zero, List.setIfInBounds_toArray, List.set_cons_zero, List.set_cons_succ]
  refine wpAnyH_done (by kernel_rfl) ?_ _
  have hX6 := hX5.below ((Below.refl _ w5).drew)
  have hB6 : Below w.heap.size w w5.drew := hB5.trans ((Below.refl _ w5).drew.mono hB5.size)
  have c60 : w5.drew.cell? ⟨hb, 0, none⟩ = some (.slice q5 m d5) := c50
  have c61 : w5.drew.cell? ⟨hb, 1, none⟩ = some (.map (some mb)) := c51
  have hr6 : w5.drew.heap[r8]? = some (.cells (cI (siteL l a)) 100 (0, 0)) := hr8
  have hh6 : w5.drew.heap[hb]? = some (.cells #[.slice q5 m d5, .map (some mb)] 74 (0, 0)) := hh5
  have hown6 : Own eI w5.drew base 3 q5 d5 (oI o) := own_below hown5 ((Below.refl _ w5).drew)
  have hz6 : w5.drew.heap.size = w5.heap.size := rfl
  generalize w5.drew = w6 at *
  clear hHeld hlk hld hX5 hB5 c50 c51 hr8 hh5 hown5 hfz5
  go_wp2
  go_ret2
  exact ⟨rfl, hB6.mono hbase⟩

set_option maxHeartbeats 4000000 in
set_option maxRecDepth 20000 in
theorem unlock_other (p : Option Addr) (c : Nat) (l : List In) (w : World) (hr : Rd eIn w p c l) (n : Nat) (hN : l.length = n) (hn : n ≤ 24) (hal : l.all mayB = true) (a : Nat) (ha : a < n) (base hb mb : Nat) (o : List Nat) (hX : Hx w base hb mb o (ents l o)) (v : Int) (hlo : lookE (ents l o) (siteL l a) = some v) (k : Nat) (o1 : List Nat) (hk : o = o1 ++ [k]) (hle : o.length ≤ 2) (hv : ¬ (k : Int) = v) :
    Calls Try.prog 40 #[.pointer (some ⟨hb, 0, none⟩), .slice p n c, .int .i64 a] w fun e w' => e = .returned (.tuple #[.int .i64 0, .bool false]) ∧ Below base w w' := by
  obtain ⟨q, d, hh, hown, c0, c1, hhb, hmb, hne, hfz⟩ := hX.facts
  obtain ⟨m, hM⟩ : ∃ m, o.length = m := ⟨_, rfl⟩
  rw [hM] at hh c0
  have HM : Hid (o.length = m) := hM
  have hbase : base ≤ w.heap.size := by have := hX.b1; omega
  have hst := site_any p c l w hr n hN hn hal a ha
  have hsl := siteL_len l a
  clear hM hN
  obtain ⟨m1, hm1⟩ : ∃ m1, o1.length = m1 := ⟨_, rfl⟩
  have HMM : Hid (m = m1 + 1) := by show _ = _; rw [← HM.out, hk, List.length_append, hm1]; rfl
  rw [HM.out] at hle
  have HK : Hid (o = o1 ++ [k]) := hk
  have HM1 : Hid (o1.length = m1) := hm1
  clear hk hm1
  have dv : ((k : Int) == v) = false := by simpa using hv
  go_enter Try.func40, Try.ntmps40
  go_wp2_with (first
    | (go_at_call 56; refine hst.mono ?_; rintro e w4 ⟨rfl, hb4⟩)
    | (refine wpList_store_row rfl 100 _ _ rfl w4.heap.size (cI (siteL l a)) rfl rfl 100 _ (heap_alloc_new _ _) (by rw [cI_size, hsl]; exact info81) (by rw [cI_size, hsl]; rfl) (cI_one _) ?_; rw [World.setRow_alloc_new]))
  have hB5 : Below w.heap.size w (w4.alloc (Obj.cells (cI (siteL l a)) 100)) := hb4.alloc hb4.size _
  have hr8 : (w4.alloc (Obj.cells (cI (siteL l a)) 100)).heap[w4.heap.size]? = some (.cells (cI (siteL l a)) 100 (0, 0)) := heap_alloc_new _ _
  have hz8 : w4.heap.size < (w4.alloc (Obj.cells (cI (siteL l a)) 100)).heap.size := by simp
  have hX5 := hX.below hB5
  have hz4 := hb4.size
  generalize w4.alloc (Obj.cells (cI (siteL l a)) 100) = w5 at *
  generalize w4.heap.size = r8 at *
  clear hb4 hst
  obtain ⟨q5, d5, hh5, hown5, c50, c51, hhb5, hmb5, hne5, hfz5⟩ := hX5.facts
  rw [HM.out] at hh5 c50
  clear hh hown c0 c1 hfz
  have hlk : ∀ w', Below w5.heap.size w5 w' → (Instr.lookup 72 (.map (some mb)) (.agg (cI (siteL l a))) true).run Try.prog w' = .ok (.tuple #[.int .i64 v, .bool true]) w' := fun w' hb' => by
    have := look_run (hX5.mp.below hb') hsl
    rw [hlo] at this
    exact this
  have hld : ∀ w', Below w5.heap.size w5 w' → (loadVar 100 ⟨r8, 0, none⟩).run Try.prog w' = .ok (.agg (cI (siteL l a))) w' := fun w' hb' => run_loadVar_row w' r8 100 100 _ (0, 0) _ ((hb'.block r8 hz8).trans hr8) Try.underlying100 rfl (by rw [cI_size, hsl]; exact info81)
  refine wp_region_held_drew (S := fun w' => Below w5.heap.size w5 w') (by kernel_rfl) (Below.refl _ _).drew (fun hHeld => ?_)
  refine wpAnyH_take (i := 0) (oi := _) (v := ?_) rfl (by kernel_rfl) (by kernel_rfl) (by kernel_rfl) (fun _ _ _ h => h) (Or.inl ⟨by rfl, ?_⟩) hHeld ?_
  rotate_left
  · intro w' hSw
    (go_simp <;> with_reducible rfl)
  try simp only [Act.put, List.getElem_toArray, List.getElem_cons_zero, List.setIfInBounds_toArray, List.set_cons_zero, List.set_cons_succ]
  refine wpAnyH_take (i := 1) (oi := _) (v := ?_) rfl (by kernel_rfl) (by kernel_rfl) (by kernel_rfl) (fun _ _ _ h => h) (Or.inl ⟨by rfl, ?_⟩) hHeld ?_
  rotate_left
  · intro w' hSw
    (go_simp <;> with_reducible rfl)
  try simp only [Act.put, List.getElem_toArray, List.getElem_cons_succ, List.getElem_cons_zero, List.setIfInBounds_toArray, List.set_cons_zero, List.set_cons_succ]
  refine wpAnyH_take (i := 2) (oi := _) (v := ?_) rfl (by kernel_rfl) (by kernel_rfl) (by kernel_rfl) (fun _ _ _ h => h) (Or.inl ⟨by rfl, ?_⟩) hHeld ?_
  rotate_left
  · intro w' hSw
    (go_simp <;> with_reducible rfl)
  try simp only [Act.put, List.getElem_toArray, List.getElem_cons_succ, List.getElem_cons_zero, List.setIfInBounds_toArray, List.set_cons_zero, List.set_cons_succ]
  refine wpAnyH_take (i := 3) (oi := _) (v := ?_) rfl (by kernel_rfl) (by kernel_rfl) (by kernel_rfl) (fun _ _ _ h => h) (Or.inl ⟨by rfl, ?_⟩) hHeld ?_
  rotate_left
  · intro w' hSw
    have f3 := (hSw.cell (p := ⟨hb, 1, none⟩) hhb5).trans c51
    (go_simp <;> with_reducible rfl)
  try simp only [Act.put, List.getElem_toArray, List.getElem_cons_succ, List.getElem_cons_zero, List.setIfInBounds_toArray, List.set_cons_zero, List.set_cons_succ]
  refine wpAnyH_take (i := 4) (oi := _) (v := .agg (cI (siteL l a))) rfl (by kernel_rfl) (by kernel_rfl) (by kernel_rfl) (fun _ _ _ h => h) (Or.inl ⟨by rfl, fun w' hSw => load_yields 100 (.tmp 8) rfl r8 rfl (hld w' hSw)⟩) hHeld ?_
  try simp only [Act.put, List.getElem_toArray, List.getElem_cons_succ, List.getElem_cons_zero, List.setIfInBounds_toArray, List.set_cons_zero, List.set_cons_succ]
  refine wpAnyH_take (i := 5) (oi := _) (v := ?_) rfl (by kernel_rfl) (by kernel_rfl) (by kernel_rfl) (fun _ _ _ h => h) (Or.inl ⟨by rfl, ?_⟩) hHeld ?_
  rotate_left
  · intro w' hSw
    have f3 := hlk w' hSw
    (go_simp <;> with_reducible rfl)
  try simp only [Act.put, List.getElem_toArray, List.getElem_cons_succ, List.getElem_cons_zero, List.setIfInBounds_toArray, List.set_cons_zero, List.set_cons_succ]
  refine wpAnyH_take (i := 6) (oi := _) (v := ?_) rfl (by kernel_rfl) (by kernel_rfl) (by kernel_rfl) (fun _ _ _ h => h) (Or.inl ⟨by rfl, ?_⟩) hHeld ?_
  rotate_left
  · intro w' hSw
    (go_simp <;> with_reducible rfl)
  try simp only [Act.put, List.getElem_toArray, List.getElem_cons_succ, List.getElem_cons_zero, List.setIfInBounds_toArray, List.set_cons_zero, List.set_cons_succ]
  refine wpAnyH_take (i := 7) (oi := _) (v := ?_) rfl (by kernel_rfl) (by kernel_rfl) (by kernel_rfl) (fun _ _ _ h => h) (Or.inl ⟨by rfl, ?_⟩) hHeld ?_
  rotate_left
  · intro w' hSw
    (go_simp <;> with_reducible rfl)
  try simp only [Act.put, List.getElem_toArray, List.getElem_cons_succ, List.getElem_cons_zero, List.setIfInBounds_toArray, List.set_cons_zero, List.set_cons_succ]
  refine wpAnyH_take (i := 8) (oi := _) (v := ?_) rfl (by kernel_rfl) (by kernel_rfl) (by kernel_rfl) (fun _ _ _ h => h) (Or.inl ⟨by rfl, ?_⟩) hHeld ?_
  rotate_left
  · intro w' hSw
    (go_simp <;> with_reducible rfl)
  try simp only [Act.put, List.getElem_toArray, List.getElem_cons_succ, List.getElem_cons_zero, List.setIfInBounds_toArray, List.set_cons_zero, List.set_cons_succ]
  refine wpAnyH_take (i := 9) (oi := _) (v := ?_) rfl (by kernel_rfl) (by kernel_rfl) (by kernel_rfl) (fun _ _ _ h => h) (Or.inl ⟨by rfl, ?_⟩) hHeld ?_
  rotate_left
  · intro w' hSw
    (go_simp <;> with_reducible rfl)
  try simp only [Act.put, List.getElem_toArray, List.getElem_cons_succ, List.getElem_cons_zero, List.setIfInBounds_toArray, List.set_cons_zero, List.set_cons_succ]
  refine wpAnyH_take (i := 10) (oi := _) (v := ?_) rfl (by kernel_rfl) (by kernel_rfl) (by kernel_rfl) (fun _ _ _ h => h) (Or.inl ⟨by rfl, ?_⟩) hHeld ?_
  rotate_left
  · intro w' hSw
    (go_simp <;> with_reducible rfl)
  try simp only [Act.put, List.getElem_toArray, List.getElem_cons_succ, List.getElem_cons_zero, List.setIfInBounds_toArray, List.set_cons_zero, List.set_cons_succ]
  refine wpAnyH_done (by kernel_rfl) ?_ _
  have hX6 := hX5.below ((Below.refl _ w5).drew)
  have hB6 : Below w.heap.size w w5.drew := hB5.trans ((Below.refl _ w5).drew.mono hB5.size)
  have c60 : w5.drew.cell? ⟨hb, 0, none⟩ = some (.slice q5 m d5) := c50
  have c61 : w5.drew.cell? ⟨hb, 1, none⟩ = some (.map (some mb)) := c51
  have hr6 : w5.drew.heap[r8]? = some (.cells (cI (siteL l a)) 100 (0, 0)) := hr8
  have hh6 : w5.drew.heap[hb]? = some (.cells #[.slice q5 m d5, .map (some mb)] 74 (0, 0)) := hh5
  have hown6 : Own eI w5.drew base 3 q5 d5 (oI o) := own_below hown5 ((Below.refl _ w5).drew)
  have hz6 : w5.drew.heap.size = w5.heap.size := rfl
  generalize w5.drew = w6 at *
  clear hHeld hlk hld hX5 hB5 c50 c51 hr8 hh5 hown5 hfz5
  have hq0 := HMM.out
  have hq1 : (m : Int) - 1 = (m1 : Int) := by omega
  have hm3 : m1 ≤ 1 := by omega
  have hq2 : (m1 : Int) < (m : Int) := by omega
  obtain ⟨b, f, rfl, hbz, f0⟩ := (own_rd hown6).num m1 (by rw [oI_len, HM.out]; have := HMM.out; omega)
  have hx : (oI o)[m1]'(by rw [oI_len, HM.out]; have := HMM.out; omega) = (k : Int) := by
    have e : oI o = oI o1 ++ [(k : Int)] := by rw [HK.out, oI_snoc]
    simp only [e]
    rw [List.getElem_append_right (by rw [oI_len, HM1.out]; exact Nat.le_refl _)]
    simp [oI_len, HM1.out]
  rw [hx] at f0
  clear hx hq0
  go_wp2
  go_ret2
  exact ⟨rfl, hB6.mono hbase⟩

set_option maxHeartbeats 4000000 in
set_option maxRecDepth 20000 in
theorem unlock_yes (p : Option Addr) (c : Nat) (l : List In) (w : World) (hr : Rd eIn w p c l) (n : Nat) (hN : l.length = n) (hn : n ≤ 24) (hal : l.all mayB = true) (a : Nat) (ha : a < n) (base hb mb : Nat) (o : List Nat) (hX : Hx w base hb mb o (ents l o)) (k : Nat) (o1 : List Nat) (hk : o = o1 ++ [k]) (hle : o.length ≤ 2) (hsk : siteL l k = siteL l a) (hd1 : ∀ j ∈ o1, (gt l j).2.1 ≠ (gt l k).2.1) :
    Calls Try.prog 40 #[.pointer (some ⟨hb, 0, none⟩), .slice p n c, .int .i64 a] w fun e w' => e = .returned (.tuple #[.int .i64 k, .bool true]) ∧ Hx w' base hb mb o1 (ents l o1) ∧ Below base w w' := by
  have hen : ∀ x ∈ ents l o1, siteL l a ≠ x.1 := by
    intro x hx e
    simp only [ents, List.mem_map] at hx
    obtain ⟨j, hj, rfl⟩ := hx
    rw [← hsk] at e
    simp only [siteL, List.cons.injEq] at e
    exact hd1 j hj e.1.symm
  have hE : ents l o = ents l o1 ++ [(siteL l a, (k : Int))] := by rw [hk, ents_snoc, hsk]
  have hlo : lookE (ents l o) (siteL l a) = some (k : Int) := by rw [hE]; exact lookE_last hen
  have hb1 := hX.b1
  have hb2 := hX.b2
  obtain ⟨q, d, hh, hown, c0, c1, hhb, hmb, hne, hfz⟩ := hX.facts
  obtain ⟨m, hM⟩ : ∃ m, o.length = m := ⟨_, rfl⟩
  rw [hM] at hh c0
  have HM : Hid (o.length = m) := hM
  have hbase : base ≤ w.heap.size := by have := hX.b1; omega
  have hst := site_any p c l w hr n hN hn hal a ha
  have hsl := siteL_len l a
  clear hM hN
  obtain ⟨m1, hm1⟩ : ∃ m1, o1.length = m1 := ⟨_, rfl⟩
  have HMM : Hid (m = m1 + 1) := by show _ = _; rw [← HM.out, hk, List.length_append, hm1]; rfl
  rw [HM.out] at hle
  have HK : Hid (o = o1 ++ [k]) := hk
  have HM1 : Hid (o1.length = m1) := hm1
  have HE : Hid (ents l o = ents l o1 ++ [(siteL l a, (k : Int))]) := hE
  clear hk hm1 hE hd1 hsk
  go_enter Try.func40, Try.ntmps40
  go_wp2_with (first
    | (go_at_call 56; refine hst.mono ?_; rintro e w4 ⟨rfl, hb4⟩)
    | (refine wpList_store_row rfl 100 _ _ rfl w4.heap.size (cI (siteL l a)) rfl rfl 100 _ (heap_alloc_new _ _) (by rw [cI_size, hsl]; exact info81) (by rw [cI_size, hsl]; rfl) (cI_one _) ?_; rw [World.setRow_alloc_new]))
  have hB5 : Below w.heap.size w (w4.alloc (Obj.cells (cI (siteL l a)) 100)) := hb4.alloc hb4.size _
  have hr8 : (w4.alloc (Obj.cells (cI (siteL l a)) 100)).heap[w4.heap.size]? = some (.cells (cI (siteL l a)) 100 (0, 0)) := heap_alloc_new _ _
  have hz8 : w4.heap.size < (w4.alloc (Obj.cells (cI (siteL l a)) 100)).heap.size := by simp
  have hX5 := hX.below hB5
  have hz4 := hb4.size
  generalize w4.alloc (Obj.cells (cI (siteL l a)) 100) = w5 at *
  generalize w4.heap.size = r8 at *
  clear hb4 hst
  obtain ⟨q5, d5, hh5, hown5, c50, c51, hhb5, hmb5, hne5, hfz5⟩ := hX5.facts
  rw [HM.out] at hh5 c50
  clear hh hown c0 c1 hfz
  have hlk : ∀ w', Below w5.heap.size w5 w' → (Instr.lookup 72 (.map (some mb)) (.agg (cI (siteL l a))) true).run Try.prog w' = .ok (.tuple #[.int .i64 (k : Int), .bool true]) w' := fun w' hb' => by
    have := look_run (hX5.mp.below hb') hsl
    rw [hlo] at this
    exact this
  have hld : ∀ w', Below w5.heap.size w5 w' → (loadVar 100 ⟨r8, 0, none⟩).run Try.prog w' = .ok (.agg (cI (siteL l a))) w' := fun w' hb' => run_loadVar_row w' r8 100 100 _ (0, 0) _ ((hb'.block r8 hz8).trans hr8) Try.underlying100 rfl (by rw [cI_size, hsl]; exact info81)
  refine wp_region_held_drew (S := fun w' => Below w5.heap.size w5 w') (by kernel_rfl) (Below.refl _ _).drew (fun hHeld => ?_)
  refine wpAnyH_take (i := 0) (oi := _) (v := ?_) rfl (by kernel_rfl) (by kernel_rfl) (by kernel_rfl) (fun _ _ _ h => h) (Or.inl ⟨by rfl, ?_⟩) hHeld ?_
  rotate_left
  · intro w' hSw
    (go_simp <;> with_reducible rfl)
  try simp only [Act.put, List.getElem_toArray, List.getElem_cons_zero, List.setIfInBounds_toArray, List.set_cons_zero, List.set_cons_succ]
  refine wpAnyH_take (i := 1) (oi := _) (v := ?_) rfl (by kernel_rfl) (by kernel_rfl) (by kernel_rfl) (fun _ _ _ h => h) (Or.inl ⟨by rfl, ?_⟩) hHeld ?_
  rotate_left
  · intro w' hSw
    (go_simp <;> with_reducible rfl)
  try simp only [Act.put, List.getElem_toArray, List.getElem_cons_succ, List.getElem_cons_zero, List.setIfInBounds_toArray, List.set_cons_zero, List.set_cons_succ]
  refine wpAnyH_take (i := 2) (oi := _) (v := ?_) rfl (by kernel_rfl) (by kernel_rfl) (by kernel_rfl) (fun _ _ _ h => h) (Or.inl ⟨by rfl, ?_⟩) hHeld ?_
  rotate_left
  · intro w' hSw
    (go_simp <;> with_reducible rfl)
  try simp only [Act.put, List.getElem_toArray, List.getElem_cons_succ, List.getElem_cons_zero, List.setIfInBounds_toArray, List.set_cons_zero, List.set_cons_succ]
  refine wpAnyH_take (i := 3) (oi := _) (v := ?_) rfl (by kernel_rfl) (by kernel_rfl) (by kernel_rfl) (fun _ _ _ h => h) (Or.inl ⟨by rfl, ?_⟩) hHeld ?_
  rotate_left
  · intro w' hSw
    have f3 := (hSw.cell (p := ⟨hb, 1, none⟩) hhb5).trans c51
    (go_simp <;> with_reducible rfl)
  try simp only [Act.put, List.getElem_toArray, List.getElem_cons_succ, List.getElem_cons_zero, List.setIfInBounds_toArray, List.set_cons_zero, List.set_cons_succ]
  refine wpAnyH_take (i := 4) (oi := _) (v := .agg (cI (siteL l a))) rfl (by kernel_rfl) (by kernel_rfl) (by kernel_rfl) (fun _ _ _ h => h) (Or.inl ⟨by rfl, fun w' hSw => load_yields 100 (.tmp 8) rfl r8 rfl (hld w' hSw)⟩) hHeld ?_
  try simp only [Act.put, List.getElem_toArray, List.getElem_cons_succ, List.getElem_cons_zero, List.setIfInBounds_toArray, List.set_cons_zero, List.set_cons_succ]
  refine wpAnyH_take (i := 5) (oi := _) (v := ?_) rfl (by kernel_rfl) (by kernel_rfl) (by kernel_rfl) (fun _ _ _ h => h) (Or.inl ⟨by rfl, ?_⟩) hHeld ?_
  rotate_left
  · intro w' hSw
    have f3 := hlk w' hSw
    (go_simp <;> with_reducible rfl)
  try simp only [Act.put, List.getElem_toArray, List.getElem_cons_succ, List.getElem_cons_zero, List.setIfInBounds_toArray, List.set_cons_zero, List.set_cons_succ]
  refine wpAnyH_take (i := 6) (oi := _) (v := ?_) rfl (by kernel_rfl) (by kernel_rfl) (by kernel_rfl) (fun _ _ _ h => h) (Or.inl ⟨by rfl, ?_⟩) hHeld ?_
  rotate_left
  · intro w' hSw
    (go_simp <;> with_reducible rfl)
  try simp only [Act.put, List.getElem_toArray, List.getElem_cons_succ, List.getElem_cons_zero, List.setIfInBounds_toArray, List.set_cons_zero, List.set_cons_succ]
  refine wpAnyH_take (i := 7) (oi := _) (v := ?_) rfl (by kernel_rfl) (by kernel_rfl) (by kernel_rfl) (fun _ _ _ h => h) (Or.inl ⟨by rfl, ?_⟩) hHeld ?_
  rotate_left
  · intro w' hSw
    (go_simp <;> with_reducible rfl)
  try simp only [Act.put, List.getElem_toArray, List.getElem_cons_succ, List.getElem_cons_zero, List.setIfInBounds_toArray, List.set_cons_zero, List.set_cons_succ]
  refine wpAnyH_take (i := 8) (oi := _) (v := ?_) rfl (by kernel_rfl) (by kernel_rfl) (by kernel_rfl) (fun _ _ _ h => h) (Or.inl ⟨by rfl, ?_⟩) hHeld ?_
  rotate_left
  · intro w' hSw
    (go_simp <;> with_reducible rfl)
  try simp only [Act.put, List.getElem_toArray, List.getElem_cons_succ, List.getElem_cons_zero, List.setIfInBounds_toArray, List.set_cons_zero, List.set_cons_succ]
  refine wpAnyH_take (i := 9) (oi := _) (v := ?_) rfl (by kernel_rfl) (by kernel_rfl) (by kernel_rfl) (fun _ _ _ h => h) (Or.inl ⟨by rfl, ?_⟩) hHeld ?_
  rotate_left
  · intro w' hSw
    (go_simp <;> with_reducible rfl)
  try simp only [Act.put, List.getElem_toArray, List.getElem_cons_succ, List.getElem_cons_zero, List.setIfInBounds_toArray, List.set_cons_zero, List.set_cons_succ]
  refine wpAnyH_take (i := 10) (oi := _) (v := ?_) rfl (by kernel_rfl) (by kernel_rfl) (by kernel_rfl) (fun _ _ _ h => h) (Or.inl ⟨by rfl, ?_⟩) hHeld ?_
  rotate_left
  · intro w' hSw
    (go_simp <;> with_reducible rfl)
  try simp only [Act.put, List.getElem_toArray, List.getElem_cons_succ, List.getElem_cons_zero, List.setIfInBounds_toArray, List.set_cons_zero, List.set_cons_succ]
  refine wpAnyH_done (by kernel_rfl) ?_ _
  have hX6 := hX5.below ((Below.refl _ w5).drew)
  have hB6 : Below w.heap.size w w5.drew := hB5.trans ((Below.refl _ w5).drew.mono hB5.size)
  have c60 : w5.drew.cell? ⟨hb, 0, none⟩ = some (.slice q5 m d5) := c50
  have c61 : w5.drew.cell? ⟨hb, 1, none⟩ = some (.map (some mb)) := c51
  have hr6 : w5.drew.heap[r8]? = some (.cells (cI (siteL l a)) 100 (0, 0)) := hr8
  have hh6 : w5.drew.heap[hb]? = some (.cells #[.slice q5 m d5, .map (some mb)] 74 (0, 0)) := hh5
  have hown6 : Own eI w5.drew base 3 q5 d5 (oI o) := own_below hown5 ((Below.refl _ w5).drew)
  have hz6 : w5.drew.heap.size = w5.heap.size := rfl
  generalize w5.drew = w6 at *
  clear hHeld hlk hld hX5 hB5 c50 c51 hr8 hh5 hown5 hfz5
  have hq0 := HMM.out
  have hq1 : (m : Int) - 1 = (m1 : Int) := by omega
  have hm3 : m1 ≤ 1 := by omega
  have hq2 : (m1 : Int) < (m : Int) := by omega
  have hcap := own_cap hown6
  rw [oI_len, HM.out] at hcap
  have hq3 : (m1 : Int) ≤ (d5 : Int) := by omega
  have hq4 : m1 ≤ d5 := by omega
  clear hq0
  rcases own_q hown6 with rfl | ⟨b, rfl⟩
  · obtain ⟨b, f, e, _⟩ := (own_rd hown6).num m1 (by rw [oI_len, HM.out]; have := HMM.out; omega)
    cases e
  obtain ⟨b', f, e, hbz, f0⟩ := (own_rd hown6).num m1 (by rw [oI_len, HM.out]; have := HMM.out; omega)
  cases e
  have hx : (oI o)[m1]'(by rw [oI_len, HM.out]; have := HMM.out; omega) = (k : Int) := by
    have e : oI o = oI o1 ++ [(k : Int)] := by rw [HK.out, oI_snoc]
    simp only [e]
    rw [List.getElem_append_right (by rw [oI_len, HM1.out]; exact Nat.le_refl _)]
    simp [oI_len, HM1.out]
  rw [hx] at f0
  clear hx
  rw [Nat.zero_add] at f0
  have hownT : Own eI w6 base 3 (some ⟨b, 0, none⟩) d5 (oI o1) := by
    have h := own_take hown6 (by rw [oI_len, HM.out]; have := HMM.out; omega) m1 (by rw [oI_len, HM.out]; have := HMM.out; omega)
    have e : (oI o).take m1 = oI o1 := by
      rw [HK.out, oI_snoc, List.take_append_of_le_length (by rw [oI_len, HM1.out]; exact Nat.le_refl _), List.take_of_length_le (by rw [oI_len, HM1.out]; exact Nat.le_refl _)]
    rwa [e] at h
  go_wp2
  have hz8' : r8 < w6.heap.size := by omega
  have hnr : ¬ r8 = mb := by omega
  have hmp : IsMp w6 mb (ents l o1 ++ [(siteL l a, (k : Int))]) := by rw [← HE.out]; exact hX6.mp
  have hld : ∀ w', Kp mb w6 w' → (loadVar 100 ⟨r8, 0, none⟩).run Try.prog w' = .ok (.agg (cI (siteL l a))) w' := fun w' hb' => run_loadVar_row w' r8 100 100 _ (0, 0) _ ((hb'.block r8 hz8' (by intro e; cases e; exact hnr rfl)).trans hr6) Try.underlying100 rfl (by rw [cI_size, hsl]; exact info81)
  refine wp_region_held_drew (S := fun w' => Kp mb w6 w') (by kernel_rfl) (Kp.refl _ _).drew (fun hHeld => ?_)
  refine wpAnyH_take (i := 0) (oi := _) (v := ?_) rfl (by kernel_rfl) (by kernel_rfl) (by kernel_rfl) (fun _ _ _ h => h) (Or.inl ⟨by rfl, ?_⟩) hHeld ?_
  rotate_left
  · intro w' hSw
    (go_simp <;> with_reducible rfl)
  try simp only [Act.put, List.getElem_toArray, List.getElem_cons_zero, List.setIfInBounds_toArray, List.set_cons_zero, List.set_cons_succ]
  refine wpAnyH_take (i := 1) (oi := _) (v := ?_) rfl (by kernel_rfl) (by kernel_rfl) (by kernel_rfl) (fun _ _ _ h => h) (Or.inl ⟨by rfl, ?_⟩) hHeld ?_
  rotate_left
  · intro w' hSw
    (go_simp <;> with_reducible rfl)
  try simp only [Act.put, List.getElem_toArray, List.getElem_cons_succ, List.getElem_cons_zero, List.setIfInBounds_toArray, List.set_cons_zero, List.set_cons_succ]
  refine wpAnyH_take (i := 2) (oi := _) (v := ?_) rfl (by kernel_rfl) (by kernel_rfl) (by kernel_rfl) (fun _ _ _ h => h) (Or.inl ⟨by rfl, ?_⟩) hHeld ?_
  rotate_left
  · intro w' hSw
    (go_simp <;> with_reducible rfl)
  try simp only [Act.put, List.getElem_toArray, List.getElem_cons_succ, List.getElem_cons_zero, List.setIfInBounds_toArray, List.set_cons_zero, List.set_cons_succ]
  refine wpAnyH_take (i := 3) (oi := _) (v := ?_) rfl (by kernel_rfl) (by kernel_rfl) (by kernel_rfl) (fun _ _ _ h => h) (Or.inl ⟨by rfl, ?_⟩) hHeld ?_
  rotate_left
  · intro w' hSw
    have f3 := ((kcell hSw).1 hb 1 (by omega) hne5).trans c61
    (go_simp <;> with_reducible rfl)
  try simp only [Act.put, List.getElem_toArray, List.getElem_cons_succ, List.getElem_cons_zero, List.setIfInBounds_toArray, List.set_cons_zero, List.set_cons_succ]
  refine wpAnyH_take (i := 4) (oi := _) (v := .agg (cI (siteL l a))) rfl (by kernel_rfl) (by kernel_rfl) (by kernel_rfl) (fun _ _ _ h => h) (Or.inl ⟨by rfl, fun w' hSw => load_yields 100 (.tmp 8) rfl r8 rfl (hld w' hSw)⟩) hHeld ?_
  try simp only [Act.put, List.getElem_toArray, List.getElem_cons_succ, List.getElem_cons_zero, List.setIfInBounds_toArray, List.set_cons_zero, List.set_cons_succ]
  refine wpAnyH_ready (rs := [5]) (by kernel_rfl) (by simp) ?_
  refine AllReadyH.cons (o := _) rfl (fun K hK => ?_) AllReadyH.nil
  refine step_del rfl (.tmp 46) (.tmp 47) rfl mb (ents l o1) rfl (siteL l a) (k : Int) (hmp.below ((Below.refl _ _).drew)) rfl hen ?_
  intro w7 hm7 hk7
  have hk7' : Kp mb w6 w7 := (Kp.refl _ _).drew.trans hk7
  refine hK.out _ _ hk7' (fun hHeld => ?_)
  clear hK K
  refine wpAnyH_done (by kernel_rfl) ?_ _
  have hX7 := Hx.kp hX6 hk7' hm7
  have hown7 : Own eI w7 base 3 (some ⟨b, 0, none⟩) d5 (oI o1) := World.ownsRow.kept hownT hk7' (.inr (ownBlock_ne (own_q hownT) (own_nm hownT hX6.mp)))
  have c70 := ((kcell hk7').1 hb 0 (by omega) hne5).trans c60
  have f70 := (kcell hk7').2 hb 0 (by omega) hne5
  rw [frozen_of_row _ _ _ _ _ hh6] at f70
  have hXf := Hx.row hX7 rfl rfl HM1.out hown7
  have hB7 : Below base w w7 := (hB6.mono hbase).trans (hk7'.below hb2 (by omega))
  clear hX7 hX6 hmp hen hld hHeld hk7 hown6 hown7 hownT hm7 hk7'
  go_wp2
  go_ret2
  exact ⟨rfl, hXf, hB7.setCell hb1 _⟩
end Go.Proofs.Yteikdocpncdheaa
