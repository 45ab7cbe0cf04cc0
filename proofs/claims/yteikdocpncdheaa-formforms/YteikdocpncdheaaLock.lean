/-
  A Lock takes its semaphore, or tells that it may not.
-/
import Derived.Test.YteikdocpncdheaaHold
namespace Go.Proofs.Yteikdocpncdheaa
open Go.ChangeShapes Go.WideShapes Go.ChangeAt Go.RowKit
attribute [local go_sem ↓] Go.wp_at_zero Go.wp_at_succ

set_option maxHeartbeats 2000000 in
set_option maxRecDepth 20000 in
theorem lock_no (p : Option Addr) (c : Nat) (l : List In) (w : World) (hr : Rd eIn w p c l) (n : Nat) (hN : l.length = n) (hn : n ≤ 24) (a : Nat) (ha : a < n) (base hb mb : Nat) (o : List Nat) (ho : ∀ k ∈ o, k < n) (hX : Hx w base hb mb o (ents l o)) (hle : o.length ≤ 2) (hno : (o.any (sameA l a) || decide (2 ≤ o.length)) = true) :
    Calls Try.prog 39 #[.pointer (some ⟨hb, 0, none⟩), .slice p n c, .int .i64 a] w fun e w' => e = .returned (.bool false) ∧ Below base w w' := by
  obtain ⟨q, d, hh, hown, c0, c1, hhb, hmb, hne, hfz⟩ := hX.facts
  obtain ⟨m, hM⟩ : ∃ m, o.length = m := ⟨_, rfl⟩
  rw [hM] at hh c0
  have HM : Hid (o.length = m) := hM
  have hbase : base ≤ w.heap.size := by have := hX.b1; omega
  have hrp := own_rd hown
  have e0 : ((w.alloc (Obj.cells #[Value.slice p n c] 22)).alloc (Obj.cells #[Value.int IntKind.i64 (a : Int)] 3)).cell? ⟨w.heap.size, 0, none⟩ = some (Value.slice p n c) := cell_of_one (heap_alloc2_old _ _ _)
  have e1 : ((w.alloc (Obj.cells #[Value.slice p n c] 22)).alloc (Obj.cells #[Value.int IntKind.i64 (a : Int)] 3)).cell? ⟨w.heap.size + 1, 0, none⟩ = some (Value.int IntKind.i64 (a : Int)) := cell_of_one (heap_alloc2_new _ _ _)
  have hb2 : Below w.heap.size w ((w.alloc (Obj.cells #[Value.slice p n c] 22)).alloc (Obj.cells #[Value.int IntKind.i64 (a : Int)] 3)) := (by repeat (first | exact Below.refl _ _ | refine Below.alloc ?_ (by simp <;> omega) _ | refine Below.setCell ?_ (by simp <;> omega) _))
  have hct := contains_any p c l _ (hr.below hb2) n hN hn a ha w.heap.size (w.heap.size + 1) e0 e1 q d o (hrp.below hb2) m hM (by omega) ho
  rw [hM] at hno hle
  by_cases hany : o.any (sameA l a) = true
  · rw [hany] at hct
    clear hM hX hrp hr hown ho hno HM
    go_enter Try.func39, Try.ntmps39
    go_wp2_with (go_at_call 54; refine hct.mono ?_; rintro e w4 ⟨rfl, hb4⟩)
    go_ret
    exact ⟨rfl, (bel_call hb2 (Nat.le_refl _) hb4).mono hbase⟩
  · have hany' : o.any (sameA l a) = false := by simpa using hany
    rw [hany'] at hct hno
    have hm2 : 2 ≤ m := by simpa using hno
    have d2 : decide ((2 : Int) ≤ (m : Int)) = true := by simp; omega
    clear hM hX hrp hr hown ho hno hany HM
    go_enter Try.func39, Try.ntmps39
    go_wp2_with (go_at_call 54; refine hct.mono ?_; rintro e w4 ⟨rfl, hb4⟩; have c4 := (((bel_call hb2 (Nat.le_refl _) hb4)).cell (p := ⟨hb, 0, none⟩) hhb).trans c0)
    go_ret
    exact ⟨rfl, (bel_call hb2 (Nat.le_refl _) hb4).mono hbase⟩

set_option maxHeartbeats 4000000 in
set_option maxRecDepth 20000 in
theorem lock_yes (p : Option Addr) (c : Nat) (l : List In) (w : World) (hr : Rd eIn w p c l) (n : Nat) (hN : l.length = n) (hn : n ≤ 24) (hal : l.all mayB = true) (a : Nat) (ha : a < n) (base hb mb : Nat) (hpb : ∀ b o, p = some ⟨b, o, none⟩ → l ≠ [] → b < base) (o : List Nat) (ho : ∀ k ∈ o, k < n) (hX : Hx w base hb mb o (ents l o)) (hle : o.length ≤ 1) (hno : o.any (sameA l a) = false) :
    Calls Try.prog 39 #[.pointer (some ⟨hb, 0, none⟩), .slice p n c, .int .i64 a] w fun e w' => e = .returned (.bool true) ∧ Hx w' base hb mb (o ++ [a]) (ents l (o ++ [a])) ∧ Below base w w' := by
  obtain ⟨q, d, hh, hown, c0, c1, hhb, hmb, hne, hfz⟩ := hX.facts
  obtain ⟨m, hM⟩ : ∃ m, o.length = m := ⟨_, rfl⟩
  rw [hM] at hh c0
  have HM : Hid (o.length = m) := hM
  have hbase : base ≤ w.heap.size := by have := hX.b1; omega
  have hrp := own_rd hown
  have e0 : ((w.alloc (Obj.cells #[Value.slice p n c] 22)).alloc (Obj.cells #[Value.int IntKind.i64 (a : Int)] 3)).cell? ⟨w.heap.size, 0, none⟩ = some (Value.slice p n c) := cell_of_one (heap_alloc2_old _ _ _)
  have e1 : ((w.alloc (Obj.cells #[Value.slice p n c] 22)).alloc (Obj.cells #[Value.int IntKind.i64 (a : Int)] 3)).cell? ⟨w.heap.size + 1, 0, none⟩ = some (Value.int IntKind.i64 (a : Int)) := cell_of_one (heap_alloc2_new _ _ _)
  have hb2 : Below w.heap.size w ((w.alloc (Obj.cells #[Value.slice p n c] 22)).alloc (Obj.cells #[Value.int IntKind.i64 (a : Int)] 3)) := (by repeat (first | exact Below.refl _ _ | refine Below.alloc ?_ (by simp <;> omega) _ | refine Below.setCell ?_ (by simp <;> omega) _))
  have hct := contains_any p c l _ (hr.below hb2) n hN hn a ha w.heap.size (w.heap.size + 1) e0 e1 q d o (hrp.below hb2) m hM (by omega) ho
  rw [hM] at hle
  rw [hno] at hct
  have d2 : decide ((2 : Int) ≤ (m : Int)) = false := by simp; omega
  have HN : Hid (l.length = n) := hN
  clear hM hrp hN
  go_enter Try.func39, Try.ntmps39
  go_wp2_with (go_at_call 54; refine hct.mono ?_; rintro e w4 ⟨rfl, hb4⟩; have hB4 := bel_call hb2 (Nat.le_refl _) hb4; have q4 := (hB4.cell (p := ⟨hb, 0, none⟩) hhb).trans c0)
  have hX4 := hX.below hB4
  have c4 := (hb4.cell (p := ⟨w.heap.size, 0, none⟩) (by simp; omega)).trans e0
  have c5 := (hb4.cell (p := ⟨w.heap.size + 1, 0, none⟩) (by simp)).trans e1
  have z5 : w.heap.size + 1 < w4.heap.size := lt_of_cell c5
  have hown4 := own_below hown hB4
  have hhb4 : hb < w4.heap.size := by omega
  have hmb4 : mb < w4.heap.size := by omega
  have h4b := (hB4.block hb hhb).trans hh
  have hB4b := hB4.mono hbase
  have hr5h : ¬ w.heap.size + 1 = hb := by omega
  have hr4h : ¬ w.heap.size = hb := by omega
  have hr5m : ¬ w.heap.size + 1 = mb := by omega
  have hr4m : ¬ w.heap.size = mb := by omega
  have hr4q : ∀ g, q = some ⟨g, 0, none⟩ → w.heap.size ≠ g := fun g e e' => by subst e; have := World.ownsRow.lt hown g rfl; omega
  have hr5q : ∀ g, q = some ⟨g, 0, none⟩ → w.heap.size + 1 ≠ g := fun g e e' => by subst e; have := World.ownsRow.lt hown g rfl; omega
  have z4 : w.heap.size < w4.heap.size := by omega
  have z4' : base ≤ w4.heap.size := by omega
  clear e0 e1 hb2 hct hb4 hB4 hown hh c0 c1 hfz
  generalize w.heap.size = r4 at *
  generalize r4 + 1 = r5 at *
  refine wp_region_held_drew (S := fun w' => w'.cell? ⟨r5, 0, none⟩ = some (.int .i64 (a : Int)) ∧ r5 < w'.heap.size) (by kernel_rfl) ⟨c5, z5⟩ (fun hHeld => ?_)
  refine wpAnyH_take (i := 0) (oi := _) (v := ?_) rfl (by kernel_rfl) (by kernel_rfl) (by kernel_rfl) (fun _ _ _ h => h) (Or.inl ⟨by rfl, ?_⟩) hHeld ?_
  rotate_left
  · intro w' hSw
    (go_simp <;> with_reducible rfl)
  try simp only [Act.put, List.getElem_toArray, List.getElem_cons_zero, List.setIfInBounds_toArray, List.set_cons_zero, List.set_cons_succ]
  refine wpAnyH_take (i := 1) (oi := _) (v := ?_) rfl (by kernel_rfl) (by kernel_rfl) (by kernel_rfl) (fun _ _ _ h => h) (Or.inl ⟨by rfl, ?_⟩) hHeld ?_
  rotate_left
  · intro w' hSw
    (go_simp <;> with_reducible rfl)
  try simp only [Act.put, List.getElem_toArray, List.getElem_cons_succ, List.getElem_cons_zero, List.setIfInBounds_toArray, List.set_cons_zero, List.set_cons_succ]
  refine wpAnyH_take (i := 2) (oi := _) (v := ?_) rfl (by kernel_rfl) (by kernel_rfl) (by kernel_rfl) (fun _ _ _ h => h) (Or.inl ⟨by rfl, ?_⟩) hHeld ?_
  rotate_left
  · intro w' hSw
    (go_simp <;> with_reducible rfl)
  try simp only [Act.put, List.getElem_toArray, List.getElem_cons_succ, List.getElem_cons_zero, List.setIfInBounds_toArray, List.set_cons_zero, List.set_cons_succ]
  refine wpAnyH_take (i := 3) (oi := _) (v := ?_) rfl (by kernel_rfl) (by kernel_rfl) (by kernel_rfl) (fun _ _ _ h => h) (Or.inl ⟨by rfl, ?_⟩) hHeld ?_
  rotate_left
  · intro w' hSw
    (go_simp <;> with_reducible rfl)
  try simp only [Act.put, List.getElem_toArray, List.getElem_cons_succ, List.getElem_cons_zero, List.setIfInBounds_toArray, List.set_cons_zero, List.set_cons_succ]
  refine wpAnyH_take (i := 5) (oi := _) (v := ?_) rfl (by kernel_rfl) (by kernel_rfl) (by kernel_rfl) (fun _ _ _ h => h) (Or.inl ⟨by rfl, ?_⟩) hHeld ?_
  rotate_left
  · intro w' hSw
    obtain ⟨k5, _⟩ := hSw
    (go_simp <;> with_reducible rfl)
  try simp only [Act.put, List.getElem_toArray, List.getElem_cons_succ, List.getElem_cons_zero, List.setIfInBounds_toArray, List.set_cons_zero, List.set_cons_succ]
  refine wpAnyH_ready (rs := [4, 6]) (by kernel_rfl) (by simp) ?_
  refine AllReadyH.cons (o := _) rfl (fun K hK => ?_) (AllReadyH.cons (o := _) rfl (fun K hK => ?_) AllReadyH.nil)
  · go_simp
    refine hK.out _ _ ⟨c5, z5⟩ (fun hHeld => ?_)
    clear hK K
    try simp only [Act.put, List.getElem_toArray, List.getElem_cons_succ, List.getElem_cons_zero, List.setIfInBounds_toArray, List.set_cons_zero, List.set_cons_succ]
    have hS6 := hHeld
    have ho6 : Own eI (w4.drew.alloc (Obj.cells #[Value.int IntKind.i64 (a : Int)] 3)) base 3 q d (oI o) := own_below hown4 (((Below.refl _ _).drew).alloc (Nat.le_refl _) _)
    clear hS6
    have hS6 : (w4.drew.alloc (Obj.cells #[Value.int IntKind.i64 (a : Int)] 3)).cell? ⟨r5, 0, none⟩ = some (.int .i64 (a : Int)) ∧ r5 < (w4.drew.alloc (Obj.cells #[Value.int IntKind.i64 (a : Int)] 3)).heap.size := ⟨(((Below.refl _ w4).drew.alloc (Nat.le_refl _) _).cell (p := ⟨r5, 0, none⟩) z5).trans c5, by simp; omega⟩
    refine wpAnyH_ready (rs := [6]) (by kernel_rfl) (by simp) ?_
    refine AllReadyH.cons (o := _) rfl (fun K hK => ?_) AllReadyH.nil
    go_simp
    refine hK.out _ _ hS6 (fun hHeld => ?_)
    clear hK K
    try simp only [Act.put, List.getElem_toArray, List.getElem_cons_succ, List.getElem_cons_zero, List.setIfInBounds_toArray, List.set_cons_zero, List.set_cons_succ]
    refine wpAnyH_ready (rs := [7]) (by kernel_rfl) (by simp) ?_
    refine AllReadyH.cons (o := _) rfl (fun K hK => ?_) AllReadyH.nil
    refine step_app tI _ rfl _ _ rfl base q d (oI o) m (by rw [oI_len]; exact HM.out) rfl ho6 _ _ [(a : Int)] 1 rfl rfl ((rd_block (l := [(a : Int)]) (heap_alloc_new w4 _) 1 rfl rfl).below ((Below.refl _ _).drew)) (by omega) (by simp; omega) (m + 1) rfl ?_
    intro p7 c7 w7 ho7 hb7 hst7
    have hq7 := own_q hown4
    have hb7a : w7.heap[hb]? = w4.heap[hb]? := (hst7 hb (by simp; omega) (own_ne hown4 h4b)).trans (Below.heap_alloc _ _ _ hhb4)
    have hb7m : w7.heap[mb]? = w4.heap[mb]? := (hst7 mb (by simp; omega) (own_nm hown4 hX4.mp)).trans (Below.heap_alloc _ _ _ hmb4)
    have hb7r : w7.heap[r5]? = w4.heap[r5]? := (hst7 r5 (by simp; omega) hr5q).trans (Below.heap_alloc _ _ _ z5)
    have c75 : w7.cell? ⟨r5, 0, none⟩ = some (.int .i64 (a : Int)) := (World.cell?_of_block (a := ⟨r5, 0, none⟩) hb7r).trans c5
    have hb7q : w7.heap[r4]? = w4.heap[r4]? := (hst7 r4 (by simp; omega) hr4q).trans (Below.heap_alloc _ _ _ z4)
    have c74 : w7.cell? ⟨r4, 0, none⟩ = some (.slice p n c) := (World.cell?_of_block (a := ⟨r4, 0, none⟩) hb7q).trans c4
    have hB7 : Below base w w7 := (hB4b.trans (((Below.refl _ _).drew).alloc z4' _)).trans hb7
    have hz7 := hb7.size
    simp at hz7
    have hH7 : w7.heap[hb]? = some (.cells #[.slice q m d, .map (some mb)] 74 (0, 0)) := hb7a.trans h4b
    have hf7 : w7.frozen? ⟨hb, 0, none⟩ = false := frozen_of_row _ _ _ _ _ hH7
    have hc7 : w7.cell? ⟨hb, 0, none⟩ = some (.slice q m d) := by rw [cell_of_row _ _ _ _ _ _ hH7]; rfl
    have hX7 : Hx (w7.setCell ⟨hb, 0, none⟩ (.slice p7 (m + 1) c7)) base hb mb (o ++ [a]) (ents l o) := Hx.row hX4 hb7a hb7m (by rw [List.length_append, HM.out]; rfl) (by rw [oI_snoc]; exact ho7)
    refine hK.out _ _ ⟨c75, by omega⟩ (fun hHeld => ?_)
    clear hK K
    try simp only [Act.put, List.getElem_toArray, List.getElem_cons_succ, List.getElem_cons_zero, List.setIfInBounds_toArray, List.set_cons_zero, List.set_cons_succ]
    refine wpAnyH_take (i := 8) (oi := _) (v := ?_) rfl (by kernel_rfl) (by kernel_rfl) (by kernel_rfl) (fun _ _ _ h => h) (Or.inl ⟨by rfl, ?_⟩) hHeld ?_
    rotate_left
    · intro w' hSw
      (go_simp <;> with_reducible rfl)
    try simp only [Act.put, List.getElem_toArray, List.getElem_cons_succ, List.getElem_cons_zero, List.setIfInBounds_toArray, List.set_cons_zero, List.set_cons_succ]
    refine wpAnyH_take (i := 9) (oi := _) (v := ?_) rfl (by kernel_rfl) (by kernel_rfl) (by kernel_rfl) (fun _ _ _ h => h) (Or.inl ⟨by rfl, ?_⟩) hHeld ?_
    rotate_left
    · intro w' hSw
      (go_simp <;> with_reducible rfl)
    try simp only [Act.put, List.getElem_toArray, List.getElem_cons_succ, List.getElem_cons_zero, List.setIfInBounds_toArray, List.set_cons_zero, List.set_cons_succ]
    refine wpAnyH_ready (rs := [10]) (by kernel_rfl) (by simp) ?_
    refine AllReadyH.cons (o := _) rfl (fun K hK => ?_) AllReadyH.nil
    go_simp
    have c85 : (w7.setCell ⟨hb, 0, none⟩ (.slice p7 (m + 1) c7)).cell? ⟨r5, 0, none⟩ = some (.int .i64 (a : Int)) := (World.cell?_of_block (a := ⟨r5, 0, none⟩) (heap_setCell_other _ _ _ _ hr5h)).trans c75
    have c84 : (w7.setCell ⟨hb, 0, none⟩ (.slice p7 (m + 1) c7)).cell? ⟨r4, 0, none⟩ = some (.slice p n c) := (World.cell?_of_block (a := ⟨r4, 0, none⟩) (heap_setCell_other _ _ _ _ hr4h)).trans c74
    have hB8 : Below base w (w7.setCell ⟨hb, 0, none⟩ (.slice p7 (m + 1) c7)) := hB7.setCell hX.b1 _
    have hz8 : (w7.setCell ⟨hb, 0, none⟩ (.slice p7 (m + 1) c7)).heap.size = w7.heap.size := by simp [World.setCell]
    refine hK.out _ _ ⟨c85, by omega⟩ (fun hHeld => ?_)
    clear hK K
    refine wpAnyH_done (by kernel_rfl) ?_ _
    generalize w7.setCell ⟨hb, 0, none⟩ (.slice p7 (m + 1) c7) = w8 at *
    clear hst7 hb7 hX4 hb7a hb7m hb7r c75 hb7q c74 hB7 hH7 hf7 hc7 ho7 ho6 hHeld hown4 h4b hB4b c4 c5 hq7 hz7
    go_wp2
    obtain ⟨q8, d8, hh8, hown8, k80, k81, hhb8, hmb8, hne8, hfz8⟩ := hX7.facts
    have hz4 : r4 < w8.heap.size := lt_of_cell c84
    have hz5 : r5 < w8.heap.size := lt_of_cell c85
    have hrd : Rd eIn w8.drew p c l := (rd_under hr hB8 hpb).below ((Below.refl _ _).drew)
    have hst := site_any p c l w8.drew hrd n HN.out hn hal a ha
    have hsl := siteL_len l a
    have hen := ents_ne hno
    refine wp_region_held_drew (S := fun w' => Kp mb w8 w') (by kernel_rfl) (Kp.refl _ _).drew (fun hHeld => ?_)
    refine wpAnyH_take (i := 0) (oi := _) (v := ?_) rfl (by kernel_rfl) (by kernel_rfl) (by kernel_rfl) (fun _ _ _ h => h) (Or.inl ⟨by rfl, ?_⟩) hHeld ?_
    rotate_left
    · intro w' hSw
      (go_simp <;> with_reducible rfl)
    try simp only [Act.put, List.getElem_toArray, List.getElem_cons_zero, List.setIfInBounds_toArray, List.set_cons_zero, List.set_cons_succ]
    refine wpAnyH_take (i := 1) (oi := _) (v := ?_) rfl (by kernel_rfl) (by kernel_rfl) (by kernel_rfl) (fun _ _ _ h => h) (Or.inl ⟨by rfl, ?_⟩) hHeld ?_
    rotate_left
    · intro w' hSw
      (go_simp <;> with_reducible rfl)
    try simp only [Act.put, List.getElem_toArray, List.getElem_cons_succ, List.getElem_cons_zero, List.setIfInBounds_toArray, List.set_cons_zero, List.set_cons_succ]
    refine wpAnyH_take (i := 2) (oi := _) (v := ?_) rfl (by kernel_rfl) (by kernel_rfl) (by kernel_rfl) (fun _ _ _ h => h) (Or.inl ⟨by rfl, ?_⟩) hHeld ?_
    rotate_left
    · intro w' hSw
      (go_simp <;> with_reducible rfl)
    try simp only [Act.put, List.getElem_toArray, List.getElem_cons_succ, List.getElem_cons_zero, List.setIfInBounds_toArray, List.set_cons_zero, List.set_cons_succ]
    refine wpAnyH_take (i := 3) (oi := _) (v := ?_) rfl (by kernel_rfl) (by kernel_rfl) (by kernel_rfl) (fun _ _ _ h => h) (Or.inl ⟨by rfl, ?_⟩) hHeld ?_
    rotate_left
    · intro w' hSw
      have f3 := ((kcell hSw).1 hb 1 hhb8 hne8).trans k81
      (go_simp <;> with_reducible rfl)
    try simp only [Act.put, List.getElem_toArray, List.getElem_cons_succ, List.getElem_cons_zero, List.setIfInBounds_toArray, List.set_cons_zero, List.set_cons_succ]
    refine wpAnyH_take (i := 4) (oi := _) (v := ?_) rfl (by kernel_rfl) (by kernel_rfl) (by kernel_rfl) (fun _ _ _ h => h) (Or.inl ⟨by rfl, ?_⟩) hHeld ?_
    rotate_left
    · intro w' hSw
      have f3 := ((kcell hSw).1 r4 0 hz4 hr4m).trans c84
      (go_simp <;> with_reducible rfl)
    try simp only [Act.put, List.getElem_toArray, List.getElem_cons_succ, List.getElem_cons_zero, List.setIfInBounds_toArray, List.set_cons_zero, List.set_cons_succ]
    refine wpAnyH_take (i := 5) (oi := _) (v := ?_) rfl (by kernel_rfl) (by kernel_rfl) (by kernel_rfl) (fun _ _ _ h => h) (Or.inl ⟨by rfl, ?_⟩) hHeld ?_
    rotate_left
    · intro w' hSw
      have f3 := ((kcell hSw).1 r5 0 hz5 hr5m).trans c85
      (go_simp <;> with_reducible rfl)
    try simp only [Act.put, List.getElem_toArray, List.getElem_cons_succ, List.getElem_cons_zero, List.setIfInBounds_toArray, List.set_cons_zero, List.set_cons_succ]
    refine wpAnyH_take (i := 7) (oi := _) (v := ?_) rfl (by kernel_rfl) (by kernel_rfl) (by kernel_rfl) (fun _ _ _ h => h) (Or.inl ⟨by rfl, ?_⟩) hHeld ?_
    rotate_left
    · intro w' hSw
      have f3 := ((kcell hSw).1 r5 0 hz5 hr5m).trans c85
      (go_simp <;> with_reducible rfl)
    try simp only [Act.put, List.getElem_toArray, List.getElem_cons_succ, List.getElem_cons_zero, List.setIfInBounds_toArray, List.set_cons_zero, List.set_cons_succ]
    refine wpAnyH_ready (rs := [6]) (by kernel_rfl) (by simp) ?_
    refine AllReadyH.cons (o := _) rfl (fun K hK => ?_) AllReadyH.nil
    go_simp
    go_at_call 56
    (with_reducible (refine hst.mono ?_))
    rintro e w9 ⟨rfl, hb9⟩
    have hb9' : Below w8.heap.size w8 w9 := (Below.refl _ _).drew.trans hb9
    refine hK.out _ _ (Kp.of_below hb9') (fun hHeld => ?_)
    clear hK K
    try simp only [Act.put, List.getElem_toArray, List.getElem_cons_succ, List.getElem_cons_zero, List.setIfInBounds_toArray, List.set_cons_zero, List.set_cons_succ]
    refine wpAnyH_ready (rs := [8]) (by kernel_rfl) (by simp) ?_
    refine AllReadyH.cons (o := _) rfl (fun K hK => ?_) AllReadyH.nil
    refine step_put rfl (.tmp 36) (.tmp 39) (.tmp 40) rfl mb (ents l o) rfl (hX7.mp.below hb9') (siteL l a) hsl (a : Int) rfl rfl hen ?_
    intro w10 hm10 hk10
    have hk10' : Kp mb w8 w10 := (Kp.of_below hb9').trans hk10
    have hXf : Hx w10 base hb mb (o ++ [a]) (ents l (o ++ [a])) := by rw [ents_snoc]; exact Hx.kp hX7 hk10' hm10
    have hBf : Below base w w10 := hB8.trans (hk10'.below hX.b2 (by have := hX.b2; omega))
    refine hK.out _ _ hk10' (fun hHeld => ?_)
    clear hK K
    refine wpAnyH_done (by kernel_rfl) ?_ _
    clear hen hst hsl hX7
    go_wp2
    go_ret
    exact ⟨rfl, hXf, hBf⟩
  · have ho6 : Own eI (w4.drew.alloc (Obj.cells #[Value.int IntKind.i64 (a : Int)] 3)) base 3 q d (oI o) := own_below hown4 (((Below.refl _ _).drew).alloc (Nat.le_refl _) _)
    have hS6 : (w4.drew.alloc (Obj.cells #[Value.int IntKind.i64 (a : Int)] 3)).cell? ⟨r5, 0, none⟩ = some (.int .i64 (a : Int)) ∧ r5 < (w4.drew.alloc (Obj.cells #[Value.int IntKind.i64 (a : Int)] 3)).heap.size := ⟨(((Below.refl _ w4).drew.alloc (Nat.le_refl _) _).cell (p := ⟨r5, 0, none⟩) z5).trans c5, by simp; omega⟩
    go_simp
    refine hK.out _ _ hS6 (fun hHeld => ?_)
    clear hK K
    try simp only [Act.put, List.getElem_toArray, List.getElem_cons_succ, List.getElem_cons_zero, List.setIfInBounds_toArray, List.set_cons_zero, List.set_cons_succ]
    refine wpAnyH_ready (rs := [4]) (by kernel_rfl) (by simp) ?_
    refine AllReadyH.cons (o := _) rfl (fun K hK => ?_) AllReadyH.nil
    have q6 := (((Below.refl _ w4).drew.alloc (Nat.le_refl _) (Obj.cells #[Value.int IntKind.i64 (a : Int)] 3)).cell (p := ⟨hb, 0, none⟩) hhb4).trans q4
    go_simp
    refine hK.out _ _ hS6 (fun hHeld => ?_)
    clear hK K
    try simp only [Act.put, List.getElem_toArray, List.getElem_cons_succ, List.getElem_cons_zero, List.setIfInBounds_toArray, List.set_cons_zero, List.set_cons_succ]
    refine wpAnyH_ready (rs := [7]) (by kernel_rfl) (by simp) ?_
    refine AllReadyH.cons (o := _) rfl (fun K hK => ?_) AllReadyH.nil
    refine step_app tI _ rfl _ _ rfl base q d (oI o) m (by rw [oI_len]; exact HM.out) rfl ho6 _ _ [(a : Int)] 1 rfl rfl ((rd_block (l := [(a : Int)]) (heap_alloc_new w4 _) 1 rfl rfl).below ((Below.refl _ _).drew)) (by omega) (by simp; omega) (m + 1) rfl ?_
    intro p7 c7 w7 ho7 hb7 hst7
    have hq7 := own_q hown4
    have hb7a : w7.heap[hb]? = w4.heap[hb]? := (hst7 hb (by simp; omega) (own_ne hown4 h4b)).trans (Below.heap_alloc _ _ _ hhb4)
    have hb7m : w7.heap[mb]? = w4.heap[mb]? := (hst7 mb (by simp; omega) (own_nm hown4 hX4.mp)).trans (Below.heap_alloc _ _ _ hmb4)
    have hb7r : w7.heap[r5]? = w4.heap[r5]? := (hst7 r5 (by simp; omega) hr5q).trans (Below.heap_alloc _ _ _ z5)
    have c75 : w7.cell? ⟨r5, 0, none⟩ = some (.int .i64 (a : Int)) := (World.cell?_of_block (a := ⟨r5, 0, none⟩) hb7r).trans c5
    have hb7q : w7.heap[r4]? = w4.heap[r4]? := (hst7 r4 (by simp; omega) hr4q).trans (Below.heap_alloc _ _ _ z4)
    have c74 : w7.cell? ⟨r4, 0, none⟩ = some (.slice p n c) := (World.cell?_of_block (a := ⟨r4, 0, none⟩) hb7q).trans c4
    have hB7 : Below base w w7 := (hB4b.trans (((Below.refl _ _).drew).alloc z4' _)).trans hb7
    have hz7 := hb7.size
    simp at hz7
    have hH7 : w7.heap[hb]? = some (.cells #[.slice q m d, .map (some mb)] 74 (0, 0)) := hb7a.trans h4b
    have hf7 : w7.frozen? ⟨hb, 0, none⟩ = false := frozen_of_row _ _ _ _ _ hH7
    have hc7 : w7.cell? ⟨hb, 0, none⟩ = some (.slice q m d) := by rw [cell_of_row _ _ _ _ _ _ hH7]; rfl
    have hX7 : Hx (w7.setCell ⟨hb, 0, none⟩ (.slice p7 (m + 1) c7)) base hb mb (o ++ [a]) (ents l o) := Hx.row hX4 hb7a hb7m (by rw [List.length_append, HM.out]; rfl) (by rw [oI_snoc]; exact ho7)
    refine hK.out _ _ ⟨c75, by omega⟩ (fun hHeld => ?_)
    clear hK K
    try simp only [Act.put, List.getElem_toArray, List.getElem_cons_succ, List.getElem_cons_zero, List.setIfInBounds_toArray, List.set_cons_zero, List.set_cons_succ]
    refine wpAnyH_take (i := 8) (oi := _) (v := ?_) rfl (by kernel_rfl) (by kernel_rfl) (by kernel_rfl) (fun _ _ _ h => h) (Or.inl ⟨by rfl, ?_⟩) hHeld ?_
    rotate_left
    · intro w' hSw
      (go_simp <;> with_reducible rfl)
    try simp only [Act.put, List.getElem_toArray, List.getElem_cons_succ, List.getElem_cons_zero, List.setIfInBounds_toArray, List.set_cons_zero, List.set_cons_succ]
    refine wpAnyH_take (i := 9) (oi := _) (v := ?_) rfl (by kernel_rfl) (by kernel_rfl) (by kernel_rfl) (fun _ _ _ h => h) (Or.inl ⟨by rfl, ?_⟩) hHeld ?_
    rotate_left
    · intro w' hSw
      (go_simp <;> with_reducible rfl)
    try simp only [Act.put, List.getElem_toArray, List.getElem_cons_succ, List.getElem_cons_zero, List.setIfInBounds_toArray, List.set_cons_zero, List.set_cons_succ]
    refine wpAnyH_ready (rs := [10]) (by kernel_rfl) (by simp) ?_
    refine AllReadyH.cons (o := _) rfl (fun K hK => ?_) AllReadyH.nil
    go_simp
    have c85 : (w7.setCell ⟨hb, 0, none⟩ (.slice p7 (m + 1) c7)).cell? ⟨r5, 0, none⟩ = some (.int .i64 (a : Int)) := (World.cell?_of_block (a := ⟨r5, 0, none⟩) (heap_setCell_other _ _ _ _ hr5h)).trans c75
    have c84 : (w7.setCell ⟨hb, 0, none⟩ (.slice p7 (m + 1) c7)).cell? ⟨r4, 0, none⟩ = some (.slice p n c) := (World.cell?_of_block (a := ⟨r4, 0, none⟩) (heap_setCell_other _ _ _ _ hr4h)).trans c74
    have hB8 : Below base w (w7.setCell ⟨hb, 0, none⟩ (.slice p7 (m + 1) c7)) := hB7.setCell hX.b1 _
    have hz8 : (w7.setCell ⟨hb, 0, none⟩ (.slice p7 (m + 1) c7)).heap.size = w7.heap.size := by simp [World.setCell]
    refine hK.out _ _ ⟨c85, by omega⟩ (fun hHeld => ?_)
    clear hK K
    refine wpAnyH_done (by kernel_rfl) ?_ _
    generalize w7.setCell ⟨hb, 0, none⟩ (.slice p7 (m + 1) c7) = w8 at *
    clear hst7 hb7 hX4 hb7a hb7m hb7r c75 hb7q c74 hB7 hH7 hf7 hc7 ho7 ho6 hHeld hown4 h4b hB4b c4 c5 hq7 hz7
    go_wp2
    obtain ⟨q8, d8, hh8, hown8, k80, k81, hhb8, hmb8, hne8, hfz8⟩ := hX7.facts
    have hz4 : r4 < w8.heap.size := lt_of_cell c84
    have hz5 : r5 < w8.heap.size := lt_of_cell c85
    have hrd : Rd eIn w8.drew p c l := (rd_under hr hB8 hpb).below ((Below.refl _ _).drew)
    have hst := site_any p c l w8.drew hrd n HN.out hn hal a ha
    have hsl := siteL_len l a
    have hen := ents_ne hno
    refine wp_region_held_drew (S := fun w' => Kp mb w8 w') (by kernel_rfl) (Kp.refl _ _).drew (fun hHeld => ?_)
    refine wpAnyH_take (i := 0) (oi := _) (v := ?_) rfl (by kernel_rfl) (by kernel_rfl) (by kernel_rfl) (fun _ _ _ h => h) (Or.inl ⟨by rfl, ?_⟩) hHeld ?_
    rotate_left
    · intro w' hSw
      (go_simp <;> with_reducible rfl)
    try simp only [Act.put, List.getElem_toArray, List.getElem_cons_zero, List.setIfInBounds_toArray, List.set_cons_zero, List.set_cons_succ]
    refine wpAnyH_take (i := 1) (oi := _) (v := ?_) rfl (by kernel_rfl) (by kernel_rfl) (by kernel_rfl) (fun _ _ _ h => h) (Or.inl ⟨by rfl, ?_⟩) hHeld ?_
    rotate_left
    · intro w' hSw
      (go_simp <;> with_reducible rfl)
    try simp only [Act.put, List.getElem_toArray, List.getElem_cons_succ, List.getElem_cons_zero, List.setIfInBounds_toArray, List.set_cons_zero, List.set_cons_succ]
    refine wpAnyH_take (i := 2) (oi := _) (v := ?_) rfl (by kernel_rfl) (by kernel_rfl) (by kernel_rfl) (fun _ _ _ h => h) (Or.inl ⟨by rfl, ?_⟩) hHeld ?_
    rotate_left
    · intro w' hSw
      (go_simp <;> with_reducible rfl)
    try simp only [Act.put, List.getElem_toArray, List.getElem_cons_succ, List.getElem_cons_zero, List.setIfInBounds_toArray, List.set_cons_zero, List.set_cons_succ]
    refine wpAnyH_take (i := 3) (oi := _) (v := ?_) rfl (by kernel_rfl) (by kernel_rfl) (by kernel_rfl) (fun _ _ _ h => h) (Or.inl ⟨by rfl, ?_⟩) hHeld ?_
    rotate_left
    · intro w' hSw
      have f3 := ((kcell hSw).1 hb 1 hhb8 hne8).trans k81
      (go_simp <;> with_reducible rfl)
    try simp only [Act.put, List.getElem_toArray, List.getElem_cons_succ, List.getElem_cons_zero, List.setIfInBounds_toArray, List.set_cons_zero, List.set_cons_succ]
    refine wpAnyH_take (i := 4) (oi := _) (v := ?_) rfl (by kernel_rfl) (by kernel_rfl) (by kernel_rfl) (fun _ _ _ h => h) (Or.inl ⟨by rfl, ?_⟩) hHeld ?_
    rotate_left
    · intro w' hSw
      have f3 := ((kcell hSw).1 r4 0 hz4 hr4m).trans c84
      (go_simp <;> with_reducible rfl)
    try simp only [Act.put, List.getElem_toArray, List.getElem_cons_succ, List.getElem_cons_zero, List.setIfInBounds_toArray, List.set_cons_zero, List.set_cons_succ]
    refine wpAnyH_take (i := 5) (oi := _) (v := ?_) rfl (by kernel_rfl) (by kernel_rfl) (by kernel_rfl) (fun _ _ _ h => h) (Or.inl ⟨by rfl, ?_⟩) hHeld ?_
    rotate_left
    · intro w' hSw
      have f3 := ((kcell hSw).1 r5 0 hz5 hr5m).trans c85
      (go_simp <;> with_reducible rfl)
    try simp only [Act.put, List.getElem_toArray, List.getElem_cons_succ, List.getElem_cons_zero, List.setIfInBounds_toArray, List.set_cons_zero, List.set_cons_succ]
    refine wpAnyH_take (i := 7) (oi := _) (v := ?_) rfl (by kernel_rfl) (by kernel_rfl) (by kernel_rfl) (fun _ _ _ h => h) (Or.inl ⟨by rfl, ?_⟩) hHeld ?_
    rotate_left
    · intro w' hSw
      have f3 := ((kcell hSw).1 r5 0 hz5 hr5m).trans c85
      (go_simp <;> with_reducible rfl)
    try simp only [Act.put, List.getElem_toArray, List.getElem_cons_succ, List.getElem_cons_zero, List.setIfInBounds_toArray, List.set_cons_zero, List.set_cons_succ]
    refine wpAnyH_ready (rs := [6]) (by kernel_rfl) (by simp) ?_
    refine AllReadyH.cons (o := _) rfl (fun K hK => ?_) AllReadyH.nil
    go_simp
    go_at_call 56
    (with_reducible (refine hst.mono ?_))
    rintro e w9 ⟨rfl, hb9⟩
    have hb9' : Below w8.heap.size w8 w9 := (Below.refl _ _).drew.trans hb9
    refine hK.out _ _ (Kp.of_below hb9') (fun hHeld => ?_)
    clear hK K
    try simp only [Act.put, List.getElem_toArray, List.getElem_cons_succ, List.getElem_cons_zero, List.setIfInBounds_toArray, List.set_cons_zero, List.set_cons_succ]
    refine wpAnyH_ready (rs := [8]) (by kernel_rfl) (by simp) ?_
    refine AllReadyH.cons (o := _) rfl (fun K hK => ?_) AllReadyH.nil
    refine step_put rfl (.tmp 36) (.tmp 39) (.tmp 40) rfl mb (ents l o) rfl (hX7.mp.below hb9') (siteL l a) hsl (a : Int) rfl rfl hen ?_
    intro w10 hm10 hk10
    have hk10' : Kp mb w8 w10 := (Kp.of_below hb9').trans hk10
    have hXf : Hx w10 base hb mb (o ++ [a]) (ents l (o ++ [a])) := by rw [ents_snoc]; exact Hx.kp hX7 hk10' hm10
    have hBf : Below base w w10 := hB8.trans (hk10'.below hX.b2 (by have := hX.b2; omega))
    refine hK.out _ _ hk10' (fun hHeld => ?_)
    clear hK K
    refine wpAnyH_done (by kernel_rfl) ?_ _
    clear hen hst hsl hX7
    go_wp2
    go_ret
    exact ⟨rfl, hXf, hBf⟩
end Go.Proofs.Yteikdocpncdheaa
