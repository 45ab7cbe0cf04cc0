/-
  What New of package slots and the document's own NewSlots hand back: so many places, none of them taken.
-/
import Derived.Test.YtcncpefdjgnhdaaSloLow
import Derived.Deep.OwnRows
namespace Go.Proofs.Ytcncpefdjgnhdaa.Slo
open Go.ChangeShapes Go.WideShapes Go.ChangeAt Go.RowKit Go.Deep
attribute [local go_sem ↓] Go.wp_at_zero Go.wp_at_succ

/-- How many places New gives. -/
def newN (n : Int) : Nat := (min (max n 0) 64).toNat
theorem newN_le (n : Int) : newN n ≤ 64 := by unfold newN; omega

/-- e hands back so many places, none of them taken, in memory of its own. -/
def Made (w w' : World) (m : Nat) (e : Ending) : Prop :=
  ∃ gp gc ip ic, e = .returned (.agg #[.slice gp (List.replicate m (0 : Int)).length gc, .slice ip (List.replicate m false).length ic]) ∧ Own w' w.heap.size (Value.int .i64) gp gc (List.replicate m 0) ∧ Own w' w.heap.size Value.bool ip ic (List.replicate m false) ∧ Below w.heap.size w w'

theorem mk_int (m : Nat) (hm : m ≤ 64) (x : Int) (hx : x = m) (w : World) : (Instr.makeSlice 24 (.int .i64 x) (.int .i64 x)).run Try.prog w = .ok (.slice (some ⟨w.heap.size, 0, none⟩) m m) (w.alloc (.cells (madeCells #[.int .i64 0] m) 3)) := by
  subst hx; exact run_make_row' (P := Try.prog) 24 3 (.int .i64 0) 8 Try.underlying24 Try.info3 rfl .i64 .i64 m (by omega) (by omega) w
theorem mk_bool (m : Nat) (hm : m ≤ 64) (x : Int) (hx : x = m) (w : World) : (Instr.makeSlice 25 (.int .i64 x) (.int .i64 x)).run Try.prog w = .ok (.slice (some ⟨w.heap.size, 0, none⟩) m m) (w.alloc (.cells (madeCells #[.bool false] m) 4)) := by
  subst hx; exact run_make_row' (P := Try.prog) 25 4 (.bool false) 1 Try.underlying25 Try.info4 rfl .i64 .i64 m (by omega) (by omega) w

theorem own_made {α : Type} (W : World) (f : α → Value) (x : α) (m e b base : Nat) (hb : b = W.heap.size) (hB : base ≤ b) : Own (W.alloc (.cells (madeCells #[f x] m) e)) base f (some ⟨b, 0, none⟩) m (List.replicate m x) := by
  subst hb
  refine ⟨⟨by simp, .inr ⟨_, 0, none, rfl, fun _ => rfl, fun i hi => ?_⟩⟩, fun _ => ⟨_, rfl, hB, by simp, fun i => ?_⟩⟩
  · have hi' : i < m := by simpa using hi
    have hsz : (madeCells #[f x] m)[0 + i]? = some (f x) := by
      rw [← Array.getElem?_toList, toList_madeCells_one, Nat.zero_add]; simp [hi']
    rw [cell_of_row _ W.heap.size _ _ e (0, 0) (heap_alloc_new W _), hsz]
    simp
  · unfold World.frozen?
    rw [show (W.alloc (.cells (madeCells #[f x] m) e)).heap[W.heap.size]? = _ from heap_alloc_new W _]
    simp
theorem made_fst (w : World) (m : Nat) (o : Obj) : Made w ((((w.alloc o).alloc (.cells (madeCells #[.int .i64 0] m) 3)).alloc (.cells (madeCells #[.bool false] m) 4)).drew) m (.returned (.agg #[.slice (some ⟨w.heap.size + 1, 0, none⟩) m m, .slice (some ⟨w.heap.size + 1 + 1, 0, none⟩) m m])) := by
  refine ⟨some ⟨w.heap.size + 1, 0, none⟩, m, some ⟨w.heap.size + 1 + 1, 0, none⟩, m, by simp, ?_, ?_, ?_⟩
  · exact (own_made (w.alloc o) (Value.int .i64) 0 m 3 _ _ (by simp) (by omega)).below ((Below.refl _ _).alloc (Nat.le_refl _) _).drew
  · exact (own_made ((w.alloc o).alloc (.cells (madeCells #[.int .i64 0] m) 3)) Value.bool false m 4 _ _ (by simp) (by omega)).below (Below.refl _ _).drew
  · exact ((((Below.refl _ _).alloc (Nat.le_refl _) _).alloc (by simp) _).alloc (by simp; omega) _).drew
theorem made_snd (w : World) (m : Nat) (o : Obj) : Made w ((((w.alloc o).alloc (.cells (madeCells #[.bool false] m) 4)).alloc (.cells (madeCells #[.int .i64 0] m) 3)).drew) m (.returned (.agg #[.slice (some ⟨w.heap.size + 1 + 1, 0, none⟩) m m, .slice (some ⟨w.heap.size + 1, 0, none⟩) m m])) := by
  refine ⟨some ⟨w.heap.size + 1 + 1, 0, none⟩, m, some ⟨w.heap.size + 1, 0, none⟩, m, by simp, ?_, ?_, ?_⟩
  · exact (own_made ((w.alloc o).alloc (.cells (madeCells #[.bool false] m) 4)) (Value.int .i64) 0 m 3 _ _ (by simp) (by omega)).below (Below.refl _ _).drew
  · exact (own_made (w.alloc o) Value.bool false m 4 _ _ (by simp) (by omega)).below ((Below.refl _ _).alloc (Nat.le_refl _) _).drew
  · exact ((((Below.refl _ _).alloc (Nat.le_refl _) _).alloc (by simp) _).alloc (by simp; omega) _).drew

set_option maxHeartbeats 400000 in
theorem new_any (n : Int) (w : World) : Calls Try.prog 33 #[.int .i64 n] w fun e w' => Made w w' (newN n) e := by
  by_cases h0 : n < 0
  · have e0 : newN n = 0 := by unfold newN; omega
    rw [e0]
    clear e0
    have hmi := mk_int 0 (by omega) 0 rfl
    have hmb := mk_bool 0 (by omega) 0 rfl
    go_enter Try.func33, Try.ntmps33
    go_wp2
    all_goals go_region
    all_goals go_wp2
    · exact bodyPost_ret (v := .agg #[.slice (some ⟨w.heap.size + 1, 0, none⟩) 0 0, .slice (some ⟨w.heap.size + 1 + 1, 0, none⟩) 0 0]) (by simp [results, Try.results33, go_sem]) rfl (made_fst w 0 _)
    · exact bodyPost_ret (v := .agg #[.slice (some ⟨w.heap.size + 1 + 1, 0, none⟩) 0 0, .slice (some ⟨w.heap.size + 1, 0, none⟩) 0 0]) (by simp [results, Try.results33, go_sem]) rfl (made_snd w 0 _)
  · by_cases h1 : 64 < n
    · have e0 : newN n = 64 := by unfold newN; omega
      rw [e0]
      clear e0
      have hmi := mk_int 64 (by omega) 64 rfl
      have hmb := mk_bool 64 (by omega) 64 rfl
      go_enter Try.func33, Try.ntmps33
      go_wp2
      all_goals go_region
      all_goals go_wp2
      · exact bodyPost_ret (v := .agg #[.slice (some ⟨w.heap.size + 1, 0, none⟩) 64 64, .slice (some ⟨w.heap.size + 1 + 1, 0, none⟩) 64 64]) (by simp [results, Try.results33, go_sem]) rfl (made_fst w 64 _)
      · exact bodyPost_ret (v := .agg #[.slice (some ⟨w.heap.size + 1 + 1, 0, none⟩) 64 64, .slice (some ⟨w.heap.size + 1, 0, none⟩) 64 64]) (by simp [results, Try.results33, go_sem]) rfl (made_snd w 64 _)
    · obtain ⟨m, rfl⟩ : ∃ m : Nat, n = m := ⟨n.toNat, by omega⟩
      have e0 : newN m = m := by unfold newN; omega
      rw [e0]
      clear e0
      have hmi := mk_int m (by omega) m rfl
      have hmb := mk_bool m (by omega) m rfl
      go_enter Try.func33, Try.ntmps33
      go_wp2
      all_goals go_region
      all_goals go_wp2
      · exact bodyPost_ret (v := .agg #[.slice (some ⟨w.heap.size + 1, 0, none⟩) m m, .slice (some ⟨w.heap.size + 1 + 1, 0, none⟩) m m]) (by simp [results, Try.results33, go_sem]) rfl (made_fst w m _)
      · exact bodyPost_ret (v := .agg #[.slice (some ⟨w.heap.size + 1 + 1, 0, none⟩) m m, .slice (some ⟨w.heap.size + 1, 0, none⟩) m m]) (by simp [results, Try.results33, go_sem]) rfl (made_snd w m _)

set_option maxHeartbeats 400000 in
theorem newSlots_any (n : Int) (w : World) : Calls Try.prog 34 #[.int .i64 n] w fun e w' => Made w w' (newN n) e := by
  by_cases h0 : n < 0
  · have e0 : newN n = 0 := by unfold newN; omega
    rw [e0]
    clear e0
    have hmi := mk_int 0 (by omega) 0 rfl
    have hmb := mk_bool 0 (by omega) 0 rfl
    go_enter Try.func34, Try.ntmps34
    go_wp2
    all_goals go_region
    all_goals go_wp2
    · exact bodyPost_ret (v := .agg #[.slice (some ⟨w.heap.size + 1, 0, none⟩) 0 0, .slice (some ⟨w.heap.size + 1 + 1, 0, none⟩) 0 0]) (by simp [results, Try.results34, go_sem]) rfl (made_fst w 0 _)
    · exact bodyPost_ret (v := .agg #[.slice (some ⟨w.heap.size + 1 + 1, 0, none⟩) 0 0, .slice (some ⟨w.heap.size + 1, 0, none⟩) 0 0]) (by simp [results, Try.results34, go_sem]) rfl (made_snd w 0 _)
  · by_cases h1 : 64 < n
    · have e0 : newN n = 64 := by unfold newN; omega
      rw [e0]
      clear e0
      have hmi := mk_int 64 (by omega) 64 rfl
      have hmb := mk_bool 64 (by omega) 64 rfl
      go_enter Try.func34, Try.ntmps34
      go_wp2
      all_goals go_region
      all_goals go_wp2
      · exact bodyPost_ret (v := .agg #[.slice (some ⟨w.heap.size + 1, 0, none⟩) 64 64, .slice (some ⟨w.heap.size + 1 + 1, 0, none⟩) 64 64]) (by simp [results, Try.results34, go_sem]) rfl (made_fst w 64 _)
      · exact bodyPost_ret (v := .agg #[.slice (some ⟨w.heap.size + 1 + 1, 0, none⟩) 64 64, .slice (some ⟨w.heap.size + 1, 0, none⟩) 64 64]) (by simp [results, Try.results34, go_sem]) rfl (made_snd w 64 _)
    · obtain ⟨m, rfl⟩ : ∃ m : Nat, n = m := ⟨n.toNat, by omega⟩
      have e0 : newN m = m := by unfold newN; omega
      rw [e0]
      clear e0
      have hmi := mk_int m (by omega) m rfl
      have hmb := mk_bool m (by omega) m rfl
      go_enter Try.func34, Try.ntmps34
      go_wp2
      all_goals go_region
      all_goals go_wp2
      · exact bodyPost_ret (v := .agg #[.slice (some ⟨w.heap.size + 1, 0, none⟩) m m, .slice (some ⟨w.heap.size + 1 + 1, 0, none⟩) m m]) (by simp [results, Try.results34, go_sem]) rfl (made_fst w m _)
      · exact bodyPost_ret (v := .agg #[.slice (some ⟨w.heap.size + 1 + 1, 0, none⟩) m m, .slice (some ⟨w.heap.size + 1, 0, none⟩) m m]) (by simp [results, Try.results34, go_sem]) rfl (made_snd w m _)

end Go.Proofs.Ytcncpefdjgnhdaa.Slo
