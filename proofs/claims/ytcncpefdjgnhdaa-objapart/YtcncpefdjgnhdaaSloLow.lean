/-
  What the small functions of package slots hand back: the clones of two slices, how many places there are, the handle of a place, the first place of a bool.
-/
import Derived.Test.YtcncpefdjgnhdaaChecked
import Derived.Test.YtcncpefdjgnhdaaSloParts
import Derived.Deep.QuietTactic
import Derived.BigQuiet
import Derived.Deep.RegionHeld3
import Derived.Deep.DrawnRows
import Derived.WalkLawsBesides
import Derived.Lib.SliceRun
namespace Go.Proofs.Ytcncpefdjgnhdaa.Slo
open Go.ChangeShapes Go.WideShapes Go.ChangeAt Go.RowKit
attribute [local go_sem ↓] Go.wp_at_zero Go.wp_at_succ

theorem Try.info3 : (Try.prog.info? 3).map (fun i => (i.zero, i.size, i.bytes)) = some (some (.int .i64 0), 1, 8) := by kernel_rfl
theorem Try.info4 : (Try.prog.info? 4).map (fun i => (i.zero, i.size, i.bytes)) = some (some (.bool false), 1, 1) := by kernel_rfl

theorem ret_any {a b : Value} (h : a = b) : Ending.returned a = .returned b := by rw [h]

theorem cloneInt_any (p : Option Addr) (c : Nat) (l : List Int) (w : World) (hr : Rd w (Value.int .i64) p c l) (hl : l.length ≤ 64) :
    Calls Try.prog 59 #[.slice p l.length c] w fun e w' => ∃ p' c', e = .returned (.slice p' l.length c') ∧ Own w' w.heap.size (Value.int .i64) p' c' l ∧ Below w.heap.size w w' := by
  have hnil : ∀ (w : World) (a : Option Addr) (n c : Nat), (binOp .eql 24 (.slice a n c) (.slice none 0 0)).run Try.prog w = .ok (.bool a.isNone) w := fun w a n c => Lib.run_eql_slice_nil w 24 3 a n c 0 0 Try.underlying24
  by_cases hp : p = none
  · obtain ⟨h1, h2⟩ : l = [] ∧ c = 0 := by
      rcases hr.at_ with ⟨_, h1, h2⟩ | ⟨b, o, s, h, _, _⟩
      · exact ⟨h1, h2⟩
      · rw [hp] at h; cases h
    subst hp h1 h2
    go_enter Try.func59, Try.ntmps59
    go_wp2
    go_ret
    exact ⟨_, _, rfl, ⟨hr, fun e => absurd rfl e⟩, Below.refl _ _⟩
  · have hp' : p.isNone = false := by cases p <;> simp_all
    have hr1 : Rd (w.alloc (.cells #[] 3)) (Value.int .i64) p c l := hr.below ((Below.refl _ _).alloc (Nat.le_refl _) _)
    go_enter Try.func59, Try.ntmps59
    go_wp2_with (at_builtin; refine wpList_copy_rd _ rfl _ _ 24 rfl (Value.int .i64) 3 (.int .i64 0) 8 Try.underlying24 Try.info3 _ rfl _ _ l rfl hr1 hl (by decide) ?_; intro p' c' w1 hown hb)
    go_ret
    exact ⟨_, _, rfl, hown.mono (by simp), ((Below.refl _ _).alloc (Nat.le_refl _) _).trans (hb.mono (by simp))⟩

theorem cloneBool_any (p : Option Addr) (c : Nat) (l : List Bool) (w : World) (hr : Rd w Value.bool p c l) (hl : l.length ≤ 64) :
    Calls Try.prog 60 #[.slice p l.length c] w fun e w' => ∃ p' c', e = .returned (.slice p' l.length c') ∧ Own w' w.heap.size Value.bool p' c' l ∧ Below w.heap.size w w' := by
  have hnil : ∀ (w : World) (a : Option Addr) (n c : Nat), (binOp .eql 25 (.slice a n c) (.slice none 0 0)).run Try.prog w = .ok (.bool a.isNone) w := fun w a n c => Lib.run_eql_slice_nil w 25 4 a n c 0 0 Try.underlying25
  by_cases hp : p = none
  · obtain ⟨h1, h2⟩ : l = [] ∧ c = 0 := by
      rcases hr.at_ with ⟨_, h1, h2⟩ | ⟨b, o, s, h, _, _⟩
      · exact ⟨h1, h2⟩
      · rw [hp] at h; cases h
    subst hp h1 h2
    go_enter Try.func60, Try.ntmps60
    go_wp2
    go_ret
    exact ⟨_, _, rfl, ⟨hr, fun e => absurd rfl e⟩, Below.refl _ _⟩
  · have hp' : p.isNone = false := by cases p <;> simp_all
    have hr1 : Rd (w.alloc (.cells #[] 4)) Value.bool p c l := hr.below ((Below.refl _ _).alloc (Nat.le_refl _) _)
    go_enter Try.func60, Try.ntmps60
    go_wp2_with (at_builtin; refine wpList_copy_rd _ rfl _ _ 25 rfl Value.bool 4 (.bool false) 1 Try.underlying25 Try.info4 _ rfl _ _ l rfl hr1 hl (by decide) ?_; intro p' c' w1 hown hb)
    go_ret
    exact ⟨_, _, rfl, hown.mono (by simp), ((Below.refl _ _).alloc (Nat.le_refl _) _).trans (hb.mono (by simp))⟩

theorem ret_int {k : IntKind} {a b : Int} (h : a = b) : Ending.returned (.int k a) = .returned (.int k b) := by rw [h]
theorem places_any (gp ip : Option Addr) (n gc m ic : Nat) (w : World) :
    Calls Try.prog 73 #[.agg #[.slice gp n gc, .slice ip m ic]] w fun e w' => e = .returned (.int .i64 ((min n m : Nat) : Int)) ∧ Below w.heap.size w w' := by
  go_enter Try.func73, Try.ntmps73
  go_wp2
  all_goals
    go_ret
    exact ⟨ret_any (congrArg (Value.int .i64) (by omega)), (Below.refl _ _).alloc (Nat.le_refl _) _⟩

theorem handle_any (gp : Option Addr) (iv : Value) (gc : Nat) (gs : List Int) (k : Nat) (w : World) (hr : Rd w (Value.int .i64) gp gc gs) (hl : gs.length ≤ 64) (hk : k < gs.length) :
    Calls Try.prog 74 #[.agg #[.slice gp gs.length gc, iv], .int .i64 k] w fun e w' => e = .returned (.agg #[.int .i64 k, .int .i64 gs[k]]) ∧ Below w.heap.size w w' := by
  obtain ⟨b, o, rfl, hb, hc⟩ := hr.some (by omega)
  have hcb := hc k hk
  go_enter Try.func74, Try.ntmps74
  go_wp2
  exact bodyPost_ret (v := .agg #[.int .i64 k, .int .i64 gs[k]]) (by simp [results, Try.results74, go_sem]) rfl ⟨rfl, ((Below.refl _ _).alloc (Nat.le_refl _) _).alloc (by simp) _⟩

/-- The first place that is not taken. -/
def freeAt (l : List Bool) : Option Nat := l.findIdx? (fun b => !b)
def freeI (l : List Bool) : Int := match freeAt l with | some k => (k : Int) | none => -1
theorem freeAt_some {l : List Bool} {k : Nat} (hk : k < l.length) (h : ∀ j (hj : j < k), l[j]'(Nat.lt_trans hj hk) = true) (h0 : l[k] = false) : freeAt l = some k := by
  unfold freeAt
  rw [List.findIdx?_eq_some_iff_getElem]
  exact ⟨hk, by simp [h0], fun j hj => by simp [h j hj]⟩
theorem freeAt_none {l : List Bool} (h : ∀ j (hj : j < l.length), l[j] = true) : freeAt l = none := by
  unfold freeAt
  rw [List.findIdx?_eq_none_iff]
  intro x hx
  obtain ⟨i, hi, rfl⟩ := List.getElem_of_mem hx
  simp [h i hi]
theorem freeI_some {l : List Bool} {k : Nat} (h : freeAt l = some k) : freeI l = k := by unfold freeI; rw [h]
theorem freeI_none {l : List Bool} (h : freeAt l = none) : freeI l = -1 := by unfold freeI; rw [h]

theorem index_any (p : Option Addr) (c : Nat) (l : List Bool) (w : World) (hr : Rd w Value.bool p c l) (hl : l.length ≤ 64) :
    Calls Try.prog 72 #[.slice p l.length c, .bool false] w fun e w' => e = .returned (.int .i64 (freeI l)) ∧ w' = w := by
  go_enter Try.func72, Try.ntmps72
  go_wp2
  go_loop [8] (fun i => ∃ k : Nat, k ≤ l.length ∧ i = .int .i64 k ∧ ∀ j (hj : j < k) (hk : j < l.length), l[j] = true) (fun i => l.length - (intOf i).toNat)
  case atStart => exact ⟨0, Nat.zero_le _, rfl, fun j hj => by omega⟩
  case round =>
    obtain ⟨k, hk, rfl, hall⟩ := hrel
    have HA : Hid (∀ j (hj : j < k) (hk : j < l.length), l[j] = true) := hall
    clear hall
    by_cases hlt : k < l.length
    · obtain ⟨b, o, rfl, hb, hc⟩ := hr.some (by omega)
      have hcb := hc k hlt
      by_cases hx : l[k] = true
      · rw [hx] at hcb
        have HX : Hid (l[k] = true) := hx
        clear hx hc
        go_wp2
        go_round
        case rel => exact ⟨k + 1, by omega, by go_num, fun j hj hk' => by
          by_cases e : j = k
          · subst e; exact HX.out
          · exact HA.out j (by omega) hk'⟩
        case measure => simp [intOf]; omega
      · have hx' : l[k] = false := by simpa using hx
        rw [hx'] at hcb
        have HX : Hid (l[k] = false) := hx'
        clear hx hx' hc
        go_wp2
        go_ret
        exact ⟨ret_int (freeI_some (freeAt_some hlt (fun j hj => HA.out j hj (by omega)) HX.out)).symm, rfl⟩
    · go_wp2
      go_ret
      exact ⟨ret_int (freeI_none (freeAt_none fun j hj => HA.out j (by omega) hj)).symm, rfl⟩
theorem clone_any (gp ip : Option Addr) (gc ic : Nat) (gs : List Int) (bs : List Bool) (w : World) (hg : Rd w (Value.int .i64) gp gc gs) (hi : Rd w Value.bool ip ic bs) (hgl : gs.length ≤ 64) (hbl : bs.length ≤ 64) :
    Calls Try.prog 62 #[.agg #[.slice gp gs.length gc, .slice ip bs.length ic]] w fun e w' => Cloned w w' gs bs e := by
  obtain ⟨W, hW⟩ : ∃ W, W = (w.alloc (Obj.cells #[Value.slice gp gs.length gc, Value.slice ip bs.length ic] 27)).alloc (Obj.cells #[Value.slice none 0 0, Value.slice none 0 0] 27) := ⟨_, rfl⟩
  have hWs : W.heap.size = w.heap.size + 2 := by rw [hW]; simp
  have hWb : Below w.heap.size w W := by rw [hW]; exact ((Below.refl _ _).alloc (Nat.le_refl _) _).alloc (by simp) _
  have hc0 : W.cell? ⟨w.heap.size, 0, none⟩ = some (.slice gp gs.length gc) := by rw [hW]; simp [go_sem]
  have hc1 : W.cell? ⟨w.heap.size, 1, none⟩ = some (.slice ip bs.length ic) := by rw [hW]; simp [go_sem]
  have hd0 : W.cell? ⟨w.heap.size + 1, 0, none⟩ = some (.slice none 0 0) := by rw [hW]; simp [go_sem]
  have hd1 : W.cell? ⟨w.heap.size + 1, 1, none⟩ = some (.slice none 0 0) := by rw [hW]; simp [go_sem]
  have he0 : W.frozen? ⟨w.heap.size + 1, 0, none⟩ = false := by rw [hW]; simp [go_sem]
  have he1 : W.frozen? ⟨w.heap.size + 1, 1, none⟩ = false := by rw [hW]; simp [go_sem]
  have kS : ∀ w', Below (w.heap.size + 1) W w' → w'.cell? ⟨w.heap.size, 0, none⟩ = some (.slice gp gs.length gc) ∧ w'.cell? ⟨w.heap.size, 1, none⟩ = some (.slice ip bs.length ic) ∧ Below (w.heap.size + 1) W w' := fun w' h =>
    ⟨(h.cell (p := ⟨w.heap.size, 0, none⟩) (by show w.heap.size < _; omega)).trans hc0, (h.cell (p := ⟨w.heap.size, 1, none⟩) (by show w.heap.size < _; omega)).trans hc1, h⟩
  go_enter Try.func62, Try.ntmps62
  go_wp2
  rw [← hW]
  have HS : Hid (W.heap.size = w.heap.size + 2) := hWs
  clear hW hWs hc0 hc1
  go_region_held3 (fun w' => w'.cell? ⟨w.heap.size, 0, none⟩ = some (.slice gp gs.length gc) ∧ w'.cell? ⟨w.heap.size, 1, none⟩ = some (.slice ip bs.length ic) ∧ Below (w.heap.size + 1) W w')
    ((first | exact kS _ (Below.refl _ _).drew | exact kS _ (bel_call (‹_ ∧ _ ∧ Below _ _ _›).2.2 (by rw [HS.out]; omega) ‹Below _ _ _›) | exact kS _ (Below.setCell (Below.setCell (‹_ ∧ _ ∧ Below _ _ _›).2.2 (by simp) _) (by simp) _) | trace_state))
    ((first | (go_at_call 59; refine (cloneInt_any _ _ _ _ (hg.below (hWb.trans ((‹_ ∧ _ ∧ Below _ _ _›).2.2.mono (by omega)))) hgl).mono ?_; rintro e w1 ⟨gp', gc', rfl, hown, hb⟩; have hz : w.heap.size + 1 < W.drew.heap.size := (by show _ < W.heap.size; rw [HS.out]; omega); have hz1 : w.heap.size + 1 < w1.heap.size := Nat.lt_of_lt_of_le hz hb.size)
            | (go_at_call 60; refine (cloneBool_any _ _ _ _ (hi.below (hWb.trans ((‹_ ∧ _ ∧ Below _ _ _›).2.2.mono (by omega)))) hbl).mono ?_; rintro e w2 ⟨ip', ic', rfl, hown2, hb2⟩; have d0 := (hb2.cell (p := ⟨w.heap.size + 1, 0, none⟩) hz1).trans ((hb.cell (p := ⟨w.heap.size + 1, 0, none⟩) hz).trans hd0); have d1 := (hb2.cell (p := ⟨w.heap.size + 1, 1, none⟩) hz1).trans ((hb.cell (p := ⟨w.heap.size + 1, 1, none⟩) hz).trans hd1); have f0 := (hb2.frozen (p := ⟨w.heap.size + 1, 0, none⟩) hz1).trans ((hb.frozen (p := ⟨w.heap.size + 1, 0, none⟩) hz).trans he0); have f1 := (hb2.frozen (p := ⟨w.heap.size + 1, 1, none⟩) hz1).trans ((hb.frozen (p := ⟨w.heap.size + 1, 1, none⟩) hz).trans he1))))
  go_wp2
  refine bodyPost_ret (v := .agg #[.slice gp' gs.length gc', .slice ip' bs.length ic']) (by simp [results, Try.results62, go_sem, d0, d1]) rfl ⟨gp', gc', ip', ic', rfl, ?_, ?_, apart_of hown hown2, ?_⟩
  · exact (((hown.below hb2).setFar (fun b e hl => by obtain ⟨b', e', h1, _⟩ := hown.own hl; rw [e] at e'; cases e'; simp; omega) _).setFar (fun b e hl => by obtain ⟨b', e', h1, _⟩ := hown.own hl; rw [e] at e'; cases e'; simp; omega) _).mono (by omega)
  · exact ((hown2.setFar (fun b e hl => by obtain ⟨b', e', h1, _⟩ := hown2.own hl; rw [e] at e'; cases e'; simp; omega) _).setFar (fun b e hl => by obtain ⟨b', e', h1, _⟩ := hown2.own hl; rw [e] at e'; cases e'; simp; omega) _).mono (by omega)
  · exact hWb.trans ((‹_ ∧ _ ∧ Below _ _ _›).2.2.mono (by omega))

theorem copy_any (gp ip : Option Addr) (gc ic : Nat) (gs : List Int) (bs : List Bool) (w : World) (hg : Rd w (Value.int .i64) gp gc gs) (hi : Rd w Value.bool ip ic bs) (hgl : gs.length ≤ 64) (hbl : bs.length ≤ 64) :
    Calls Try.prog 67 #[.agg #[.slice gp gs.length gc, .slice ip bs.length ic]] w fun e w' => Cloned w w' gs bs e := by
  obtain ⟨W, hW⟩ : ∃ W, W = (w.alloc (Obj.cells #[Value.slice gp gs.length gc, Value.slice ip bs.length ic] 32)).alloc (Obj.cells #[Value.slice none 0 0, Value.slice none 0 0] 32) := ⟨_, rfl⟩
  have hWs : W.heap.size = w.heap.size + 2 := by rw [hW]; simp
  have hWb : Below w.heap.size w W := by rw [hW]; exact ((Below.refl _ _).alloc (Nat.le_refl _) _).alloc (by simp) _
  have hc0 : W.cell? ⟨w.heap.size, 0, none⟩ = some (.slice gp gs.length gc) := by rw [hW]; simp [go_sem]
  have hc1 : W.cell? ⟨w.heap.size, 1, none⟩ = some (.slice ip bs.length ic) := by rw [hW]; simp [go_sem]
  have hd0 : W.cell? ⟨w.heap.size + 1, 0, none⟩ = some (.slice none 0 0) := by rw [hW]; simp [go_sem]
  have hd1 : W.cell? ⟨w.heap.size + 1, 1, none⟩ = some (.slice none 0 0) := by rw [hW]; simp [go_sem]
  have he0 : W.frozen? ⟨w.heap.size + 1, 0, none⟩ = false := by rw [hW]; simp [go_sem]
  have he1 : W.frozen? ⟨w.heap.size + 1, 1, none⟩ = false := by rw [hW]; simp [go_sem]
  have kS : ∀ w', Below (w.heap.size + 1) W w' → w'.cell? ⟨w.heap.size, 0, none⟩ = some (.slice gp gs.length gc) ∧ w'.cell? ⟨w.heap.size, 1, none⟩ = some (.slice ip bs.length ic) ∧ Below (w.heap.size + 1) W w' := fun w' h =>
    ⟨(h.cell (p := ⟨w.heap.size, 0, none⟩) (by show w.heap.size < _; omega)).trans hc0, (h.cell (p := ⟨w.heap.size, 1, none⟩) (by show w.heap.size < _; omega)).trans hc1, h⟩
  go_enter Try.func67, Try.ntmps67
  go_wp2
  rw [← hW]
  have HS : Hid (W.heap.size = w.heap.size + 2) := hWs
  clear hW hWs hc0 hc1
  go_region_held3 (fun w' => w'.cell? ⟨w.heap.size, 0, none⟩ = some (.slice gp gs.length gc) ∧ w'.cell? ⟨w.heap.size, 1, none⟩ = some (.slice ip bs.length ic) ∧ Below (w.heap.size + 1) W w')
    ((first | exact kS _ (Below.refl _ _).drew | exact kS _ (bel_call (‹_ ∧ _ ∧ Below _ _ _›).2.2 (by rw [HS.out]; omega) ‹Below _ _ _›) | exact kS _ (Below.alloc (‹_ ∧ _ ∧ Below _ _ _›).2.2 (Nat.le_trans (by rw [HS.out]; omega) (‹_ ∧ _ ∧ Below _ _ _›).2.2.size) _) | exact kS _ (Below.setCell (Below.setCell (‹_ ∧ _ ∧ Below _ _ _›).2.2 (by simp) _) (by simp) _)))
    ((first
      | (refine step_copy_rd _ (by rfl) (.tmp 3) (.tmp 5) 24 (by rfl) (Value.int .i64) 3 (.int .i64 0) 8 Try.underlying24 Try.info3 _ (by rfl) _ _ gs (by rfl) (hg.below (hWb.trans ((‹_ ∧ _ ∧ Below _ _ _›).2.2.mono (by omega)))) hgl (by decide) ?_; intro gp' gc' w1 hown hb; have hB1 : Below W.heap.size W w1 := bel_call (by first | exact ((Below.refl _ _).alloc (Nat.le_refl _) _).drew | exact (((Below.refl _ _).alloc (Nat.le_refl _) _).alloc (by simp) _).drew) (Nat.le_refl _) hb)
      | (refine step_copy_rd _ (by rfl) (.tmp 7) (.tmp 9) 25 (by rfl) Value.bool 4 (.bool false) 1 Try.underlying25 Try.info4 _ (by rfl) _ _ bs (by rfl) (hi.below (hWb.trans ((‹_ ∧ _ ∧ Below _ _ _›).2.2.mono (by omega)))) hbl (by decide) ?_; intro ip' ic' w2 hown2 hb2; have hB2 : Below W.heap.size W w2 := bel_call (by first | exact hB1 | exact hB1.alloc hB1.size _) (Nat.le_refl _) hb2; have hz : w.heap.size + 1 < W.heap.size := (by rw [HS.out]; omega); have d0 := (hB2.cell (p := ⟨w.heap.size + 1, 0, none⟩) hz).trans hd0; have d1 := (hB2.cell (p := ⟨w.heap.size + 1, 1, none⟩) hz).trans hd1; have f0 := (hB2.frozen (p := ⟨w.heap.size + 1, 0, none⟩) hz).trans he0; have f1 := (hB2.frozen (p := ⟨w.heap.size + 1, 1, none⟩) hz).trans he1)))
  all_goals go_wp2
  all_goals
    have h12 : Below w1.heap.size w1 w2 := by first | exact hb2 | exact ((Below.refl _ _).alloc (Nat.le_refl _) _).trans (hb2.mono (by simp))
    have o1 : Own w1 W.heap.size (Value.int .i64) gp' gc' gs := hown.mono (by simp <;> omega)
    have o2 : Own w2 w1.heap.size Value.bool ip' ic' bs := by first | exact hown2 | exact hown2.mono (by simp)
    have hs1 := hB1.size
    refine bodyPost_ret (v := .agg #[.slice gp' gs.length gc', .slice ip' bs.length ic']) (by simp [results, Try.results67, go_sem, d0, d1]) rfl ⟨gp', gc', ip', ic', rfl, ?_, ?_, apart_of o1 o2, ?_⟩
    · exact (((o1.below h12).setFar (fun b e hl => by obtain ⟨b', e', h1, _⟩ := o1.own hl; rw [e] at e'; cases e'; simp; omega) _).setFar (fun b e hl => by obtain ⟨b', e', h1, _⟩ := o1.own hl; rw [e] at e'; cases e'; simp; omega) _).mono (by omega)
    · exact ((o2.setFar (fun b e hl => by obtain ⟨b', e', h1, _⟩ := o2.own hl; rw [e] at e'; cases e'; simp; omega) _).setFar (fun b e hl => by obtain ⟨b', e', h1, _⟩ := o2.own hl; rw [e] at e'; cases e'; simp; omega) _).mono (by omega)
    · exact hWb.trans ((‹_ ∧ _ ∧ Below _ _ _›).2.2.mono (by omega))

end Go.Proofs.Ytcncpefdjgnhdaa.Slo
