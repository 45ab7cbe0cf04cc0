/-
  What Has, Len and Free of package slots hand back: by the map of the handles that are somebody's.
-/
import Derived.Test.YtcncpefdjgnhdaaSloTaken
namespace Go.Proofs.Ytcncpefdjgnhdaa.Slo
open Go.ChangeShapes Go.WideShapes Go.ChangeAt Go.RowKit Go.Maps
attribute [local go_sem ↓] Go.wp_at_zero Go.wp_at_succ

/-- Is (a, g) the handle of a place that is taken? -/
def hasM (gs : List Int) (bs : List Bool) (a g : Int) : Bool := hasB gs bs (min gs.length bs.length) a g
/-- How many are taken. -/
def lenM (gs : List Int) (bs : List Bool) : Nat := (bs.take (min gs.length bs.length)).count true
/-- What is taken when (a, g) has been given back. -/
def fb (gs : List Int) (bs : List Bool) (a g : Int) : List Bool := if hasM gs bs a g = true then bs.set a.toNat false else bs

theorem zero3 (w : World) : (zeroValue 3).run Try.prog w = .ok (.int .i64 0) w := by kernel_rfl

theorem taken_look (gp ip : Option Addr) (gc ic : Nat) (gs : List Int) (bs : List Bool) (a g : Int) (w : World) (hg : Rd w (Value.int .i64) gp gc gs) (hi : Rd w Value.bool ip ic bs) (hgl : gs.length ≤ 64) (hbl : bs.length ≤ 64) (hsm : Small gs)
    (ha : (Lit.int .i64 a).wf = true) (hgw : (Lit.int .i64 g).wf = true) :
    Calls Try.prog 63 #[.agg #[.slice gp gs.length gc, .slice ip bs.length ic]] w fun e w' => ∃ B c, e = .returned (.map (some B)) ∧ Below w.heap.size w w' ∧
      (Instr.lookup 116 (.map (some B)) (.agg #[.int .i64 a, .int .i64 g]) true).run Try.prog w' = .ok (.tuple #[.int .i64 c, .bool (hasM gs bs a g)]) w' ∧ (hasM gs bs a g = true → c = a) := by
  refine (taken_any gp ip gc ic gs bs w hg hi hgl hbl hsm).mono ?_
  rintro e w' ⟨B, rfl, hown, hb⟩
  have hw0 : (Lit.int .i64 0).wf = true := by decide
  obtain ⟨v, ps, hrun, hv⟩ := hown.look_ok Try.law24 Try.underlying116 (zero3 w') (plainElem_int Try.underlying3 hw0) (keyOf_handle a g ha hgw)
  obtain ⟨c, rfl, hc, _⟩ := plainElem_int_inv Try.underlying3 hv
  rw [tk_has hsm ha hgw _ (by omega)] at hrun
  refine ⟨B, c, rfl, hb, hrun, fun h => ?_⟩
  have := tk_at hsm ha hgw (.lit (.int .i64 0)) (min gs.length bs.length) (by omega) h
  simp only [Prod.mk.injEq] at hc
  rw [this] at hc
  simpa using hc.1.symm

set_option maxHeartbeats 400000 in
theorem has_any (gp ip : Option Addr) (gc ic : Nat) (gs : List Int) (bs : List Bool) (a g : Int) (w : World) (hg : Rd w (Value.int .i64) gp gc gs) (hi : Rd w Value.bool ip ic bs) (hgl : gs.length ≤ 64) (hbl : bs.length ≤ 64) (hsm : Small gs)
    (ha : (Lit.int .i64 a).wf = true) (hgw : (Lit.int .i64 g).wf = true) :
    Calls Try.prog 54 #[.agg #[.slice gp gs.length gc, .slice ip bs.length ic], .agg #[.int .i64 a, .int .i64 g]] w fun e w' => e = .returned (.bool (hasM gs bs a g)) ∧ Below w.heap.size w w' := by
  obtain ⟨W, hW⟩ : ∃ W, W = (w.alloc (Obj.cells #[Value.slice gp gs.length gc, Value.slice ip bs.length ic] 27)).alloc (Obj.cells #[.int .i64 a, .int .i64 g] 38) := ⟨_, rfl⟩
  have hWb : Below w.heap.size w W := by rw [hW]; exact ((Below.refl _ _).alloc (Nat.le_refl _) _).alloc (by simp) _
  have hWs : W.heap.size = w.heap.size + 2 := by rw [hW]; simp
  have hc0 : W.cell? ⟨w.heap.size, 0, none⟩ = some (.slice gp gs.length gc) := by rw [hW]; simp [go_sem]
  have hc1 : W.cell? ⟨w.heap.size, 1, none⟩ = some (.slice ip bs.length ic) := by rw [hW]; simp [go_sem]
  have hc2 : W.cell? ⟨w.heap.size + 1, 0, none⟩ = some (.int .i64 a) := by rw [hW]; simp [go_sem]
  have hc3 : W.cell? ⟨w.heap.size + 1, 1, none⟩ = some (.int .i64 g) := by rw [hW]; simp [go_sem]
  have kS : ∀ w', Below W.heap.size W w' → w'.cell? ⟨w.heap.size, 0, none⟩ = some (.slice gp gs.length gc) ∧ w'.cell? ⟨w.heap.size, 1, none⟩ = some (.slice ip bs.length ic) ∧ w'.cell? ⟨w.heap.size + 1, 0, none⟩ = some (.int .i64 a) ∧ w'.cell? ⟨w.heap.size + 1, 1, none⟩ = some (.int .i64 g) := fun w' h =>
    ⟨(h.cell (p := ⟨w.heap.size, 0, none⟩) (by show w.heap.size < _; omega)).trans hc0, (h.cell (p := ⟨w.heap.size, 1, none⟩) (by show w.heap.size < _; omega)).trans hc1, (h.cell (p := ⟨w.heap.size + 1, 0, none⟩) (by show w.heap.size + 1 < _; omega)).trans hc2, (h.cell (p := ⟨w.heap.size + 1, 1, none⟩) (by show w.heap.size + 1 < _; omega)).trans hc3⟩
  go_enter Try.func54, Try.ntmps54
  go_wp2
  rw [← hW]
  have HS : Hid (W.heap.size = w.heap.size + 2) := hWs
  clear hW hWs hc0 hc1 hc2 hc3
  go_region_held3 (fun w' => w'.cell? ⟨w.heap.size, 0, none⟩ = some (.slice gp gs.length gc) ∧ w'.cell? ⟨w.heap.size, 1, none⟩ = some (.slice ip bs.length ic) ∧ w'.cell? ⟨w.heap.size + 1, 0, none⟩ = some (.int .i64 a) ∧ w'.cell? ⟨w.heap.size + 1, 1, none⟩ = some (.int .i64 g))
    ((first | with_reducible (assumption) | with_reducible (exact kS _ hb2) | exact kS _ (Below.refl _ _).drew))
    ((go_at_call 63; refine (taken_look _ _ _ _ gs bs a g _ (hg.below (hWb.trans (Below.refl _ _).drew)) (hi.below (hWb.trans (Below.refl _ _).drew)) hgl hbl hsm ha hgw).mono ?_; rintro e w2 ⟨B, c, rfl, hb2', hrun, _⟩; have hb2 : Below W.heap.size W w2 := (Below.refl _ _).drew.trans hb2'))
  go_wp2
  go_ret
  exact ⟨rfl, hWb.trans (hb2.mono (by rw [HS.out]; omega))⟩

/-- e hands back what Free promises of the places gs and bs and the handle (a, g), in memory of its own. -/
def Freed (w w' : World) (gs : List Int) (bs : List Bool) (a g : Int) (e : Ending) : Prop :=
  ∃ gp gc ip ic, e = .returned (.tuple #[.agg #[.slice gp gs.length gc, .slice ip (fb gs bs a g).length ic], .bool (hasM gs bs a g)]) ∧
    Own w' w.heap.size (Value.int .i64) gp gc gs ∧ Own w' w.heap.size Value.bool ip ic (fb gs bs a g) ∧ Below w.heap.size w w'
theorem freed_no {w w' : World} {gs : List Int} {bs : List Bool} {a g : Int} {gp ip : Option Addr} {gc ic : Nat} (hno : hasM gs bs a g = false) (hg : Own w' w.heap.size (Value.int .i64) gp gc gs) (hi : Own w' w.heap.size Value.bool ip ic bs) (hb : Below w.heap.size w w') :
    Freed w w' gs bs a g (.returned (.tuple #[.agg #[.slice gp gs.length gc, .slice ip bs.length ic], .bool false])) :=
  ⟨gp, gc, ip, ic, by simp [fb, hno], hg, by simpa [fb, hno] using hi, hb⟩
theorem freed_yes {w w' : World} {gs : List Int} {bs : List Bool} {a g : Int} {gp ip : Option Addr} {gc ic k : Nat} (hk : a = k) (hno : hasM gs bs a g = true) (hg : Own w' w.heap.size (Value.int .i64) gp gc gs) (hi : Own w' w.heap.size Value.bool ip ic (bs.set k false)) (hb : Below w.heap.size w w') :
    Freed w w' gs bs a g (.returned (.tuple #[.agg #[.slice gp gs.length gc, .slice ip bs.length ic], .bool true])) := by
  subst hk
  exact ⟨gp, gc, ip, ic, by simp [fb, hno], hg, by simpa [fb, hno] using hi, hb⟩
theorem hasM_nat {gs : List Int} {bs : List Bool} {a g : Int} (h : hasM gs bs a g = true) : ∃ k : Nat, a = k ∧ k < gs.length ∧ k < bs.length ∧ bs[k]? = some true ∧ gs[k]? = some g := by
  unfold hasM hasB at h
  simp only [decide_eq_true_eq] at h
  obtain ⟨h1, h2, h3, h4⟩ := h
  have hb : a.toNat < bs.length := by omega
  have hg : a.toNat < gs.length := by omega
  refine ⟨a.toNat, by omega, hg, hb, ?_, ?_⟩
  · rw [List.getD_eq_getElem?_getD, List.getElem?_eq_getElem hb] at h3
    rw [List.getElem?_eq_getElem hb]; simpa using h3
  · rw [List.getD_eq_getElem?_getD, List.getElem?_eq_getElem hg] at h4
    rw [List.getElem?_eq_getElem hg]; simpa using h4

set_option maxHeartbeats 400000 in
theorem free_any (gp ip : Option Addr) (gc ic : Nat) (gs : List Int) (bs : List Bool) (a g : Int) (w : World) (hg : Rd w (Value.int .i64) gp gc gs) (hi : Rd w Value.bool ip ic bs) (hgl : gs.length ≤ 64) (hbl : bs.length ≤ 64) (hsm : Small gs)
    (ha : (Lit.int .i64 a).wf = true) (hgw : (Lit.int .i64 g).wf = true) :
    Calls Try.prog 36 #[.agg #[.slice gp gs.length gc, .slice ip bs.length ic], .agg #[.int .i64 a, .int .i64 g]] w fun e w' => Freed w w' gs bs a g e := by
  obtain ⟨W, hW⟩ : ∃ W, W = ((w.alloc (Obj.cells #[Value.slice gp gs.length gc, Value.slice ip bs.length ic] 27)).alloc (Obj.cells #[.int .i64 a, .int .i64 g] 38)).alloc (Obj.cells #[Value.slice none 0 0, Value.slice none 0 0] 27) := ⟨_, rfl⟩
  have hWb : Below w.heap.size w W := by rw [hW]; exact (((Below.refl _ _).alloc (Nat.le_refl _) _).alloc (by simp) _).alloc (by simp; omega) _
  have hWs : W.heap.size = w.heap.size + 3 := by rw [hW]; simp
  have hc0 : W.cell? ⟨w.heap.size, 0, none⟩ = some (.slice gp gs.length gc) := by rw [hW]; simp [go_sem]
  have hc1 : W.cell? ⟨w.heap.size, 1, none⟩ = some (.slice ip bs.length ic) := by rw [hW]; simp [go_sem]
  have hc2 : W.cell? ⟨w.heap.size + 1, 0, none⟩ = some (.int .i64 a) := by rw [hW]; simp [go_sem]
  have hc3 : W.cell? ⟨w.heap.size + 1, 1, none⟩ = some (.int .i64 g) := by rw [hW]; simp [go_sem]
  have hd0 : W.cell? ⟨w.heap.size + 1 + 1, 0, none⟩ = some (.slice none 0 0) := by rw [hW]; simp [go_sem]
  have hd1 : W.cell? ⟨w.heap.size + 1 + 1, 1, none⟩ = some (.slice none 0 0) := by rw [hW]; simp [go_sem]
  have hf0 : ∀ o, W.frozen? ⟨w.heap.size + 1 + 1, o, none⟩ = false := fun o => by rw [hW]; simp [go_sem]
  have kS : ∀ w', Below W.heap.size W w' → w'.cell? ⟨w.heap.size, 0, none⟩ = some (.slice gp gs.length gc) ∧ w'.cell? ⟨w.heap.size, 1, none⟩ = some (.slice ip bs.length ic) ∧ w'.cell? ⟨w.heap.size + 1, 0, none⟩ = some (.int .i64 a) ∧ w'.cell? ⟨w.heap.size + 1, 1, none⟩ = some (.int .i64 g) := fun w' h =>
    ⟨(h.cell (p := ⟨w.heap.size, 0, none⟩) (by show w.heap.size < _; omega)).trans hc0, (h.cell (p := ⟨w.heap.size, 1, none⟩) (by show w.heap.size < _; omega)).trans hc1, (h.cell (p := ⟨w.heap.size + 1, 0, none⟩) (by show w.heap.size + 1 < _; omega)).trans hc2, (h.cell (p := ⟨w.heap.size + 1, 1, none⟩) (by show w.heap.size + 1 < _; omega)).trans hc3⟩
  have HS : Hid (W.heap.size = w.heap.size + 3) := hWs
  go_enter Try.func36, Try.ntmps36
  go_wp2_with (go_at_call 62; rw [← hW]; refine (clone_any _ _ _ _ gs bs _ (hg.below hWb) (hi.below hWb) hgl hbl).mono ?_; rintro e w1 ⟨gp1, gc1, ip1, ic1, rfl, hg1, hi1, hap, hb1⟩; obtain ⟨c0, c1, c2, c3⟩ := kS w1 hb1)
  have d0 : (w1.alloc (Obj.cells #[Value.slice gp1 gs.length gc1, Value.slice ip1 bs.length ic1] 27)).cell? ⟨w1.heap.size, 0, none⟩ = some (.slice gp1 gs.length gc1) := by simp [go_sem]
  have d1 : (w1.alloc (Obj.cells #[Value.slice gp1 gs.length gc1, Value.slice ip1 bs.length ic1] 27)).cell? ⟨w1.heap.size, 1, none⟩ = some (.slice ip1 bs.length ic1) := by simp [go_sem]
  have h12 : Below w1.heap.size w1 (w1.alloc (Obj.cells #[Value.slice gp1 gs.length gc1, Value.slice ip1 bs.length ic1] 27)) := (Below.refl _ _).alloc (Nat.le_refl _) _
  have hlt : w1.heap.size < (w1.alloc (Obj.cells #[Value.slice gp1 gs.length gc1, Value.slice ip1 bs.length ic1] 27)).heap.size := by simp
  generalize (w1.alloc (Obj.cells #[Value.slice gp1 gs.length gc1, Value.slice ip1 bs.length ic1] 27)) = W2 at *
  have hs1 := hb1.size
  have hW2 : Below W.heap.size W W2 := hb1.trans (h12.mono hs1)
  have hs2 := hW2.size
  have hz2 : w.heap.size + 1 + 1 < W.heap.size := by rw [hWs]; omega
  clear hW hWs hc0 hc1 hc2 hc3 c0 c1 c2 c3
  go_region_held3 (fun w' => w'.cell? ⟨w.heap.size, 0, none⟩ = some (.slice gp gs.length gc) ∧ w'.cell? ⟨w.heap.size, 1, none⟩ = some (.slice ip bs.length ic) ∧ w'.cell? ⟨w.heap.size + 1, 0, none⟩ = some (.int .i64 a) ∧ w'.cell? ⟨w.heap.size + 1, 1, none⟩ = some (.int .i64 g))
    ((first | with_reducible (assumption) | with_reducible (exact kS _ hb3) | exact kS _ hW2.drew))
    ((go_at_call 63; refine (taken_look _ _ _ _ gs bs a g _ (hg.below (hWb.trans (hW2.mono (by rw [HS.out]; omega)).drew)) (hi.below (hWb.trans (hW2.mono (by rw [HS.out]; omega)).drew)) hgl hbl hsm ha hgw).mono ?_; rintro e w3 ⟨B, c, rfl, hb2', hrun, hca⟩; have hb2 : Below W2.heap.size W2 w3 := (Below.refl _ _).drew.trans hb2'; have hb3 : Below W.heap.size W w3 := hW2.trans (hb2.mono hs2)))
  have hg3 := (hg1.below h12).below hb2
  have hi3 := (hi1.below h12).below hb2
  have hwb : Below w.heap.size w w3 := hWb.trans (hb3.mono (by rw [HS.out]; omega))
  have e0 := (hb2.cell (p := ⟨w1.heap.size, 0, none⟩) hlt).trans d0
  have e1 := (hb2.cell (p := ⟨w1.heap.size, 1, none⟩) hlt).trans d1
  have e2 := (hb3.cell (p := ⟨w.heap.size + 1 + 1, 0, none⟩) hz2).trans hd0
  have e3 := (hb3.cell (p := ⟨w.heap.size + 1 + 1, 1, none⟩) hz2).trans hd1
  have f2 : ∀ o, w3.frozen? ⟨w.heap.size + 1 + 1, o, none⟩ = false := fun o => (hb3.frozen (p := ⟨w.heap.size + 1 + 1, o, none⟩) hz2).trans (hf0 o)
  clear kS d0 d1 hd0 hd1 hf0 hrun
  cases hh : hasM gs bs a g with
  | false =>
    have HH : Hid (hasM gs bs a g = false) := hh
    clear hh
    go_wp2
    refine bodyPost_ret (v := .tuple #[.agg #[.slice gp1 gs.length gc1, .slice ip1 bs.length ic1], .bool false]) (by simp [results, Try.results36, go_sem, e2, e3]) rfl (freed_no HH.out ?_ ?_ ?_)
    · exact ((hg3.setLow hz2 _).setLow hz2 _).mono (by omega)
    · exact ((hi3.setLow hz2 _).setLow hz2 _).mono (by omega)
    · exact (hwb.setCell (by dsimp only; omega) _).setCell (by dsimp only; omega) _
  | true =>
    obtain ⟨k, hak, hkg, hkb, _, _⟩ := hasM_nat hh
    have hck : c = k := (hca hh).trans hak
    subst hck
    have HH : Hid (hasM gs bs a g = true) := hh
    have HAK : Hid (a = k) := hak
    clear hh hca hak
    obtain ⟨b', rfl, hbW', hblt', hbf', hbc'⟩ := hi3.cells (by omega)
    have hbw' : b' < w1.heap.size := by obtain ⟨_, e, _, h, _⟩ := hi1.cells (by omega); cases e; exact h
    have n1 : b' ≠ w1.heap.size := by omega
    have n5 : b' ≠ w.heap.size + 1 + 1 := by omega
    have hck' := hbc' k hkb
    clear hbc'
    have HAP : Hid (gs ≠ [] → bs ≠ [] → gp1 ≠ some ⟨b', 0, none⟩) := hap
    clear hap
    go_wp2
    refine bodyPost_ret (v := .tuple #[.agg #[.slice gp1 gs.length gc1, .slice (some ⟨b', 0, none⟩) bs.length ic1], .bool true]) (by simp [results, Try.results36, go_sem, e2, e3]) rfl (freed_yes HAK.out HH.out ?_ ?_ ?_)
    · exact (((hg3.setFar (fun b e hl eb => HAP.out hl (by intro e; simp [e] at hkb) (by rw [e]; simpa using eb)) _).setLow hz2 _).setLow hz2 _).mono (by omega)
    · exact (((hi3.setAt k hkb false).setLow hz2 _).setLow hz2 _).mono (by omega)
    · exact ((hwb.setCell (by dsimp only; omega) _).setCell (by dsimp only; omega) _).setCell (by dsimp only; omega) _

end Go.Proofs.Ytcncpefdjgnhdaa.Slo
