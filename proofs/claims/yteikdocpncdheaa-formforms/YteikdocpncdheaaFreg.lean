/-
  The drawn regions of the law FormForms, whatever their order; a frame as a row of its own slots.
-/
import Derived.Test.YteikdocpncdheaaFr5
import Derived.Test.YteikdocpncdheaaFr6
namespace Go.Proofs.Yteikdocpncdheaa
open Go.ChangeShapes Go.WideShapes Go.ChangeAt Go.RowKit
attribute [local go_sem ↓] Go.wp_at_zero Go.wp_at_succ

theorem reg_any {ops : Array Oper} {sp : List Sp} {ds : List Nat} (n : Nat) (hsz : ops.size = n) (hA : ∀ (i : Nat) (o : Oper), ops[i]? = some o → ∀ e ∈ o.after, e.on < i) {Q : Exit → Act → World → Prop} {rb : Nat → Nat}
    (hst : ∀ {w0 : World} {tm : Array Value} {listed : Array Bool} {a : Act} {w : World}, Iv ops sp ds w0 tm listed a w → Vr rb w0 tm → ∀ (i : Nat) (o : Oper), i < n → ops[i]? = some o → (∀ e ∈ o.after, Region.binds .any e = true → listed.getD e.on false = true) → wpOp Try.prog ops Q i (fun a' w' => Iv ops sp ds w0 tm (listed.setIfInBounds i true) a' w') a w)
    {id : Nat} {a : Act} {w : World} (ht : a.tmps.size = 184) (hd : a.defers = []) (hV : Vr rb w a.tmps)
    (hQ : ∀ tm' w', tm'.size = 184 → (∀ t, t ∉ ds → tm'.getD t undef = a.tmps.getD t undef) → Below w.heap.size w w' → (∀ j, j < n → Ok (sp.getD j (.ins z4)) (tm'.getD (ds.getD j 0) undef) w') → Q .normal ⟨tm', []⟩ w') : (Code.region id ops true).wp Try.prog Q a w := by
  subst hsz
  have hI0 : Iv ops sp ds w.drew a.tmps (Array.replicate ops.size false) a w.drew := ⟨by simp, ht, hd, fun _ _ => rfl, Below.refl _ _, fun j hj hl => by simp [Array.getD_eq_getD_getElem?, hj] at hl⟩
  refine wp_region_any (by kernel_rfl) (wpAny_inv (Iv ops sp ds w.drew a.tmps) (fun listed a' w' hI hr => ?_) (fun listed a' w' i hI hi => ?_) ops.size _ a _ hI0 ?_)
  · have hall := all_up hI.size hA hr
    have hdf := hI.defs
    obtain ⟨tm', df⟩ := a'
    simp only at hdf
    subst hdf
    exact hQ tm' w' hI.tmps hI.keep (((Below.refl w.heap.size w).drew).trans hI.bel) fun j hj => hI.val j hj (hall j hj)
  · obtain ⟨h1, _, o, ho, hdep⟩ := ready_mem hi
    exact hst hI hV i o h1 ho hdep
  · unfold cntF
    have := List.length_filter_le (fun i => !(Array.replicate ops.size false).getD i true) (List.range ops.size)
    simpa using this
theorem eta_fr {ds : List Nat} {tm' tm : Array Value} (h : tm'.size = 184) (hk : ∀ t, t ∉ ds → tm'.getD t undef = tm.getD t undef) : tm' = ((List.range 184).map fun i => if i ∈ ds then tm'.getD i undef else tm.getD i undef).toArray := by
  apply Array.ext (by simp [h])
  intro i h1 h2
  have hi : i < 184 := by omega
  simp only [List.getElem_toArray, List.getElem_map, List.getElem_range]
  have hg : tm'[i] = tm'.getD i undef := by rw [Array.getD_eq_getD_getElem?, Array.getElem?_eq_getElem h1]; rfl
  by_cases hm : i ∈ ds
  · rw [if_pos hm, hg]
  · rw [if_neg hm, ← hk i hm, hg]
end Go.Proofs.Yteikdocpncdheaa
