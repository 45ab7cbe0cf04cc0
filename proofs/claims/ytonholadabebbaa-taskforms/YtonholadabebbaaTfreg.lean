/-
  A drawn region of that kind, whatever its order; a frame as a row of its own slots.
-/
import Derived.Test.YtonholadabebbaaTfr12
import Derived.Test.YtonholadabebbaaTfr13
namespace Go.Proofs.Ytonholadabebbaa
open Go.ChangeShapes Go.WideShapes Go.ChangeAt Go.RowKit
attribute [local go_sem ↓] Go.wp_at_zero Go.wp_at_succ

theorem reg_any {ops : Array Oper} {sp : List Sp} {ds : List Nat} {g base : Nat} {P0 : List Tv} {rb : Nat → Nat} (n : Nat) (hsz : ops.size = n) (hA : ∀ (i : Nat) (o : Oper), ops[i]? = some o → ∀ e ∈ o.after, Region.binds .any e = true → e.on < i) {Q : Exit → Act → World → Prop}
    (hst : ∀ {w0 : World} {tm : Array Value} {listed : Array Bool} {a : Act} {w : World}, Iv ops sp ds g base P0 w0 tm listed a w → g < w0.heap.size → Vr g rb w0 tm → ∀ (i : Nat) (o : Oper), i < n → listed.getD i true = false → ops[i]? = some o → (∀ e ∈ o.after, Region.binds .any e = true → listed.getD e.on false = true) → wpOp Try.prog ops Q i (fun a' w' => Iv ops sp ds g base P0 w0 tm (listed.setIfInBounds i true) a' w') a w)
    {id : Nat} {a : Act} {w : World} (ht : a.tmps.size = 153) (hd : a.defers = []) (hg : g < w.heap.size) (hV : Vr g rb w a.tmps) (hO : Own eTk w base 24 (some ⟨g, 0, none⟩) 15 P0) (hl : P0.length = 15)
    (hQ : ∀ tm' w', tm'.size = 153 → (∀ t, t ∉ ds → tm'.getD t undef = a.tmps.getD t undef) → Kp g w w' → (∃ P : List Tv, Own eTk w' base 24 (some ⟨g, 0, none⟩) 15 P ∧ P.length = 15 ∧ (∀ k, (∀ j, j < n → tgt (sp.getD j dv) ≠ some k) → P[k]? = P0[k]?) ∧ ∀ j, j < n → OkT w.heap.size (sp.getD j dv) P w') → Q .normal ⟨tm', []⟩ w') : (Code.region id ops true).wp Try.prog Q a w := by
  subst hsz
  have hI0 : Iv ops sp ds g base P0 w.drew a.tmps (Array.replicate ops.size false) a w.drew := ⟨by simp, ht, hd, fun _ _ => rfl, Kp.refl _ _, fun j hj hl => by simp [Array.getD_eq_getD_getElem?, hj] at hl, P0, own_below hO (Below.refl w.heap.size w).drew, hl, fun _ _ => rfl, fun j hj hl => by simp [Array.getD_eq_getD_getElem?, hj] at hl⟩
  have hV0 : Vr g rb w.drew a.tmps := ⟨hV.at_, hV.bad⟩
  refine wp_region_any (by kernel_rfl) (wpAny_inv (Iv ops sp ds g base P0 w.drew a.tmps) (fun listed a' w' hI hr => ?_) (fun listed a' w' i hI hi => ?_) ops.size _ a _ hI0 ?_)
  · have hall := all_up hI.size hA hr
    have hdf := hI.defs
    obtain ⟨tm', df⟩ := a'
    simp only at hdf
    subst hdf
    obtain ⟨P, o1, o2, o3, o4⟩ := hI.mem
    exact hQ tm' w' hI.tmps hI.keep ((Kp.refl g w).drew.trans hI.kp) ⟨P, o1, o2, fun k hk => o3 k fun j hj _ => hk j hj, fun j hj => o4 j hj (hall j hj)⟩
  · obtain ⟨h1, h2, o, ho, hdep⟩ := ready_mem hi
    exact hst hI hg hV0 i o h1 h2 ho hdep
  · unfold cntF
    have := List.length_filter_le (fun i => !(Array.replicate ops.size false).getD i true) (List.range ops.size)
    simpa using this
theorem eta_fr {ds : List Nat} {tm' tm : Array Value} (h : tm'.size = 153) (hk : ∀ t, t ∉ ds → tm'.getD t undef = tm.getD t undef) : tm' = ((List.range 153).map fun i => if i ∈ ds then tm'.getD i undef else tm.getD i undef).toArray := by
  apply Array.ext (by simp [h])
  intro i h1 h2
  have hi : i < 153 := by omega
  simp only [List.getElem_toArray, List.getElem_map, List.getElem_range]
  have hg : tm'[i] = tm'.getD i undef := by rw [Array.getD_eq_getD_getElem?, Array.getElem?_eq_getElem h1]; rfl
  by_cases hm : i ∈ ds
  · rw [if_pos hm, hg]
  · rw [if_neg hm, ← hk i hm, hg]
set_option maxRecDepth 100000 in
theorem lit153 (xs : Array Value) (h : xs.size = 153) : ∃ f : Nat → Value, xs = #[f 0, f 1, f 2, f 3, f 4, f 5, f 6, f 7, f 8, f 9, f 10, f 11, f 12, f 13, f 14, f 15, f 16, f 17, f 18, f 19, f 20, f 21, f 22, f 23, f 24, f 25, f 26, f 27, f 28, f 29, f 30, f 31, f 32, f 33, f 34, f 35, f 36, f 37, f 38, f 39, f 40, f 41, f 42, f 43, f 44, f 45, f 46, f 47, f 48, f 49, f 50, f 51, f 52, f 53, f 54, f 55, f 56, f 57, f 58, f 59, f 60, f 61, f 62, f 63, f 64, f 65, f 66, f 67, f 68, f 69, f 70, f 71, f 72, f 73, f 74, f 75, f 76, f 77, f 78, f 79, f 80, f 81, f 82, f 83, f 84, f 85, f 86, f 87, f 88, f 89, f 90, f 91, f 92, f 93, f 94, f 95, f 96, f 97, f 98, f 99, f 100, f 101, f 102, f 103, f 104, f 105, f 106, f 107, f 108, f 109, f 110, f 111, f 112, f 113, f 114, f 115, f 116, f 117, f 118, f 119, f 120, f 121, f 122, f 123, f 124, f 125, f 126, f 127, f 128, f 129, f 130, f 131, f 132, f 133, f 134, f 135, f 136, f 137, f 138, f 139, f 140, f 141, f 142, f 143, f 144, f 145, f 146, f 147, f 148, f 149, f 150, f 151, f 152] ∧ ∀ t, f t = xs.getD t undef :=
  ⟨fun t => xs.getD t undef, (eta_fr (ds := []) h fun _ _ => rfl).trans (by kernel_rfl), fun _ => rfl⟩
end Go.Proofs.Ytonholadabebbaa
