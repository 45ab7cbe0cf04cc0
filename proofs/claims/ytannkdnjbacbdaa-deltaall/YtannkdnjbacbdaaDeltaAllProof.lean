/-
  Proved: for every list of steps (three bytes each), every int64 and every int the law DeltaAll returns true: what comes when, in any run, is what the document has. No condition.
-/
import Derived.Test.YtannkdnjbacbdaaRows
import Derived.Test.YtannkdnjbacbdaaAllWalk
import Derived.Test.YtannkdnjbacbdaaArgs
import Derived.WalkKit
import Derived.ProofKit
import Derived.OpenShut
import Derived.ShutString
import Derived.ChangeOld
import Derived.Below
import Derived.Deep.Slices
namespace Go.Proofs.Ytannkdnjbacbdaa.deltaAll
open Go.ChangeShapes Go.WideShapes Go.ChangeAt Go.RowKit
open Go.ChangeMaps (open_string shut_string)
set_option linter.unusedVariables false

theorem own : ownKnob Try.prog.godebug = none := by kernel_rfl
theorem laidOut : laidOutB Try.prog = true := by kernel_rfl

theorem cells5 : Try.prog.cellsOf 5 = 1 := by kernel_rfl
theorem cells26 : Try.prog.cellsOf 26 = 3 := by kernel_rfl

section
variable {H : Type} {enc : TypeId × Value → H} {W : World}

/-- Three bytes that lie side by side, read. -/
theorem open_three {fuel : Nat} {cs : List Value} {x : DataW H × List MemPlace} (h : DataW.trod enc Try.prog W 0 (fun _ => true) true fuel 26 cs = some x) :
    ∃ a b c : Int, cs = [.int .u8 a, .int .u8 b, .int .u8 c] ∧ (0 ≤ a ∧ a ≤ 255) ∧ (0 ≤ b ∧ b ≤ 255) ∧ (0 ≤ c ∧ c ≤ 255) := by
  cases fuel with
  | zero => simp [DataW.trod] at h
  | succ m =>
    rw [DataW.trod_step] at h
    unfold DataW.trodStep at h
    simp only [Try.underlying26, cells26, cells5] at h
    split at h
    · rename_i hlen
      match cs, hlen with
      | [u, v, t], _ =>
        obtain ⟨xs, hxs, _⟩ := Option.map_eq_some_iff.1 h
        have g0 := mapM_some_get hxs 0 0 (by simp)
        have g1 := mapM_some_get hxs 1 1 (by simp)
        have g2 := mapM_some_get hxs 2 2 (by simp)
        have hl : xs.length = 3 := by simpa using mapM_some_length hxs
        rw [List.getElem?_eq_getElem (by omega)] at g0 g1 g2
        obtain ⟨a, ea, _, wa⟩ := DataW.trod_int Try.underlying5 g0
        obtain ⟨b, eb, _, wb⟩ := DataW.trod_int Try.underlying5 g1
        obtain ⟨c, ec, _, wc⟩ := DataW.trod_int Try.underlying5 g2
        simp at ea eb ec
        subst ea eb ec
        exact ⟨a, b, c, rfl, bound_u8 wa, bound_u8 wb, bound_u8 wc⟩
    · cases h

/-- The list of steps, as the walk asks for it. -/
theorem open_steps {a : Option Addr} {len cap : Nat} {d : DataW H} {p : List MemPlace} (h : DataW.Trod enc Try.prog W 0 (fun _ => true) true 22 (.slice a len cap) d p) :
    ∃ L, Rd3 W a L ∧ len = L.length ∧ len ≤ maxLen := by
  obtain ⟨fuel, hf⟩ := h
  rcases Go.Deep.open_slice Try.underlying22 hf with ⟨hcs, _⟩ | ⟨x, l, c, m, n, D, Pl, hcs, _, hl, hm, hmm, _, hx⟩
  · simp [Value.cells] at hcs
    obtain ⟨rfl, rfl, rfl⟩ := hcs
    exact ⟨[], ⟨fun h => absurd rfl h, fun x hx => by simp at hx⟩, rfl, Nat.zero_le _⟩
  · simp [Value.cells] at hcs
    obtain ⟨rfl, rfl, rfl⟩ := hcs
    simp only [if_pos] at hmm
    subst hmm
    obtain ⟨T, hT⟩ := Go.Deep.choose_lt (α := Int × Int × Int) (p := fun i t => (W.cell? (x.add (i * 3)) = some (.int .u8 t.1) ∧ W.cell? ((x.add (i * 3)).add 1) = some (.int .u8 t.2.1) ∧ W.cell? ((x.add (i * 3)).add 2) = some (.int .u8 t.2.2)) ∧ (0 ≤ t.1 ∧ t.1 ≤ 255) ∧ (0 ≤ t.2.1 ∧ t.2.1 ≤ 255) ∧ (0 ≤ t.2.2 ∧ t.2.2 ≤ 255)) (fun i hi => by
      obtain ⟨cs', h1, h2⟩ := hx i hi
      rw [cells26] at h1
      obtain ⟨u, v, t, rfl, bu, bv, bt⟩ := open_three h2
      obtain ⟨_, _, hg⟩ := World.cells?_some h1
      have g0 := hg 0 (by omega)
      have g1 := hg 1 (by omega)
      have g2 := hg 2 (by omega)
      have e0 : (x.add (i * 3)).add 0 = x.add (i * 3) := by simp [Addr.add]
      rw [e0] at g0
      exact ⟨(u, v, t), ⟨g0, g1, g2⟩, bu, bv, bt⟩)
    refine ⟨(List.range len).map T, ⟨fun hne => ?_, fun y hy => ?_⟩, by simp, Nat.le_trans hl hm⟩
    · have h0 : 0 < len := by
        rcases Nat.eq_zero_or_pos len with h | h
        · exact absurd (by rw [h]; simp) hne
        · exact h
      have hs : x.spot = none := by
        have := (hT 0 (by omega)).1.1
        rw [Nat.zero_mul] at this
        exact spot_none this
      refine ⟨x.block, x.off, by cases x; simp only at hs; subst hs; rfl, fun i hi => ?_⟩
      have hi' : i < len := by simpa using hi
      have ht := (hT i (by omega)).1
      have c0 := cell_plain ht.1
      have c1 := ht.2.1
      have c2 := ht.2.2
      rw [Go.Deep.add_add] at c1 c2
      have c1 := cell_plain c1
      have c2 := cell_plain c2
      simp only [List.getElem_map, List.getElem_range]
      exact ⟨c0, c1, c2⟩
    · obtain ⟨i, hi, rfl⟩ := List.mem_map.1 hy
      exact (hT i (by have := List.mem_range.1 hi; omega)).2
end

/-! ### THE ROW's STEP: WRITTEN OUT: LEAVE IT -/
set_option maxRecDepth 100000 in
theorem lifted (os : Os) (started : os.Started) (H : Type) (enc : TypeId × Value → H) :
    ReturnsInHanded {} Try.checked os 3 .any (Rows.deltaAllSpec.pre6 enc Try.prog Try.f3 Rows.deltaAllRow.domain false) (Rows.deltaAllSpec.post enc Try.prog Try.f3 false true false false) := by
  refine returnsInHanded_of_change (C := Try.checked) own started (by kernel_rfl) Try.func3
    (ChangeSpec.witness6 (enc := enc) (C := Try.checked) false ⟨#[], #[.slice none 0 0, .int .i64 0, .int .i64 0], []⟩ 8 (by kernel_rfl) (by kernel_rfl) (by kernel_rfl) (by kernel_rfl)) ?_
  intro W base args ds gs before hval0 hW hcnd _
  have hval : ∀ (j : Nat) t v, Try.f3.params[j]? = some t → args[j]? = some v → Value.okWide Try.prog W .any base t v := hval0
  have hW' := hW
  obtain ⟨p, q, hA0, hV, rfl, hfz, hnd⟩ := hW
  have hA : DataW.TrodAll enc Try.prog W 0 (fun _ => true) true Try.f3.params.toList args.toList ds p := hA0
  rw [Try.params3] at hA hval
  obtain ⟨v0, vs0, d0, ds0, p0, q0, hargs, rfl, rfl, h0, r0⟩ := trodAll_cons hA
  obtain ⟨v1, vs1, d1, ds1, p1, q1, rfl, rfl, rfl, h1, r1⟩ := trodAll_cons r0
  obtain ⟨v2, vs2, d2, ds2, p2, q2, rfl, rfl, rfl, h2, r2⟩ := trodAll_cons r1
  obtain ⟨rfl, rfl, rfl⟩ := trodAll_nil r2
  obtain rfl : args = #[v0, v1, v2] := by cases args; simp_all
  obtain ⟨rfl, rfl⟩ := trodVars_none hV
  obtain ⟨a0, len0, cap0, rfl⟩ := okWide_slice Try.underlying22 (hval 0 22 v0 rfl rfl)
  have k0 := h0
  have lt0 : ∀ x ∈ p0, x.block < W.heap.size := by obtain ⟨m, hm⟩ := k0; exact DataW.trod_lt m _ _ _ hm
  obtain ⟨L, r0', l0, b0⟩ := open_steps h0
  obtain ⟨a1, rfl, rfl, rfl, w1⟩ := open_int Try.underlying2 (hval 1 2 v1 rfl rfl) h1
  obtain ⟨a2, rfl, rfl, rfl, w2⟩ := open_int Try.underlying3 (hval 2 3 v2 rfl rfl) h2
  have bd1 := bounds_i64 w1
  clear hA0 hval0
  refine (all_walk a0 cap0 len0 L a1 a2 W r0' l0 (by omega) (by omega)).mono fun e W' ⟨he, bel⟩ => ?_
  subst he
  exact ⟨_, rfl, _, _, _, [], _, [], hW', trodAll_mk1 (shut_bool Try.underlying4 _), (trodAll_cons_mk (Below.trod laidOut (by kernel_rfl) (of_decide_eq_true (by kernel_rfl)) k0 bel lt0) (trodAll_cons_mk (shut_int Try.underlying2 w1) (trodAll_cons_mk (shut_int Try.underlying3 w2) trodAll_mk0))), rfl, bel.frame _, fun h => by cases h⟩

theorem over : Rows.deltaAllRow.holds Try.pinned (OpenSpec.ofChange Rows.deltaAllSpec) :=
  OpenClaim.holds_of_wide 3 Try.f3 rfl rfl rfl rfl rfl rfl rfl ⟨rfl, rfl, rfl, rfl, rfl⟩ rfl rfl rfl rfl rfl (by kernel_rfl) Try.func3 (by kernel_rfl)
    (of_decide_eq_true (by kernel_rfl)) (by unfold Func.isWrapper; first | (rw [if_pos (by decide +kernel)]; kernel_rfl) | (rw [if_neg (by decide +kernel)]; exact ⟨rfl, rfl⟩))
    (fun os started H enc _ => lifted os started H enc)

/-- ████ THE STATEMENT ████ -/
theorem proved : Rows.DeltaAllSaid := over
end Go.Proofs.Ytannkdnjbacbdaa.deltaAll
namespace Go.Proofs.Ytannkdnjbacbdaa
theorem deltaAll_holds : Rows.DeltaAllSaid := deltaAll.proved
end Go.Proofs.Ytannkdnjbacbdaa
