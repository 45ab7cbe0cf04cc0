/-
  What becomes of a table, as plain functions; the places of package slots and of the document, read.
-/
import Derived.Test.YtcncpefdjgnhdaaWaits
import Derived.Test.YtcncpefdjgnhdaaWaitr
import Derived.Test.YtcncpefdjgnhdaaSloUse
namespace Go.Proofs.Ytcncpefdjgnhdaa
open Go.ChangeShapes Go.WideShapes Go.ChangeAt Go.RowKit
attribute [local go_sem ↓] Go.wp_at_zero Go.wp_at_succ

theorem slo_rdI {w : World} {p : Option Addr} {c : Nat} {l : List Int} (h : Rd eI w p c l) : Slo.Rd w (Value.int .i64) p c l := by
  refine ⟨h.cap, ?_⟩
  rcases h.at_ with h0 | ⟨b, o, s, e, hs, _⟩
  · exact .inl h0
  · refine .inr ⟨b, o, s, e, hs, fun i hi => ?_⟩
    obtain ⟨b', o', e', _, hc⟩ := h.num i hi
    rw [e] at e'
    cases e'
    exact hc
theorem slo_rdB {w : World} {p : Option Addr} {c : Nat} {l : List Bool} (h : Rd eB w p c l) : Slo.Rd w Value.bool p c l := by
  refine ⟨h.cap, ?_⟩
  rcases h.at_ with h0 | ⟨b, o, s, e, hs, _⟩
  · exact .inl h0
  · refine .inr ⟨b, o, s, e, hs, fun i hi => ?_⟩
    obtain ⟨b', o', e', _, hc⟩ := h.bool i hi
    rw [e] at e'
    cases e'
    exact hc
theorem flI : ∀ l : List Int, fl eI l = l.map (Value.int .i64)
  | [] => rfl
  | x :: r => by rw [fl, flI r]; rfl
theorem flB : ∀ l : List Bool, fl eB l = l.map Value.bool
  | [] => rfl
  | x :: r => by rw [fl, flB r]; rfl
theorem rdI_slo {w : World} {p : Option Addr} {c : Nat} {l : List Int} (h : Slo.Rd w (Value.int .i64) p c l) : Rd eI w p c l := by
  refine ⟨h.cap, ?_⟩
  rcases h.at_ with h0 | ⟨b, o, s, e, hs, hc⟩
  · exact .inl h0
  · refine .inr ⟨b, o, s, e, hs, fun i v hv => ?_⟩
    rw [flI, List.getElem?_map, Option.map_eq_some_iff] at hv
    obtain ⟨x, hx, rfl⟩ := hv
    obtain ⟨hi, rfl⟩ := List.getElem?_eq_some_iff.1 hx
    exact hc i hi
theorem rdB_slo {w : World} {p : Option Addr} {c : Nat} {l : List Bool} (h : Slo.Rd w Value.bool p c l) : Rd eB w p c l := by
  refine ⟨h.cap, ?_⟩
  rcases h.at_ with h0 | ⟨b, o, s, e, hs, hc⟩
  · exact .inl h0
  · refine .inr ⟨b, o, s, e, hs, fun i v hv => ?_⟩
    rw [flB, List.getElem?_map, Option.map_eq_some_iff] at hv
    obtain ⟨x, hx, rfl⟩ := hv
    obtain ⟨hi, rfl⟩ := List.getElem?_eq_some_iff.1 hx
    exact hc i hi
theorem Nw.slo {α : Type} {w : World} {base : Nat} {f : α → Value} {p : Option Addr} {c : Nat} {l : List α} (h : Slo.Own w base f p c l) (hl : 0 < l.length) : Nw base p := by
  rintro b o rfl
  obtain ⟨b', e, h1, _⟩ := h.own (List.length_pos_iff.1 hl)
  cases e
  exact h1
theorem Tr.sl {w : World} {x : Tw} {T : Tb} (h : Tr w x T) (hs : Slo.Small T.G) : Slo.Sl w x.gp x.gc x.ip x.ic 12 12 T.G T.I :=
  ⟨slo_rdI h.G, slo_rdB h.I, h.gl.symm, h.il.symm, by decide, by decide, hs⟩

/-! what becomes of a table -/
def mkOk (T : Tb) (k : Int) : Bool := Slo.tOk T.G T.I && decide ((plc k T.T 12).length < mostN k)
def mkT (T : Tb) (k : Int) : Tb := ⟨Slo.tg T.G T.I, Slo.tb T.G T.I, T.T.set (Slo.tAt T.G T.I).toNat (freshT k (Slo.tAt T.G T.I) (Slo.tGen T.G T.I) 8)⟩
def mkR (T : Tb) (k : Int) : Tb := if mkOk T k then mkT T k else T
def mkA (T : Tb) (k : Int) : Int := if mkOk T k then Slo.tAt T.G T.I else 0
def mkG (T : Tb) (k : Int) : Int := if mkOk T k then Slo.tGen T.G T.I else 0
def fnA (T : Tb) (a g : Int) : Int := if Slo.hasM T.G T.I a g then a else 0
def drOk (T : Tb) (a g : Int) : Bool := Slo.hasM T.G T.I a g && decide ((T.T.getD a.toNat th0).k ≠ 1)
def drT (T : Tb) (a g : Int) : Tb := ⟨T.G, Slo.fb T.G T.I a g, T.T.set a.toNat th0⟩
def drR (T : Tb) (a g : Int) : Tb := if drOk T a g then drT T a g else T
def drW (T : Tb) (a g : Int) : List Int := if drOk T a g then waitT (T.T.getD a.toNat th0) else []
def ptR (T : Tb) (p c h : Int) (L W : List Int) (b : Nat) (F : List Wt) : Tb := if isThere T.T p then ⟨T.G, T.I, T.T.set p.toNat (putT (T.T.getD p.toNat th0) c h L W b F)⟩ else T
def tnR (T : Tb) (p : Int) : Tb := if isThere T.T p then ⟨T.G, T.I, T.T.set p.toNat (turnT (T.T.getD p.toNat th0))⟩ else T
def adR (T : Tb) : Tb := ⟨T.G, T.I, T.T.map audT⟩
def newT : Tb := ⟨List.replicate 12 0, List.replicate 12 false, List.replicate 12 th0⟩
/-- what holds of each table; N: no number is greater -/
structure Wf (N : Nat) (T : Tb) : Prop where
  gl : T.G.length = 12
  il : T.I.length = 12
  tl : T.T.length = 12
  sm : ∀ g ∈ T.G, 0 ≤ g ∧ g ≤ N
  it : ∀ i, i < 12 → (T.I.getD i false = true ↔ (T.T.getD i th0).k ≠ 0)
  ha : ∀ i, i < 12 → (T.T.getD i th0).k ≠ 0 → (T.T.getD i th0).a = i ∧ (T.T.getD i th0).g = T.G.getD i 0
theorem Wf.small {N : Nat} {T : Tb} (h : Wf N T) (hN : N ≤ 2199023255552) : Slo.Small T.G := fun g hg => by have := h.sm g hg; omega
theorem Wf.mono {N M : Nat} {T : Tb} (h : Wf N T) (hN : N ≤ M) : Wf M T := { h with sm := fun g hg => by have := h.sm g hg; omega }
theorem there_is {N : Nat} {T : Tb} (h : Wf N T) (n : Nat) (hn : n < 12) : isThere T.T (n : Int) = T.I.getD n false := by
  have := h.it n hn
  unfold isThere
  rw [Bool.eq_iff_iff, decide_eq_true_eq, this]
  constructor
  · intro h; simpa using h.2.2
  · intro h; exact ⟨by omega, by omega, by simpa using h⟩
theorem getD_set_eq {α : Type} (l : List α) (n : Nat) (x d : α) (i : Nat) : (l.set n x).getD i d = if i = n ∧ n < l.length then x else l.getD i d := by
  simp only [List.getD_eq_getElem?_getD, List.getElem?_set]
  by_cases h : n = i
  · subst h
    by_cases h2 : n < l.length
    · simp [h2]
    · simp [h2]
  · simp [h, Ne.symm h]
theorem has_lt {T : Tb} {N : Nat} (h : Wf N T) {a g : Int} (hh : Slo.hasM T.G T.I a g = true) : 0 ≤ a ∧ a < 12 ∧ (T.T.getD a.toNat th0).k ≠ 0 ∧ T.I.getD a.toNat false = true ∧ T.G.getD a.toNat 0 = g := by
  obtain ⟨k, rfl, hk, _, hb, hg⟩ := Slo.hasM_nat hh
  rw [h.gl] at hk
  have e1 : T.I.getD ((k : Int)).toNat false = true := by simp [List.getD_eq_getElem?_getD, hb]
  have e2 : T.G.getD ((k : Int)).toNat 0 = g := by simp [List.getD_eq_getElem?_getD, hg]
  exact ⟨by omega, by omega, by simpa using (h.it k hk).1 (by simpa using e1), e1, e2⟩
theorem getD_rep {α : Type} (n i : Nat) (d : α) : (List.replicate n d).getD i d = d := by
  simp only [List.getD_eq_getElem?_getD, List.getElem?_replicate]
  split <;> rfl
theorem new_wf : Wf 0 newT := by
  refine ⟨rfl, rfl, rfl, fun g hg => ?_, fun i hi => ?_, fun i hi hk => ?_⟩
  · simp [newT] at hg; omega
  · show (List.replicate 12 false).getD i false = true ↔ ((List.replicate 12 th0).getD i th0).k ≠ 0
    rw [getD_rep, getD_rep]
    simp [th0]
  · have hk2 : ((List.replicate 12 th0).getD i th0).k ≠ 0 := hk
    rw [getD_rep] at hk2
    exact absurd rfl hk2
theorem free_of {T : Tb} {N : Nat} (h : Wf N T) {k : Nat} (hk : Slo.freeIn T.G T.I = some k) : k < 12 ∧ T.I.getD k false = false := by
  obtain ⟨h1, h2, h3⟩ := Slo.freeIn_lt hk
  rw [h.gl] at h1
  exact ⟨h1, by simp [List.getD_eq_getElem?_getD, h3]⟩
theorem mem_getD {T : Tb} {N : Nat} (h : Wf N T) (k : Nat) : 0 ≤ T.G.getD k 0 ∧ T.G.getD k 0 ≤ N := by
  rw [List.getD_eq_getElem?_getD]
  cases e : T.G[k]? with
  | none => simp
  | some x => simpa using h.sm x (List.mem_of_getElem? e)
theorem mkT_wf {N : Nat} {T : Tb} (h : Wf N T) {k : Int} (hk : k ≠ 0) (hok : Slo.tOk T.G T.I = true) : Wf (N + 1) (mkT T k) := by
  unfold Slo.tOk at hok
  obtain ⟨j, hj⟩ := Option.isSome_iff_exists.1 hok
  obtain ⟨hj12, hjI⟩ := free_of h hj
  have eG : Slo.tg T.G T.I = T.G.set j (T.G.getD j 0 + 1) := by unfold Slo.tg; rw [hj]
  have eB : Slo.tb T.G T.I = T.I.set j true := by unfold Slo.tb; rw [hj]
  have eA : Slo.tAt T.G T.I = (j : Int) := by unfold Slo.tAt; rw [hj]
  have eH : Slo.tGen T.G T.I = T.G.getD j 0 + 1 := by unfold Slo.tGen; rw [hj]
  have hjm := mem_getD h j
  unfold mkT
  rw [eG, eB, eA, eH]
  refine ⟨by simp [h.gl], by simp [h.il], by simp [h.tl], fun g hg => ?_, fun i hi => ?_, fun i hi hki => ?_⟩
  · rcases List.mem_or_eq_of_mem_set hg with hg | hg
    · have := h.sm g hg; omega
    · subst hg; omega
  · simp only [Int.toNat_natCast, getD_set_eq, h.il, h.tl, hj12, and_true]
    by_cases e : i = j
    · simp [e, freshT, sealedT, hk]
    · simp only [e, if_false]; exact h.it i hi
  · simp only [Int.toNat_natCast, getD_set_eq, h.gl, h.tl, hj12, and_true] at hki ⊢
    by_cases e : i = j
    · simp [e, freshT, sealedT]
    · simp only [e, if_false] at hki ⊢; exact h.ha i hi hki
theorem small_tg {N : Nat} {T : Tb} (h : Wf N T) (hN : N ≤ 1000) : Slo.Small (Slo.tg T.G T.I) := by
  unfold Slo.tg
  split
  · intro g hg
    rename_i k _
    have := mem_getD h k
    rcases List.mem_or_eq_of_mem_set hg with hg | hg
    · have := h.sm g hg; omega
    · subst hg; omega
  · exact h.small (by omega)
theorem mkR_wf {N : Nat} {T : Tb} (h : Wf N T) (k : Int) : Wf (N + 1) (mkR T k) := by
  unfold mkR
  split
  · rename_i hh
    unfold mkOk at hh
    rw [Bool.and_eq_true, decide_eq_true_eq] at hh
    refine mkT_wf h ?_ hh.1
    rintro rfl
    have := hh.2
    simp [mostN] at this
  · exact h.mono (by omega)
theorem drR_wf {N : Nat} {T : Tb} (h : Wf N T) (a g : Int) : Wf N (drR T a g) := by
  unfold drR
  split
  · rename_i hh
    unfold drOk at hh
    rw [Bool.and_eq_true] at hh
    obtain ⟨h0, h1, h2, h3, h4⟩ := has_lt h hh.1
    obtain ⟨j, rfl⟩ := Int.eq_ofNat_of_zero_le h0
    have hj : j < 12 := by omega
    unfold drT Slo.fb
    rw [if_pos hh.1]
    refine ⟨h.gl, by simp [h.il], by simp [h.tl], h.sm, fun i hi => ?_, fun i hi hki => ?_⟩
    · simp only [Int.toNat_natCast, getD_set_eq, h.il, h.tl, hj, and_true]
      by_cases e : i = j
      · simp [e, th0]
      · simp only [e, if_false]; exact h.it i hi
    · simp only [Int.toNat_natCast, getD_set_eq, h.tl, hj, and_true] at hki ⊢
      by_cases e : i = j
      · simp [e, th0] at hki
      · simp only [e, if_false] at hki ⊢; exact h.ha i hi hki
  · exact h
/-- another thing of the same kind and handle -/
theorem set_wf {N : Nat} {T : Tb} (h : Wf N T) (j : Nat) (t : Th) (hk : t.k = (T.T.getD j th0).k) (ha : t.a = (T.T.getD j th0).a) (hg : t.g = (T.T.getD j th0).g) : Wf N ⟨T.G, T.I, T.T.set j t⟩ := by
  refine ⟨h.gl, h.il, by simp [h.tl], h.sm, fun i hi => ?_, fun i hi hki => ?_⟩
  · simp only [getD_set_eq, h.tl]
    by_cases e : i = j ∧ j < 12
    · simp only [e, and_self, if_true, hk]
      have := h.it i hi
      rw [e.1] at this
      exact this
    · simp only [e, if_false]; exact h.it i hi
  · simp only [getD_set_eq, h.tl] at hki ⊢
    by_cases e : i = j ∧ j < 12
    · simp only [e, and_self, if_true, hk, ha, hg] at hki ⊢
      have := h.ha i hi
      rw [e.1] at this
      exact this hki
    · simp only [e, if_false] at hki ⊢; exact h.ha i hi hki
theorem putT_kag (t : Th) (c h : Int) (L W : List Int) (b : Nat) (F : List Wt) : (putT t c h L W b F).k = t.k ∧ (putT t c h L W b F).a = t.a ∧ (putT t c h L W b F).g = t.g := by
  unfold putT
  split <;> exact ⟨rfl, rfl, rfl⟩
theorem ptR_wf {N : Nat} {T : Tb} (hw : Wf N T) (p c h : Int) (L W : List Int) (b : Nat) (F : List Wt) : Wf N (ptR T p c h L W b F) := by
  unfold ptR
  split
  · obtain ⟨h1, h2, h3⟩ := putT_kag (T.T.getD p.toNat th0) c h L W b F
    exact set_wf hw _ _ h1 h2 h3
  · exact hw
theorem tnR_wf {N : Nat} {T : Tb} (h : Wf N T) (p : Int) : Wf N (tnR T p) := by
  unfold tnR
  split
  · exact set_wf h _ _ rfl rfl rfl
  · exact h
theorem audT_kag (t : Th) : (audT t).k = t.k ∧ (audT t).a = t.a ∧ (audT t).g = t.g := by
  unfold audT
  split <;> exact ⟨rfl, rfl, rfl⟩
theorem getD_map_aud (l : List Th) (i : Nat) : (l.map audT).getD i th0 = audT (l.getD i th0) := by
  simp only [List.getD_eq_getElem?_getD, List.getElem?_map]
  cases l[i]? with
  | none => rfl
  | some x => rfl
theorem adR_wf {N : Nat} {T : Tb} (h : Wf N T) : Wf N (adR T) := by
  refine ⟨h.gl, h.il, by simp [adR, h.tl], h.sm, fun i hi => ?_, fun i hi hki => ?_⟩
  · simp only [adR, getD_map_aud, (audT_kag _).1]; exact h.it i hi
  · simp only [adR, getD_map_aud, (audT_kag _).1, (audT_kag _).2.1, (audT_kag _).2.2] at hki ⊢; exact h.ha i hi hki
end Go.Proofs.Ytcncpefdjgnhdaa
