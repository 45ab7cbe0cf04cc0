/-
  Pieces of a run, and how long it holds what it locks: plain facts.
-/
import Derived.Test.YteikdocpncdheaaCostr
namespace Go.Proofs.Yteikdocpncdheaa

/-! ### pieces -/
theorem frs_same {l : List In} {a : Nat} : ∀ {b : Nat}, a ≤ b → (∀ i, a ≤ i → i < b → isM l i = false) → frs l b = frs l a
  | 0, h, _ => by obtain rfl : a = 0 := by omega
                  rfl
  | b + 1, h, hm => by
    by_cases e : a = b + 1
    · subst e; rfl
    · rw [(frs_no (hm b (by omega) (by omega))).1]
      exact frs_same (by omega) fun i h1 h2 => hm i h1 (by omega)
theorem no_mark {l : List In} (hP : Prg l) {f i : Nat} (hf : f ∈ arI l l.length) (hi : inA l f i = true) : isM l i = false := by
  have har := hP.nest.1 f hf
  have hin := inA_iff.1 hi
  have hle := hP.le
  have hil : i < l.length := by omega
  unfold isM
  simp only [Bool.or_eq_false_iff, beq_eq_false_iff_ne]
  refine ⟨fun h11 => ?_, fun h0 => ?_⟩
  · rw [(hP.mark i hil h11).1 f (by omega)] at hi
    cases hi
  · have := (hP.ins i hil).2.1 h0
    omega
theorem frs_area {l : List In} (hP : Prg l) {f : Nat} (hf : f ∈ arI l l.length) : frs l (f + rch (gt l f) + 1) = frs l (f + 1) :=
  frs_same (by omega) fun i h1 h2 => no_mark hP hf (inA_iff.2 (by omega))
theorem norm_frs {l : List In} (hP : Prg l) {nx : Nat} : ∀ {R : List Rp} {ub : Nat}, Cw l nx ub R → ∀ pc : Nat, (normR nx R).1 = (pc : Int) → frs l pc = frs l nx
  | [], _, _, pc, hp => by
    obtain rfl : nx = pc := by unfold normR at hp; simp only at hp; omega
    rfl
  | r :: R, ub, hC, pc, hp => by
    obtain ⟨f, k1, k2, k3, k4, k5, k6, k7, k8, k9⟩ := hC
    unfold normR at hp
    by_cases c1 : r.2.1 < (nx : Int)
    · rw [if_pos c1] at hp
      have hnx : nx = f + rch (gt l f) + 1 := by omega
      by_cases c2 : 0 < r.2.2
      · rw [if_pos c2] at hp
        obtain rfl : pc = f + 1 := by simp only at hp; omega
        rw [hnx]
        exact (frs_area hP (is_ar (.inl k2))).symm
      · rw [if_neg c2] at hp
        exact norm_frs hP k9 pc hp
    · rw [if_neg c1] at hp
      obtain rfl : nx = pc := by simp only at hp; omega
      rfl
theorem ph_ge {l : List In} (hP : Prg l) {n e : Nat} (hen : e ≤ n) (he : ∀ f, f < e → inB l f e = false) : ∀ {R : List Rp} {nx ub : Nat}, nx ≤ e → Cw l nx ub R → Sm l 0 e n ≤ ph l n nx R
  | [], nx, _, h, _ => by
    show _ ≤ Sm l 0 nx n
    rw [Sm_split h hen]
    omega
  | r :: R, nx, ub, h, hC => by
    obtain ⟨f, k1, k2, k3, k4, k5, k6, k7, k8, k9⟩ := hC
    have hb := inB_no.1 (he f (by omega))
    have hlast : f + rch (gt l f) + 1 ≤ e := by omega
    have e2 : r.2.1.toNat = f + rch (gt l f) := by omega
    have hC2 : Cw l (f + rch (gt l f) + 1) f R := cw_more hP (is_ar (.inl k2)) (Nat.le_refl _) k9 k7
    have := ph_ge hP hen he hlast hC2
    show _ ≤ _ + _ + ph l n (r.2.1.toNat + 1) R
    rw [e2]
    omega
where
  cw_more {l : List In} (hP : Prg l) {f nx : Nat} (hf : f ∈ arI l l.length) : ∀ {R : List Rp} {ub : Nat}, ub ≤ f → Cw l nx ub R → f + 1 ≤ nx → Cw l (f + rch (gt l f) + 1) ub R
  | [], _, _, _, _ => trivial
  | r :: R, ub, hu, h, h2 => by
    obtain ⟨f2, k1, k2, k3, k4, k5, k6, k7, k8, k9⟩ := h
    have hin := cw_in hP hf (is_ar (.inl k2)) (by omega) h2 k8
    exact ⟨f2, k1, k2, k3, k4, k5, k6, by omega, by omega, cw_more hP hf (by omega) k9 h2⟩
/-- the next Mark, or the End -/
theorem next_mark {l : List In} (hP : Prg l) : ∀ (k : Nat) {pc : Nat}, pc + k + 1 = l.length → ∃ e, pc ≤ e ∧ e < l.length ∧ isM l e = true ∧ frs l e = frs l pc
  | 0, pc, h => ⟨pc, Nat.le_refl _, by omega, by unfold isM; rw [(hP.ins pc (by omega)).2.2 (by omega)]; rfl, rfl⟩
  | k + 1, pc, h => by
    cases hm : isM l pc with
    | true => exact ⟨pc, Nat.le_refl _, by omega, hm, rfl⟩
    | false =>
      obtain ⟨e, h1, h2, h3, h4⟩ := next_mark hP k (pc := pc + 1) (by omega)
      exact ⟨e, by omega, h2, h3, by rw [h4, (frs_no hm).1]⟩
theorem lgs_mono (l : List In) {a : Nat} : ∀ {b : Nat}, a ≤ b → lgs l a ≤ lgs l b
  | 0, h => by obtain rfl : a = 0 := by omega
               exact Nat.le_refl _
  | b + 1, h => by
    by_cases e : a = b + 1
    · subst e; exact Nat.le_refl _
    · have ih := lgs_mono l (a := a) (b := b) (by omega)
      cases hm : isM l b with
      | true => rw [(frs_yes hm).2]; omega
      | false => rw [(frs_no hm).2]; exact ih
theorem piece_le {l : List In} (hP : Prg l) {pc : Nat} (hpc : pc < l.length) {R : List Rp} (hC : Ch l pc pc R) {pz : Nat} (hz : pz + ph l l.length pc R ≤ Sm l 0 (frs l pc) l.length) : pz + 1 ≤ lgs l l.length := by
  obtain ⟨e, h1, h2, h3, h4⟩ := next_mark hP (l.length - (pc + 1)) (pc := pc) (by omega)
  have hle := hP.le
  have he : ∀ f, f < e → inB l f e = false := fun f hf => by
    cases hb : inB l f e with
    | false => rfl
    | true =>
      have hb' := inB_iff.1 hb
      have := no_mark hP (is_ar (.inl hb'.2)) (inA_iff.2 hb'.1)
      rw [h3] at this
      cases this
  have hg := ph_ge hP (n := l.length) (Nat.le_of_lt h2) he h1 hC.weak
  have hf := frs_le l e
  rw [Sm_first h2] at hg
  rw [← h4, Sm_split (show frs l e ≤ e + 1 by omega) (show e + 1 ≤ l.length by omega)] at hz
  have hw := wt_pos hP.all (lo := 0) (i := e)
  have hl := lgs_mono l (show e + 1 ≤ l.length by omega)
  rw [(frs_yes h3).2] at hl
  omega
/-! ### what is held -/
theorem opn_gd {l0 : List In} (h : Gd l0) {i : Nat} (hi : i ≤ l0.length + 1) : opn (l0 ++ [E0]) i = stO l0 i := by
  unfold opn
  rw [gd_run h i hi]
  rfl
theorem lk_opn {l0 : List In} (h : Gd l0) {i : Nat} (hi : i ≤ l0.length + 1) : opn (l0 ++ [E0]) i = [] ∨ ∃ k, opn (l0 ++ [E0]) i = [k] ∧ (gt (l0 ++ [E0]) k).1 = 9 ∧ (i = k + 1 ∨ i = k + 2) := by
  rw [opn_gd h hi]
  unfold stO
  split
  · rename_i hc
    exact .inr ⟨i - 1, rfl, (gt_op_low _ 9 (by decide)).2 hc.2, by omega⟩
  · split
    · rename_i hc
      exact .inr ⟨i - 2, rfl, (gt_op_low _ 9 (by decide)).2 hc.2, by omega⟩
    · exact .inl rfl
/-- how long a semaphore is held -/
def sv (l : List In) (pc : Nat) (s : Int) : Int := match opn l pc with
  | [] => 0
  | i :: _ => if (gt l i).2.1 = s then (pc : Int) - (i : Int) else 0
def svL (l : List In) (pc : Nat) : List Int := [sv l pc 0, sv l pc 1, sv l pc 2, sv l pc 3]
def inc1 (v : Int) : Int := if 0 < v then v + 1 else v
def nextS (S : List Int) (xo xa : Int) : List Int := if xo = 9 then (S.map inc1).set xa.toNat 1 else if xo = 10 then (S.map inc1).set xa.toNat 0 else S.map inc1
theorem sv_nil {l : List In} {pc : Nat} (h : opn l pc = []) (s : Int) : sv l pc s = 0 := by unfold sv; rw [h]
theorem sv_one {l : List In} {pc i : Nat} (h : opn l pc = [i]) (s : Int) : sv l pc s = if (gt l i).2.1 = s then (pc : Int) - (i : Int) else 0 := by unfold sv; rw [h]
theorem norm_stay {nx : Int} {R : List Rp} (h : ∀ r ∈ R, nx ≤ r.2.1) : normR nx R = (nx, R) := by
  cases R with
  | nil => rfl
  | cons r R =>
    unfold normR
    rw [if_neg (by have := h r (by simp); omega)]
theorem ch_all {l : List In} {pc : Nat} : ∀ {R : List Rp} {ub : Nat}, Ch l pc ub R → ∀ r ∈ R, ∃ f : Nat, (gt l f).1 = 8 ∧ r.2.1 = (f : Int) + rch (gt l f) ∧ inA l f pc = true
  | [], _, _, r, hr => by cases hr
  | a :: R, ub, h, r, hr => by
    obtain ⟨f, _, k2, _, k4, _, _, k7, k8⟩ := h
    rcases List.mem_cons.1 hr with rfl | hr
    · exact ⟨f, k2, k4, k7⟩
    · exact ch_all k8 r hr
/-- within a pair the next one is next -/
theorem pair_next {l0 : List In} (h : Gd l0) {pc i : Nat} (hi9 : (gt (l0 ++ [E0]) i).1 = 9) (hpi : pc = i ∨ pc = i + 1) {R RF : List Rp} {pcF : Int} {ov : Bool} (hC : Ch (l0 ++ [E0]) pc pc R.reverse) (h0 : (gt (l0 ++ [E0]) pc).1 ≠ 0) (h7 : (gt (l0 ++ [E0]) pc).1 ≠ 7) (h8 : (gt (l0 ++ [E0]) pc).1 ≠ 8) (hr : StepRel pc R (gt (l0 ++ [E0]) pc) pcF RF ov) : pcF = (pc : Int) + 1 := by
  rcases hr with ⟨h', _⟩ | ⟨_, _, nx, hnx, hr⟩
  · exact absurd h' h0
  · rw [if_neg h8] at hr
    obtain rfl : nx = (pc : Int) + 1 := by
      rcases hnx with e | ⟨e, _⟩
      · exact e
      · exact absurd e h7
    have h9l := (gt_op_low i 9 (by decide)).1 hi9
    have hil := gd_lt h9l (by decide)
    rw [norm_stay] at hr
    · exact (congrArg Prod.fst hr).symm
    · intro r hrm
      obtain ⟨f, k2, k4, k7⟩ := ch_all hC r hrm
      have hin := inA_iff.1 k7
      have hfi : f ≠ i := by rintro rfl; omega
      have hs : inA l0 f i = true := by
        rw [← inA_low]
        exact inA_iff.2 (by omega)
      rw [h.scope f i hil h9l, ← inA_low] at hs
      have := inA_iff.1 hs
      omega
theorem map_inc (l : List In) (pc : Nat) : (svL l pc).map inc1 = [inc1 (sv l pc 0), inc1 (sv l pc 1), inc1 (sv l pc 2), inc1 (sv l pc 3)] := rfl
theorem inc_zero : inc1 0 = 0 := rfl
/-- what the law's row is behind a step -/
theorem sv_step {l0 : List In} (hG : Gd l0) (hP : Prg (l0 ++ [E0])) {pc : Nat} (hpc : pc < (l0 ++ [E0]).length) (h0 : (gt (l0 ++ [E0]) pc).1 ≠ 0) {R RF : List Rp} {pcF : Int} {ov : Bool} (hC : Ch (l0 ++ [E0]) pc pc R.reverse) (hr : StepRel pc R (gt (l0 ++ [E0]) pc) pcF RF ov) {pc' : Nat} (he : pcF = (pc' : Int)) (ho : opn (l0 ++ [E0]) pc' = opn (l0 ++ [E0]) (pc + 1)) :
    nextS (svL (l0 ++ [E0]) pc) (gt (l0 ++ [E0]) pc).1 (gt (l0 ++ [E0]) pc).2.1 = svL (l0 ++ [E0]) pc' := by
  have hlen : (l0 ++ [E0]).length = l0.length + 1 := by simp
  have hmay := may_iff.1 (hP.ins pc hpc).1
  unfold mayP at hmay
  have o1 := lk_opn hG (i := pc) (by omega)
  have o2 := lk_opn hG (i := pc + 1) (by omega)
  generalize hl : l0 ++ [E0] = l at *
  have pn : ∀ i, (gt l i).1 = 9 → (pc = i ∨ pc = i + 1) → (gt l pc).1 ≠ 7 → (gt l pc).1 ≠ 8 → pcF = (pc : Int) + 1 := by
    subst hl
    exact fun i a b c d => pair_next hG a b hC h0 c d hr
  have lk : ∀ i, (gt l i).1 = 9 → (gt l (i + 2)).1 = 10 ∧ (gt l (i + 2)).2.1 = (gt l i).2.1 ∧ 1 ≤ (gt l (i + 1)).1 ∧ (gt l (i + 1)).1 ≤ 6 := by
    subst hl
    intro i a
    have h9l := (gt_op_low i 9 (by decide)).1 a
    have hil := gd_lt h9l (by decide)
    obtain ⟨q1, q2, q3, q4, q5⟩ := hG.lock i hil h9l
    rw [gt_low (i := i + 2) (by omega), gt_low (i := i + 1) (by omega), gt_low (i := i) (by omega)]
    exact ⟨q2, q3, q4, q5⟩
  rcases opn_cases hP.pair hpc with ⟨a1, a2⟩ | ⟨a1, j, a2, a3, a4⟩ | ⟨a1, a1', a2⟩
  · have e0 : opn l pc = [] := by
      rcases o2 with o2 | ⟨k, o2, _⟩
      · rw [a2] at o2; simp at o2
      · rw [a2] at o2
        cases hq : opn l pc with
        | nil => rfl
        | cons x r => rw [hq] at o2; simp at o2
    have e1 : opn l pc' = [pc] := by rw [ho, a2, e0]; rfl
    have hp := pn pc a1 (.inl rfl) (by omega) (by omega)
    have hA : (gt l pc).2.1 = 0 ∨ (gt l pc).2.1 = 1 ∨ (gt l pc).2.1 = 2 ∨ (gt l pc).2.1 = 3 := by omega
    unfold nextS svL
    rw [if_pos a1]
    simp only [sv_nil e0, sv_one e1, List.map_cons, List.map_nil, inc_zero]
    have hd : (pc' : Int) - (pc : Int) = 1 := by omega
    rw [hd]
    rcases hA with hA | hA | hA | hA <;> rw [hA] <;> rfl
  · have e0 : opn l (pc + 1) = [] ∧ opn l pc = [j] := by
      rcases o1 with o1 | ⟨k, o1, _⟩
      · rw [o1] at a2; simp at a2
      · rw [o1] at a2
        cases hq : opn l (pc + 1) with
        | nil => rw [hq] at a2; exact ⟨rfl, o1.trans a2⟩
        | cons x r => rw [hq] at a2; simp at a2
    have e1 : opn l pc' = [] := by rw [ho]; exact e0.1
    have hA : (gt l pc).2.1 = 0 ∨ (gt l pc).2.1 = 1 ∨ (gt l pc).2.1 = 2 ∨ (gt l pc).2.1 = 3 := by omega
    unfold nextS svL
    rw [if_neg (by omega), if_pos a1]
    simp only [sv_nil e1, sv_one e0.2, List.map_cons, List.map_nil, a3]
    rcases hA with hA | hA | hA | hA <;> rw [hA] <;> rfl
  · unfold nextS
    rw [if_neg a1, if_neg a1']
    rcases o1 with o1 | ⟨k, o1, k9, kp⟩
    · have e1 : opn l pc' = [] := by rw [ho, a2, o1]
      unfold svL
      simp only [sv_nil o1, sv_nil e1, List.map_cons, List.map_nil, inc_zero]
    · have kp1 : pc = k + 1 := by
        rcases o2 with o2 | ⟨k', o2, _, kp'⟩
        · rw [a2, o1] at o2; cases o2
        · rw [a2, o1] at o2
          obtain rfl : k = k' := by simpa using o2
          omega
      have e1 : opn l pc' = [k] := by rw [ho, a2, o1]
      have hk6 := lk k k9
      rw [← kp1] at hk6
      have hp := pn k k9 (.inr kp1) (by omega) (by omega)
      have hd : (pc' : Int) = (pc : Int) + 1 := by omega
      unfold svL
      simp only [sv_one o1, sv_one e1, List.map_cons, List.map_nil]
      have key : ∀ s : Int, inc1 (if (gt l k).2.1 = s then (pc : Int) - (k : Int) else 0) = if (gt l k).2.1 = s then (pc' : Int) - (k : Int) else 0 := fun s => by
        split
        · unfold inc1
          rw [if_pos (by omega)]
          omega
        · rfl
      rw [key, key, key, key]
/-- at an Unlock: two ticks behind the Lock, and so says a span -/
theorem un_span {l0 : List In} (hG : Gd l0) (hP : Prg (l0 ++ [E0])) {pc : Nat} (hpc : pc < (l0 ++ [E0]).length) (h10 : (gt (l0 ++ [E0]) pc).1 = 10) :
    (∀ s : Int, inc1 (sv (l0 ++ [E0]) pc s) = if (gt (l0 ++ [E0]) pc).2.1 = s then 3 else 0) ∧ ∃ k, k < (spL (l0 ++ [E0]) (l0 ++ [E0]).length).length ∧ (spL (l0 ++ [E0]) (l0 ++ [E0]).length).getD k (0, 0) = ((gt (l0 ++ [E0]) pc).2.1, 2) := by
  have hlen : (l0 ++ [E0]).length = l0.length + 1 := by simp
  have o1 := lk_opn hG (i := pc) (by omega)
  obtain ⟨a1, a2⟩ | ⟨a1, j, a2, a3, a4⟩ | ⟨a1, a1', a2⟩ := opn_cases hP.pair hpc
  · omega
  · have e0 : opn (l0 ++ [E0]) pc = [j] ∧ (gt (l0 ++ [E0]) j).1 = 9 ∧ (pc = j + 1 ∨ pc = j + 2) := by
      rcases o1 with o1 | ⟨k, o1, k9, kp⟩
      · rw [o1] at a2; simp at a2
      · rw [o1] at a2
        cases hq : opn (l0 ++ [E0]) (pc + 1) with
        | nil =>
          rw [hq] at a2
          obtain rfl : k = j := by simpa using a2
          exact ⟨o1, k9, kp⟩
        | cons x r => rw [hq] at a2; simp at a2
    have h9l := (gt_op_low j 9 (by decide)).1 e0.2.1
    have hil := gd_lt h9l (by decide)
    obtain ⟨q1, q2, q3, q4, q5⟩ := hG.lock j hil h9l
    have hp2 : pc = j + 2 := by
      rcases e0.2.2 with e | e
      · rw [e, gt_low (i := j + 1) (by omega)] at h10
        omega
      · exact e
    refine ⟨fun s => ?_, ?_⟩
    · rw [sv_one e0.1, a3]
      split
      · rw [hp2]
        unfold inc1
        rw [if_pos (by omega)]
        omega
      · rfl
    · have hjl : j < (l0 ++ [E0]).length := by omega
      obtain ⟨u, hu⟩ := pr_of hP.pair hjl e0.2.1
      have hup : u = pc := by
        have h1 := un_pair hP.pair hpc h10 a2
        have h2 := hu.out
        omega
      have hsp := spn_of hu
      rw [hup, hp2] at hsp
      have hS : Sm (l0 ++ [E0]) (j + 1) (j + 1) (j + 2 + 1) = 2 := by
        rw [Sm_succ (by omega), Sm_succ (by omega), Sm_nil, wt_low]
        have : wt (l0 ++ [E0]) (j + 1) (j + 2) = 1 := wtA_one fun f f1 f2 => by
          obtain rfl : f = j + 1 := by omega
          rw [inB_no, gt_low (i := j + 1) (by omega)]
          omega
        rw [this]
      rw [hS] at hsp
      have hmem : spn (l0 ++ [E0]) j ∈ spL (l0 ++ [E0]) (l0 ++ [E0]).length := sp_mem hjl e0.2.1
      obtain ⟨k, hk, hke⟩ := List.mem_iff_getElem.1 hmem
      refine ⟨k, hk, ?_⟩
      rw [List.getD_eq_getElem?_getD, List.getElem?_eq_getElem hk]
      show (spL _ _)[k] = _
      rw [hke, hsp, a3]
      rfl
  · exact absurd h10 a1'
where
  sp_mem {l : List In} {j : Nat} : ∀ {n : Nat}, j < n → (gt l j).1 = 9 → spn l j ∈ spL l n
  | n + 1, hj, h9 => by
    by_cases e : j = n
    · subst e; rw [spL_yes h9]; simp
    · have ih := sp_mem (l := l) (j := j) (n := n) (by omega) h9
      by_cases hn : (gt l n).1 = 9
      · rw [spL_yes hn]; simp [ih]
      · rw [spL_no hn]; exact ih
end Go.Proofs.Yteikdocpncdheaa
