/-
  Put together:
  How many ticks a machine has left at most, on its way through a program: plain facts.
  What a program comes to, and in how many steps: plain facts.
-/
import Derived.Test.YtonholadabebbaaPlains
import Derived.Test.YtonholadabebbaaVrunm
namespace Go.Proofs.Ytonholadabebbaa

/-- each is a body around pc, one in the other -/
def Ck (l : List In) (pc : Nat) : Nat → List Rp → Prop
  | _, [] => True
  | ub, r :: R => ∃ f : Nat, f < ub ∧ (gt l f).1 = 8 ∧ r.1 = (f : Int) + 1 ∧ r.2.1 = (f : Int) + rch (gt l f) ∧ 0 ≤ r.2.2 ∧ r.2.2 ≤ 99 ∧ inA l f pc = true ∧ Ck l pc f R
/-- .. or one that ends right ahead of it -/
def Cv (l : List In) (nx : Nat) : Nat → List Rp → Prop
  | _, [] => True
  | ub, r :: R => ∃ f : Nat, f < ub ∧ (gt l f).1 = 8 ∧ r.1 = (f : Int) + 1 ∧ r.2.1 = (f : Int) + rch (gt l f) ∧ 0 ≤ r.2.2 ∧ r.2.2 ≤ 99 ∧ f + 1 ≤ nx ∧ nx ≤ f + rch (gt l f) + 1 ∧ Cv l nx f R
theorem ck_len {l : List In} {pc : Nat} : ∀ {R : List Rp} {ub : Nat}, Ck l pc ub R → R.length ≤ cntN ub fun f => inA l f pc && (gt l f).1 == 8
  | [], _, _ => Nat.zero_le _
  | r :: R, ub, h => by
    obtain ⟨f, h1, h2, _, _, _, _, h3, h4⟩ := h
    have ih := ck_len h4
    have hy := cntN_yes (n := f) (p := fun f => inA l f pc && (gt l f).1 == 8) (by simp [h3, h2])
    have hm := cntN_mono (p := fun f => inA l f pc && (gt l f).1 == 8) (show f + 1 ≤ ub from h1)
    simp only [List.length_cons]
    omega
theorem cv_back {l : List In} (hP : Prg l) {f nx : Nat} (hf : f ∈ arI l l.length) (h2 : f + 1 ≤ nx) : ∀ {R : List Rp} {ub : Nat}, ub ≤ f → Cv l nx ub R → Ck l (f + 1) ub R
  | [], _, _, _ => trivial
  | r :: R, ub, hu, h => by
    obtain ⟨f2, k1, k2, k3, k4, k5, k6, k7, k8, k9⟩ := h
    have hin := cw_in hP hf (is_ar (.inl k2)) (by omega) h2 k8
    have hp := rch_pos hP hf
    exact ⟨f2, k1, k2, k3, k4, k5, k6, inA_iff.2 (by omega), cv_back hP hf h2 (by omega) k9⟩
theorem cv_stay {l : List In} (hP : Prg l) {f nx : Nat} (hf : f ∈ arI l l.length) (h2 : f + 1 ≤ nx) (h3 : nx ≤ f + rch (gt l f)) : ∀ {R : List Rp} {ub : Nat}, ub ≤ f → Cv l nx ub R → Ck l nx ub R
  | [], _, _, _ => trivial
  | r :: R, ub, hu, h => by
    obtain ⟨f2, k1, k2, k3, k4, k5, k6, k7, k8, k9⟩ := h
    have hin := cw_in hP hf (is_ar (.inl k2)) (by omega) h2 k8
    exact ⟨f2, k1, k2, k3, k4, k5, k6, inA_iff.2 (by omega), cv_stay hP hf h2 h3 (by omega) k9⟩
theorem norm_okR {l : List In} (hP : Prg l) {nx : Nat} (hn : nx < l.length) : ∀ {R : List Rp} {ub : Nat}, ub ≤ nx → Cv l nx ub R →
    ∃ pc : Nat, (normR nx R).1 = (pc : Int) ∧ pc < l.length ∧ Ck l pc pc (normR nx R).2 ∧ opn l pc = opn l nx
  | [], _, _, _ => ⟨nx, rfl, hn, trivial, rfl⟩
  | r :: R, ub, hu, h => by
    obtain ⟨f, k1, k2, k3, k4, k5, k6, k7, k8, k9⟩ := h
    have hf := is_ar (.inl k2)
    have hp := rch_pos hP hf
    have hle := hP.le
    have har := hP.nest.1 f hf
    unfold normR
    by_cases c1 : r.2.1 < (nx : Int)
    · rw [if_pos c1]
      have hnx : nx = f + rch (gt l f) + 1 := by omega
      by_cases c2 : 0 < r.2.2
      · rw [if_pos c2]
        refine ⟨f + 1, by rw [k3]; rfl, by omega, ⟨f, by omega, k2, k3, k4, by simp only; omega, by simp only; omega, inA_iff.2 (by omega), cv_back hP hf k7 (Nat.le_refl _) k9⟩, ?_⟩
        rw [hnx]
        exact (opn_area hP.pair hle.2 (by omega)).symm
      · rw [if_neg c2]
        exact norm_okR hP hn (by omega) k9
    · rw [if_neg c1]
      exact ⟨nx, rfl, hn, ⟨f, by omega, k2, k3, k4, k5, k6, inA_iff.2 (by omega), cv_stay hP hf k7 (by omega) (Nat.le_refl _) k9⟩, rfl⟩
theorem ck_next {l : List In} (hP : Prg l) {pc nx : Nat} (hpc : pc < l.length) (hnx : nx = pc + 1 ∨ nx = pc + rch (gt l pc) + 1) : ∀ {R : List Rp} {ub : Nat}, ub ≤ pc → Ck l pc ub R → Cv l nx ub R
  | [], _, _, _ => trivial
  | r :: R, ub, hu, h => by
    obtain ⟨f, k1, k2, k3, k4, k5, k6, k7, k8⟩ := h
    have hin := inA_iff.1 k7
    refine ⟨f, k1, k2, k3, k4, k5, k6, by omega, ?_, ck_next hP hpc hnx (by omega) k8⟩
    rcases hnx with rfl | rfl
    · omega
    · by_cases ha : isAr l pc = true
      · have := hP.nest.2 f (is_ar (.inl k2)) pc (arI_mem.2 ⟨hpc, ha⟩) k7
        omega
      · rw [isAr_no (by simpa using ha)]
        omega
theorem body_twoR {l : List In} (hP : Prg l) {pc : Nat} (hpc : pc < l.length) {R : List Rp} (hC : Ck l pc pc R) : R.length ≤ 2 := by
  have h1 := ck_len hC
  have h2 := hP.shal pc hpc
  have h3 := cntN_mono (p := fun f => inA l f pc && (gt l f).1 == 8) (show pc ≤ 24 by have := hP.le; omega)
  unfold bodN at h2
  omega
theorem machR {l : List In} (hP : Prg l) {pc : Nat} (hpc : pc + 1 < l.length) {R : List Rp} (hC : Ck l pc pc R) {nx : Nat} (hnx : nx = pc + 1 ∨ (gt l pc).1 = 7 ∧ nx = pc + rch (gt l pc) + 1) :
    ∃ pc' : Nat, (normR nx R).1 = (pc' : Int) ∧ pc' < l.length ∧ Ck l pc' pc' (normR nx R).2 ∧ opn l pc' = opn l (pc + 1) := by
  have hle := hP.le
  have hn : nx < l.length ∧ pc < nx ∧ opn l nx = opn l (pc + 1) := by
    rcases hnx with rfl | ⟨h7, rfl⟩
    · exact ⟨hpc, by omega, rfl⟩
    · have har := hP.nest.1 pc (is_ar (.inr h7))
      exact ⟨by omega, by omega, opn_area hP.pair hle.2 (by omega)⟩
  have hw := ck_next hP (show pc < l.length by omega) (nx := nx) (by rcases hnx with h | ⟨_, h⟩ <;> omega) (Nat.le_refl _) hC
  obtain ⟨pc', e1, e2, e3, e4⟩ := norm_okR hP hn.1 (by omega) hw
  exact ⟨pc', e1, e2, e3, e4.trans hn.2.2⟩
theorem ck_bd {l : List In} {pc : Nat} : ∀ {R : List Rp} {ub : Nat}, Ck l pc ub R → ∀ r ∈ R, 0 ≤ r.2.2 ∧ r.2.2 ≤ 100
  | [], _, _, r, hr => by cases hr
  | a :: R, ub, h, r, hr => by
    obtain ⟨f, _, _, _, _, k5, k6, _, k8⟩ := h
    rcases List.mem_cons.1 hr with rfl | hr
    · omega
    · exact ck_bd k8 r hr
/-- A Rep: its body is entered. -/
theorem mach_repR {l : List In} (hP : Prg l) {pc : Nat} (hpc : pc + 1 < l.length) {R : List Rp} (hC : Ck l pc pc R) (h8 : (gt l pc).1 = 8) (hN1 : 1 ≤ (gt l pc).2.2.2) (hN3 : (gt l pc).2.2.2 ≤ 100) :
    normR ((pc + 1 : Nat) : Int) (((pc : Int) + 1, (pc : Int) + (rch (gt l pc) : Int), (gt l pc).2.2.2 - 1) :: R) = (((pc + 1 : Nat) : Int), ((pc : Int) + 1, (pc : Int) + (rch (gt l pc) : Int), (gt l pc).2.2.2 - 1) :: R) ∧
    Ck l (pc + 1) (pc + 1) (((pc : Int) + 1, (pc : Int) + (rch (gt l pc) : Int), (gt l pc).2.2.2 - 1) :: R) := by
  have hf := is_ar (l := l) (.inl h8)
  have hp := rch_pos hP hf
  have har := hP.nest.1 pc hf
  have hw := ck_next hP (show pc < l.length by omega) (nx := pc + 1) (.inl rfl) (Nat.le_refl _) hC
  have hCt : Ck l (pc + 1) pc R := cv_stay hP hf (Nat.le_refl _) (by omega) (Nat.le_refl _) hw
  have hCh : Ck l (pc + 1) (pc + 1) (((pc : Int) + 1, (pc : Int) + (rch (gt l pc) : Int), (gt l pc).2.2.2 - 1) :: R) := ⟨pc, by omega, h8, rfl, rfl, by simp only; omega, by simp only; omega, inA_iff.2 (by omega), hCt⟩
  refine ⟨?_, hCh⟩
  unfold normR
  rw [if_neg (by simp only; omega)]
/-- a step that is not the last -/
theorem mstepR {l : List In} (hP : Prg l) {pc : Nat} (hpc : pc < l.length) (h0 : (gt l pc).1 ≠ 0) {R RF : List Rp} {pcF : Int} {ov : Bool} (hC : Ck l pc pc R.reverse) (h : StepRel pc R (gt l pc) pcF RF ov) :
    ov = false ∧ ∃ pc' : Nat, pcF = (pc' : Int) ∧ pc' < l.length ∧ Ck l pc' pc' RF.reverse := by
  have hi := hP.ins pc hpc
  have hn : pc + 1 < l.length := by
    have := mt hi.2.2 h0
    omega
  have hb := reach_bd hi.1
  have hm := may_iff.1 hi.1
  unfold mayP at hm
  rcases h with ⟨h, _⟩ | ⟨_, rfl, nx, hnx, h⟩
  · exact absurd h h0
  refine ⟨rfl, ?_⟩
  by_cases h8 : (gt l pc).1 = 8
  · rw [if_pos h8] at h
    have hr : (rch (gt l pc) : Int) = (gt l pc).2.2.1 := by unfold rch; rw [← reach_8 h8]; omega
    obtain ⟨k1, k2⟩ := mach_repR hP hn hC h8 (by omega) (by omega)
    rcases hnx with rfl | ⟨h7, _⟩
    · rw [← hr] at h
      have e : ((pc : Int) + 1) = ((pc + 1 : Nat) : Int) := by omega
      rw [e] at h
      rw [e] at k1 k2
      rw [k1] at h
      simp only [Prod.mk.injEq] at h
      rw [← h.2, ← h.1]
      exact ⟨pc + 1, rfl, hn, k2⟩
    · omega
  · rw [if_neg h8] at h
    have key : ∃ nn : Nat, nx = (nn : Int) ∧ (nn = pc + 1 ∨ (gt l pc).1 = 7 ∧ nn = pc + rch (gt l pc) + 1) := by
      rcases hnx with rfl | ⟨h7, rfl⟩
      · exact ⟨pc + 1, by omega, .inl rfl⟩
      · have hr := reach_7 h7
        refine ⟨pc + rch (gt l pc) + 1, ?_, .inr ⟨h7, rfl⟩⟩
        unfold rch
        omega
    obtain ⟨nn, rfl, hnn⟩ := key
    obtain ⟨pc', k1, k2, k3, k4⟩ := machR hP hn hC hnn
    rw [h] at k1 k3
    exact ⟨pc', k1, k2, k3⟩
/-- what a program's machine keeps -/
structure VJ (l : List In) (pc : Int) (mem : List Int) (R : List Rp) (ov : Bool) : Prop where
  len : mem.length = 8
  mb : ∀ v ∈ mem, -9223372036854775808 ≤ v ∧ v ≤ 9223372036854775807
  rb : ∀ r ∈ R, -9223372036854775808 ≤ r.2.2 ∧ r.2.2 ≤ 9223372036854775807
  rl : R.length ≤ 3
  at_ : ov = false → ∃ p : Nat, pc = (p : Int) ∧ p < l.length ∧ Ck l p p R.reverse
theorem vj_step {l : List In} (hP : Prg l) {pc : Int} {mem : List Int} {R : List Rp} {ov : Bool} (h : VJ l pc mem R ov) {pcF : Int} {memF : List Int} {RF : List Rp} {ovF : Bool} {x : In} {ok : Bool} (hF : stepF l pc mem R ov = (pcF, memF, RF, ovF, x, ok)) : (ok = true ∧ VJ l pcF memF RF ovF) ∨ (ok = false ∧ ov = true) := by
  cases ov with
  | true =>
    unfold stepF at hF
    rw [if_neg (by simp [can])] at hF
    simp only [Prod.mk.injEq] at hF
    exact .inr ⟨hF.2.2.2.2.2.symm, rfl⟩
  | false =>
    obtain ⟨p, rfl, hpl, hC⟩ := h.at_ rfl
    have hi := hP.ins p hpl
    have hc : can l (p : Int) false = true := by simp [can, hpl, hi.1]
    unfold stepF at hF
    rw [if_pos hc, Int.toNat_natCast] at hF
    simp only [Prod.mk.injEq] at hF
    obtain ⟨h1, h2, h3, h4, h5, h6⟩ := hF
    have hN : normR (nxt p (gt l p) mem) (repA p (gt l p) R).reverse = (pcF, RF.reverse) := by rw [← h1, ← h3, List.reverse_reverse]
    refine .inl ⟨h6.symm, ?_⟩
    have hb : ∀ r ∈ RF, -9223372036854775808 ≤ r.2.2 ∧ r.2.2 ≤ 9223372036854775807 := by
      intro r hr
      refine normR_bd (pc := nxt p (gt l p) mem) (R := (repA p (gt l p) R).reverse) (fun r hr => repA_bd hi.1 h.rb r (List.mem_reverse.1 hr)) r ?_
      rw [hN]
      exact List.mem_reverse.2 hr
    have hl : memF.length = 8 := by rw [← h2, memA_len, h.len]
    have hmb : ∀ v ∈ memF, -9223372036854775808 ≤ v ∧ v ≤ 9223372036854775807 := by rw [← h2]; exact memA_in hi.1 h.mb
    by_cases h0 : (gt l p).1 = 0
    · have hov : ovF = true := by rw [← h4]; exact decide_eq_true h0
      refine ⟨hl, hmb, hb, ?_, fun hh => by rw [hov] at hh; cases hh⟩
      have hn := normR_len (nxt p (gt l p) mem) (repA p (gt l p) R).reverse
      have hr0 : repA p (gt l p) R = R := by unfold repA; rw [if_neg (by omega)]
      rw [hN, hr0] at hn
      simp only [List.length_reverse] at hn
      have := h.rl
      omega
    · have hrel : StepRel p R (gt l p) pcF RF false := by
        refine .inr ⟨h0, rfl, nxt p (gt l p) mem, ?_, ?_⟩
        · unfold nxt
          rw [if_neg h0]
          split
          · rename_i hh
            exact .inr ⟨hh.1, rfl⟩
          · exact .inl rfl
        · unfold repA at hN
          split at hN
          · rename_i hh
            rw [if_pos hh]
            rw [List.reverse_append] at hN
            exact hN
          · rename_i hh
            rw [if_neg hh]
            exact hN
      obtain ⟨_, pc', rfl, k2, k3⟩ := mstepR hP hpl h0 hC hrel
      have h2' := body_twoR hP k2 k3
      exact ⟨hl, hmb, hb, by simp at h2'; omega, fun _ => ⟨pc', rfl, k2, k3⟩⟩
/-- no body of lo on has it -/
def TopL (l : List In) (lo pc : Nat) : Prop := ∀ f, lo ≤ f → f < pc → inB l f pc = false
theorem topL_self (l : List In) (a : Nat) : TopL l a a := fun f h1 h2 => by omega
theorem topL_wt {l : List In} {lo pc : Nat} (h : TopL l lo pc) : wt l lo pc = 1 := wtA_one h
theorem topL_back {l : List In} {lo pc f i : Nat} (h : TopL l lo pc) (h1 : lo ≤ f) (h2 : f < pc) (h3 : pc ≤ i) : inB l f i = false := by
  have := inB_no.1 (h f h1 h2)
  rw [inB_no]
  omega
theorem topL_next {l : List In} {lo pc : Nat} (h : TopL l lo pc) (h8 : (gt l pc).1 ≠ 8) : TopL l lo (pc + 1) := fun f h1 h2 => by
  by_cases e : f = pc
  · subst e; rw [inB_no]; exact fun h => h8 h.2
  · exact topL_back h h1 (by omega) (by omega)
/-- behind a body or a reach -/
theorem topL_area {l : List In} (hP : Prg l) {lo pc : Nat} (hpc : pc ∈ arI l l.length) (h : TopL l lo pc) : TopL l lo (pc + rch (gt l pc) + 1) := fun f h1 h2 => by
  by_cases e : f < pc
  · exact topL_back h h1 e (by omega)
  · rw [inB_no]
    rintro ⟨⟨a, b⟩, c⟩
    by_cases e2 : f = pc
    · subst e2; omega
    · have := hP.nest.2 pc hpc f (is_ar (.inl c)) (inA_iff.2 (by omega))
      omega
theorem rep_mul {l : List In} {lo pc : Nat} (hlo : lo ≤ pc) (h8 : (gt l pc).1 = 8) (h : TopL l lo pc) : Sm l lo (pc + 1) (pc + rch (gt l pc) + 1) = nOf l pc * Sm l (pc + 1) (pc + 1) (pc + rch (gt l pc) + 1) := by
  refine Sm_mul (by omega) fun i h1 h2 => ?_
  have hs := wtA_split (l := l) (lo := lo) (i := i) (m := pc + 1) (by omega) (k := i) (by omega)
  unfold wt
  rw [hs, wtA_yes (by omega) (inB_iff.2 ⟨⟨by omega, by omega⟩, h8⟩), wtA_one fun f h3 h4 => topL_back h h3 h4 (by omega), Nat.one_mul]

/-- the ticks that are left at most -/
def ph (l : List In) (n : Nat) (pc : Nat) : List Rp → Nat
  | [] => Sm l 0 pc n
  | r :: R => Sm l r.1.toNat pc (r.2.1.toNat + 1) + r.2.2.toNat * Sm l r.1.toNat r.1.toNat (r.2.1.toNat + 1) + ph l n (r.2.1.toNat + 1) R
/-- every body that has it is on its way -/
def Fl (l : List In) (pc : Nat) : List Rp → Prop
  | [] => TopL l 0 pc
  | r :: R => TopL l r.1.toNat pc ∧ Fl l (r.1.toNat - 1) R
theorem Fl.head {l : List In} {pc pc' : Nat} {R : List Rp} (h : Fl l pc R) (hs : ∀ lo, TopL l lo pc → TopL l lo pc') : Fl l pc' R := by
  cases R with
  | nil => exact hs 0 h
  | cons r R => exact ⟨hs _ h.1, h.2⟩
theorem norm_ph {l : List In} (hP : Prg l) (n : Nat) {nx : Nat} : ∀ {R : List Rp} {ub : Nat}, Cv l nx ub R → Fl l nx R → ∀ pc : Nat, (normR nx R).1 = (pc : Int) → ph l n pc (normR nx R).2 = ph l n nx R ∧ Fl l pc (normR nx R).2
  | [], _, _, hF, pc, hp => by
    obtain rfl : nx = pc := by unfold normR at hp; simp only at hp; omega
    exact ⟨rfl, hF⟩
  | r :: R, ub, hC, hF, pc, hp => by
    obtain ⟨f, k1, k2, k3, k4, k5, k6, k7, k8, k9⟩ := hC
    have e1 : r.1.toNat = f + 1 := by omega
    have e2 : r.2.1.toNat = f + rch (gt l f) := by omega
    unfold normR at hp ⊢
    by_cases c1 : r.2.1 < (nx : Int)
    · rw [if_pos c1] at hp ⊢
      have hnx : nx = f + rch (gt l f) + 1 := by omega
      by_cases c2 : 0 < r.2.2
      · rw [if_pos c2] at hp ⊢
        obtain rfl : pc = f + 1 := by simp only at hp; omega
        refine ⟨?_, ?_⟩
        · show Sm l r.1.toNat (f + 1) (r.2.1.toNat + 1) + (r.2.2 - 1).toNat * Sm l r.1.toNat r.1.toNat (r.2.1.toNat + 1) + ph l n (r.2.1.toNat + 1) R = Sm l r.1.toNat nx (r.2.1.toNat + 1) + r.2.2.toNat * Sm l r.1.toNat r.1.toNat (r.2.1.toNat + 1) + ph l n (r.2.1.toNat + 1) R
          obtain ⟨L, hL⟩ : ∃ L : Nat, r.2.2.toNat = L + 1 := ⟨r.2.2.toNat - 1, by omega⟩
          have e3 : (r.2.2 - 1).toNat = L := by omega
          rw [e1, e2, hL, e3, hnx, Sm_nil, Nat.add_mul]
          omega
        · exact ⟨by rw [e1]; exact topL_self l _, hF.2⟩
      · rw [if_neg c2] at hp ⊢
        have hL : r.2.2.toNat = 0 := by omega
        have hF2 : Fl l nx R := by
          have h2 := hF.2
          rw [e1, Nat.add_sub_cancel] at h2
          rw [hnx]
          exact h2.head fun lo h => topL_area hP (is_ar (.inl k2)) h
        obtain ⟨i1, i2⟩ := norm_ph hP n k9 hF2 pc hp
        refine ⟨?_, i2⟩
        rw [i1]
        show ph l n nx R = Sm l r.1.toNat nx (r.2.1.toNat + 1) + r.2.2.toNat * Sm l r.1.toNat r.1.toNat (r.2.1.toNat + 1) + ph l n (r.2.1.toNat + 1) R
        rw [hL, e2, ← hnx, Sm_nil]
        omega
    · rw [if_neg c1] at hp ⊢
      obtain rfl : nx = pc := by simp only at hp; omega
      exact ⟨rfl, hF⟩
/-- the first summand of what is left -/
theorem ph_head {l : List In} {n pc nx : Nat} (h1 : pc ≤ nx) (hn : nx ≤ n) {R : List Rp} {ub : Nat} (hC : Cv l nx ub R) : ∃ lo, ph l n pc R = Sm l lo pc nx + ph l n nx R ∧ (Fl l pc R → TopL l lo pc) ∧ (ub ≤ pc → lo ≤ pc) := by
  cases R with
  | nil => exact ⟨0, Sm_split h1 hn, fun h => h, fun _ => Nat.zero_le _⟩
  | cons r R =>
    obtain ⟨f, k1, k2, k3, k4, k5, k6, k7, k8, k9⟩ := hC
    refine ⟨r.1.toNat, ?_, fun h => h.1, fun h => by omega⟩
    show Sm l r.1.toNat pc (r.2.1.toNat + 1) + r.2.2.toNat * Sm l r.1.toNat r.1.toNat (r.2.1.toNat + 1) + ph l n (r.2.1.toNat + 1) R = Sm l r.1.toNat pc nx + (Sm l r.1.toNat nx (r.2.1.toNat + 1) + r.2.2.toNat * Sm l r.1.toNat r.1.toNat (r.2.1.toNat + 1) + ph l n (r.2.1.toNat + 1) R)
    rw [Sm_split h1 (show nx ≤ r.2.1.toNat + 1 by omega)]
    omega
theorem Ck.weak {l : List In} {pc : Nat} : ∀ {R : List Rp} {ub : Nat}, Ck l pc ub R → Cv l pc ub R
  | [], _, _ => trivial
  | r :: R, ub, h => by
    obtain ⟨f, k1, k2, k3, k4, k5, k6, k7, k8⟩ := h
    have := inA_iff.1 k7
    exact ⟨f, k1, k2, k3, k4, k5, k6, by omega, by omega, Ck.weak k8⟩
/-- A step that is not the last: what is left is less; by one, unless it passes over something. -/
theorem cstep {l : List In} (hP : Prg l) {pc : Nat} (hpc : pc < l.length) (h0 : (gt l pc).1 ≠ 0) {R RF : List Rp} {pcF : Int} {ov : Bool} (hC : Ck l pc pc R.reverse) (hF : Fl l pc R.reverse) (h : StepRel pc R (gt l pc) pcF RF ov) :
    ∃ pc' : Nat, pcF = (pc' : Int) ∧ Fl l pc' RF.reverse ∧ ph l l.length pc' RF.reverse + 1 ≤ ph l l.length pc R.reverse ∧ ((gt l pc).1 ≠ 7 → ph l l.length pc' RF.reverse + 1 = ph l l.length pc R.reverse) := by
  have hi := hP.ins pc hpc
  have hn : pc + 1 < l.length := by
    have := mt hi.2.2 h0
    omega
  obtain ⟨hov, pc', e1, e2, e3⟩ := mstepR hP hpc h0 hC h
  refine ⟨pc', e1, ?_⟩
  have hm := may_iff.1 hi.1
  unfold mayP at hm
  rcases h with ⟨h, _⟩ | ⟨_, _, nx, hnx, h⟩
  · exact absurd h h0
  by_cases h8 : (gt l pc).1 = 8
  · rw [if_pos h8] at h
    have hr : (rch (gt l pc) : Int) = (gt l pc).2.2.1 := by unfold rch; rw [reach_8 h8]; omega
    have har := hP.nest.1 pc (is_ar (.inl h8))
    have hno := nOf_bd hP.all h8
    obtain rfl : nx = (pc : Int) + 1 := by rcases hnx with rfl | ⟨h7, _⟩ <;> omega
    rw [show ((pc : Int) + 1) = ((pc + 1 : Nat) : Int) by omega] at h
    have hp1 := rch_pos hP (is_ar (.inl h8))
    unfold normR at h
    rw [if_neg (by simp only; omega)] at h
    simp only [Prod.mk.injEq] at h
    obtain ⟨h1, h2⟩ := h
    obtain rfl : pc' = pc + 1 := by omega
    rw [← h2]
    have t1 : (((pc + 1 : Nat) : Int)).toNat = pc + 1 := by omega
    have t2 : ((pc : Int) + (gt l pc).2.2.1).toNat = pc + rch (gt l pc) := by omega
    obtain ⟨L, hL⟩ : ∃ L : Nat, nOf l pc = L + 1 := ⟨nOf l pc - 1, by omega⟩
    have t3 : ((gt l pc).2.2.2 - 1).toNat = L := by omega
    have hw := ck_next hP hpc (nx := pc + 1) (.inl rfl) (Nat.le_refl _) hC
    have hwB : Cv l (pc + rch (gt l pc) + 1) pc R.reverse := ck_next hP hpc (nx := pc + rch (gt l pc) + 1) (.inr rfl) (Nat.le_refl _) hC
    have key : ph l l.length (pc + 1) ((((pc + 1 : Nat) : Int), (pc : Int) + (gt l pc).2.2.1, (gt l pc).2.2.2 - 1) :: R.reverse) + 1 = ph l l.length pc R.reverse := by
      obtain ⟨lo, a1, a2, a4⟩ := ph_head (n := l.length) (pc := pc) (nx := pc + rch (gt l pc) + 1) (by omega) (by omega) hwB
      have a3 := a2 hF
      rw [a1]
      show Sm l (((pc + 1 : Nat) : Int)).toNat (pc + 1) (((pc : Int) + (gt l pc).2.2.1).toNat + 1) + ((gt l pc).2.2.2 - 1).toNat * Sm l (((pc + 1 : Nat) : Int)).toNat (((pc + 1 : Nat) : Int)).toNat (((pc : Int) + (gt l pc).2.2.1).toNat + 1) + ph l l.length (((pc : Int) + (gt l pc).2.2.1).toNat + 1) R.reverse + 1 = _
      rw [t1, t2, t3]
      have hlo : lo ≤ pc := a4 (Nat.le_refl _)
      rw [Sm_first (show pc < pc + rch (gt l pc) + 1 by omega), topL_wt a3, rep_mul hlo h8 a3, hL, Nat.add_mul]
      omega
    refine ⟨⟨by rw [t1]; exact topL_self l _, ?_⟩, by omega, fun _ => key⟩
    rw [t1, Nat.add_sub_cancel]
    exact hF
  · rw [if_neg h8] at h
    have key : ∃ nn : Nat, nx = (nn : Int) ∧ (nn = pc + 1 ∨ (gt l pc).1 = 7 ∧ nn = pc + rch (gt l pc) + 1) := by
      rcases hnx with rfl | ⟨h7, rfl⟩
      · exact ⟨pc + 1, by omega, .inl rfl⟩
      · have hr := reach_7 h7
        refine ⟨pc + rch (gt l pc) + 1, ?_, .inr ⟨h7, rfl⟩⟩
        unfold rch
        omega
    obtain ⟨nn, rfl, hnn⟩ := key
    have hle : nn ≤ l.length ∧ pc < nn := by
      rcases hnn with rfl | ⟨h7, rfl⟩
      · omega
      · have := hP.nest.1 pc (is_ar (.inr h7)); omega
    have hw := ck_next hP hpc (nx := nn) (by rcases hnn with h | ⟨_, h⟩ <;> omega) (Nat.le_refl _) hC
    have hFn : Fl l nn R.reverse := hF.head fun lo ht => by
      rcases hnn with rfl | ⟨h7, rfl⟩
      · exact topL_next ht h8
      · exact topL_area hP (is_ar (.inr h7)) ht
    obtain ⟨n1, n2⟩ := norm_ph hP l.length hw hFn pc' (by rw [h]; exact e1)
    rw [h] at n1 n2
    obtain ⟨lo, a1, a2, a4⟩ := ph_head (n := l.length) (pc := pc) (nx := nn) (by omega) hle.1 hw
    have a3 := topL_wt (a2 hF)
    rw [Sm_first hle.2, a3] at a1
    refine ⟨n2, by rw [n1]; omega, fun h7 => ?_⟩
    rcases hnn with rfl | ⟨h7', _⟩
    · rw [Sm_nil] at a1
      rw [n1]; omega
    · exact absurd h7' h7
end Go.Proofs.Ytonholadabebbaa

namespace Go.Proofs.Ytonholadabebbaa
open Go.ChangeShapes Go.WideShapes Go.ChangeAt Go.RowKit

/-- a machine: where, memories, what is repeated, whether it is over -/
abbrev Ms := Int × List Int × List Rp × Bool
def stN (l : List In) (s : Ms) : Ms := ((stepF l s.1 s.2.1 s.2.2.1 s.2.2.2).1, (stepF l s.1 s.2.1 s.2.2.1 s.2.2.2).2.1, (stepF l s.1 s.2.1 s.2.2.1 s.2.2.2).2.2.1, (stepF l s.1 s.2.1 s.2.2.1 s.2.2.2).2.2.2.1)
def st0 (x : Int) : Ms := (0, [x, 0, 0, 0, 0, 0, 0, 0], [], false)
/-- .. behind n steps -/
def rnN (l : List In) (s : Ms) : Nat → Ms
  | 0 => s
  | n + 1 => stN l (rnN l s n)
theorem stN_of {l : List In} {pc : Int} {mem : List Int} {R : List Rp} {ov : Bool} {pcF : Int} {memF : List Int} {RF : List Rp} {ovF : Bool} {y : In} {ok : Bool} (hF : stepF l pc mem R ov = (pcF, memF, RF, ovF, y, ok)) : stN l (pc, mem, R, ov) = (pcF, memF, RF, ovF) := by
  simp only [stN, hF]
/-- it is over behind N steps, not ahead of them, and has v at memory 0 then -/
def EndsAt (l : List In) (x : Int) (N : Nat) (v : Int) : Prop := (rnN l (st0 x) N).2.2.2 = true ∧ (∀ k, k < N → (rnN l (st0 x) k).2.2.2 = false) ∧ v = (rnN l (st0 x) N).2.1.getD 0 0
theorem ends_one {l : List In} {x : Int} {N M : Nat} {v u : Int} (h1 : EndsAt l x N v) (h2 : EndsAt l x M u) : N = M ∧ v = u := by
  have hN : N = M := by
    rcases Nat.lt_trichotomy N M with h | h | h
    · have := h2.2.1 N h; rw [h1.1] at this; cases this
    · exact h
    · have := h1.2.1 M h; rw [h2.1] at this; cases this
  subst hN
  exact ⟨rfl, h1.2.2.trans h2.2.2.symm⟩
theorem end_ph {l : List In} (hP : Prg l) {pc : Nat} (hpc : pc < l.length) (h0 : (gt l pc).1 = 0) {R : List Rp} (hC : Ck l pc pc R) (hF : Fl l pc R) : R = [] ∧ ph l l.length pc R = 1 := by
  have hn := (hP.ins pc hpc).2.1 h0
  cases R with
  | nil =>
    refine ⟨rfl, ?_⟩
    show Sm l 0 pc l.length = 1
    rw [← hn, Sm_one]
    exact topL_wt hF
  | cons r R =>
    obtain ⟨f, _, k2, _, _, _, _, k7, _⟩ := hC
    have := hP.nest.1 f (is_ar (.inl k2))
    have := inA_iff.1 k7
    omega
/-- what a run keeps, behind n steps -/
structure RI (l : List In) (x : Int) (T n : Nat) (pc : Int) (mem : List Int) (R : List Rp) (ov : Bool) : Prop where
  vi : VJ l pc mem R ov
  st : rnN l (st0 x) n = (pc, mem, R, ov)
  bef : ∀ k, k < n → (rnN l (st0 x) k).2.2.2 = false
  le : n ≤ T
  live : ov = false → ∃ p : Nat, pc = (p : Int) ∧ Fl l p R.reverse ∧ n + ph l l.length p R.reverse ≤ T
theorem ri_start {l : List In} (hP : Prg l) {x : Int} (h0 : -9223372036854775808 ≤ x) (h1 : x ≤ 9223372036854775807) : RI l x (tk l) 0 0 [x, 0, 0, 0, 0, 0, 0, 0] [] false := by
  have hl := hP.le
  refine ⟨⟨rfl, fun v hv => ?_, fun r hr => by simp at hr, by decide, fun _ => ⟨0, rfl, by omega, trivial⟩⟩, rfl, fun k hk => by omega, Nat.zero_le _, fun _ => ⟨0, rfl, topL_self l 0, ?_⟩⟩
  · simp at hv
    rcases hv with rfl | rfl | rfl | rfl | rfl | rfl | rfl | rfl <;> omega
  · show 0 + Sm l 0 0 l.length ≤ tk l
    unfold tk
    omega
/-- a step's relation, of a program's machine -/
theorem step_rel {l : List In} {p : Nat} {mem : List Int} {R : List Rp} (hP : Prg l) (hpl : p < l.length) {pcF : Int} {memF : List Int} {RF : List Rp} {ovF : Bool} {y : In} {ok : Bool} (hF : stepF l p mem R false = (pcF, memF, RF, ovF, y, ok)) : StepRel p R (gt l p) pcF RF ovF := by
  have hi := hP.ins p hpl
  have hc : can l (p : Int) false = true := by simp [can, hpl, hi.1]
  unfold stepF at hF
  rw [if_pos hc, Int.toNat_natCast] at hF
  simp only [Prod.mk.injEq] at hF
  obtain ⟨h1, h2, h3, h4, h5, h6⟩ := hF
  have hN : normR (nxt p (gt l p) mem) (repA p (gt l p) R).reverse = (pcF, RF.reverse) := by rw [← h1, ← h3, List.reverse_reverse]
  by_cases h0 : (gt l p).1 = 0
  · refine .inl ⟨h0, by rw [← h4]; exact decide_eq_true h0, ?_⟩
    unfold nxt repA at hN
    rw [if_pos h0, if_neg (by omega)] at hN
    exact hN
  · refine .inr ⟨h0, by rw [← h4]; exact decide_eq_false h0, nxt p (gt l p) mem, ?_, ?_⟩
    · unfold nxt
      rw [if_neg h0]
      split
      · rename_i hh
        exact .inr ⟨hh.1, rfl⟩
      · exact .inl rfl
    · unfold repA at hN
      split at hN
      · rename_i hh
        rw [if_pos hh]
        rw [List.reverse_append] at hN
        exact hN
      · rename_i hh
        rw [if_neg hh]
        exact hN
theorem ri_step {l : List In} (hP : Prg l) {x : Int} {T n : Nat} {pc : Int} {mem : List Int} {R : List Rp} (h : RI l x T n pc mem R false) {pcF : Int} {memF : List Int} {RF : List Rp} {ovF : Bool} {y : In} {ok : Bool} (hF : stepF l pc mem R false = (pcF, memF, RF, ovF, y, ok)) : ok = true ∧ RI l x T (n + 1) pcF memF RF ovF := by
  have hv := h.vi
  obtain ⟨h1, h2⟩ : ok = true ∧ VJ l pcF memF RF ovF := by
    rcases vj_step hP hv hF with h | ⟨_, h2⟩
    · exact h
    · cases h2
  refine ⟨h1, ?_⟩
  obtain ⟨p, rfl, hpl, hC⟩ := hv.at_ rfl
  obtain ⟨p2, e2, hFl, hph⟩ := h.live rfl
  obtain rfl : p = p2 := by omega
  have hrel := step_rel hP hpl hF
  have hst : rnN l (st0 x) (n + 1) = (pcF, memF, RF, ovF) := by
    show stN l (rnN l (st0 x) n) = _
    rw [h.st]
    exact stN_of hF
  have hbef : ∀ k, k < n + 1 → (rnN l (st0 x) k).2.2.2 = false := fun k hk => by
    by_cases e : k = n
    · subst e; rw [h.st]
    · exact h.bef k (by omega)
  by_cases h0 : (gt l p).1 = 0
  · obtain ⟨_, r2⟩ := end_ph hP hpl h0 hC hFl
    refine ⟨h2, hst, hbef, by omega, fun hh => ?_⟩
    have := mlast h0 hrel
    rw [hh] at this
    cases this
  · obtain ⟨pc', f1, f2, f3, _⟩ := cstep hP hpl h0 hC hFl hrel
    exact ⟨h2, hst, hbef, by omega, fun _ => ⟨pc', f1, f2, by omega⟩⟩
theorem ri_end {l : List In} {x : Int} {T n : Nat} {pc : Int} {mem : List Int} {R : List Rp} (h : RI l x T n pc mem R true) : EndsAt l x n (mem.getD 0 0) := by
  refine ⟨by rw [h.st], h.bef, by rw [h.st]⟩
/-- it comes to its end -/
theorem ends_from {l : List In} (hP : Prg l) {x : Int} {T : Nat} : ∀ (f n : Nat) {pc : Int} {mem : List Int} {R : List Rp} {ov : Bool}, RI l x T n pc mem R ov → T + 1 ≤ n + f → ∃ N v, EndsAt l x N v ∧ N ≤ T
  | 0, n, pc, mem, R, ov, h, hf => by have := h.le; omega
  | f + 1, n, pc, mem, R, true, h, hf => ⟨n, _, ri_end h, h.le⟩
  | f + 1, n, pc, mem, R, false, h, hf => by
    obtain ⟨⟨pcF, memF, RF, ovF, y, ok⟩, hF⟩ : ∃ y, stepF l pc mem R false = y := ⟨_, rfl⟩
    exact ends_from hP f (n + 1) (ri_step hP h hF).2 (by omega)
theorem ends_ex {l : List In} (hk : okB l = true) {x : Int} (h0 : -9223372036854775808 ≤ x) (h1 : x ≤ 9223372036854775807) : ∃ N v, EndsAt l x N v ∧ N ≤ tk l :=
  ends_from (prg_of hk) (tk l + 1) 0 (ri_start (prg_of hk) h0 h1) (by omega)
end Go.Proofs.Ytonholadabebbaa
