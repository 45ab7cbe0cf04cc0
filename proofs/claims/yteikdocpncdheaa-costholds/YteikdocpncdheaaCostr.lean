/-
  How many ticks a machine has left at most, on its way through a program: plain facts.
-/
import Derived.Test.YteikdocpncdheaaPlains
import Derived.Test.YteikdocpncdheaaMstep
namespace Go.Proofs.Yteikdocpncdheaa

/-- no body of lo on has it -/
def TopL (l : List In) (lo pc : Nat) : Prop := ∀ f, lo ≤ f → f < pc → inB l f pc = false
theorem topL_self (l : List In) (a : Nat) : TopL l a a := fun f h1 h2 => by omega
theorem topL_wt {l : List In} {lo pc : Nat} (h : TopL l lo pc) : wt l lo pc = 1 := wtA_one h
theorem topL_back {l : List In} {lo pc f i : Nat} (h : TopL l lo pc) (h1 : lo ≤ f) (h2 : f < pc) (h3 : pc ≤ i) : inB l f i = false := by
  have := inB_no.1 (h f h1 h2)
  rw [inB_no]
  omega
theorem topL_next {l : List In} {lo pc : Nat} (h : TopL l lo pc) (h8 : (gt l pc).1 ≠ 8) : TopL l lo (pc + 1) := fun f h1 h2 => by
  by_cases e : f = pc
  · subst e; rw [inB_no]; exact fun h => h8 h.2
  · exact topL_back h h1 (by omega) (by omega)
/-- behind a body or a reach -/
theorem topL_area {l : List In} (hP : Prg l) {lo pc : Nat} (hpc : pc ∈ arI l l.length) (h : TopL l lo pc) : TopL l lo (pc + rch (gt l pc) + 1) := fun f h1 h2 => by
  by_cases e : f < pc
  · exact topL_back h h1 e (by omega)
  · rw [inB_no]
    rintro ⟨⟨a, b⟩, c⟩
    by_cases e2 : f = pc
    · subst e2; omega
    · have := hP.nest.2 pc hpc f (is_ar (.inl c)) (inA_iff.2 (by omega))
      omega
theorem rep_mul {l : List In} {lo pc : Nat} (hlo : lo ≤ pc) (h8 : (gt l pc).1 = 8) (h : TopL l lo pc) : Sm l lo (pc + 1) (pc + rch (gt l pc) + 1) = nOf l pc * Sm l (pc + 1) (pc + 1) (pc + rch (gt l pc) + 1) := by
  refine Sm_mul (by omega) fun i h1 h2 => ?_
  have hs := wtA_split (l := l) (lo := lo) (i := i) (m := pc + 1) (by omega) (k := i) (by omega)
  unfold wt
  rw [hs, wtA_yes (by omega) (inB_iff.2 ⟨⟨by omega, by omega⟩, h8⟩), wtA_one fun f h3 h4 => topL_back h h3 h4 (by omega), Nat.one_mul]

/-- the ticks that are left at most -/
def ph (l : List In) (n : Nat) (pc : Nat) : List Rp → Nat
  | [] => Sm l 0 pc n
  | r :: R => Sm l r.1.toNat pc (r.2.1.toNat + 1) + r.2.2.toNat * Sm l r.1.toNat r.1.toNat (r.2.1.toNat + 1) + ph l n (r.2.1.toNat + 1) R
/-- every body that has it is on its way -/
def Fl (l : List In) (pc : Nat) : List Rp → Prop
  | [] => TopL l 0 pc
  | r :: R => TopL l r.1.toNat pc ∧ Fl l (r.1.toNat - 1) R
theorem Fl.head {l : List In} {pc pc' : Nat} {R : List Rp} (h : Fl l pc R) (hs : ∀ lo, TopL l lo pc → TopL l lo pc') : Fl l pc' R := by
  cases R with
  | nil => exact hs 0 h
  | cons r R => exact ⟨hs _ h.1, h.2⟩
theorem norm_ph {l : List In} (hP : Prg l) (n : Nat) {nx : Nat} : ∀ {R : List Rp} {ub : Nat}, Cw l nx ub R → Fl l nx R → ∀ pc : Nat, (normR nx R).1 = (pc : Int) → ph l n pc (normR nx R).2 = ph l n nx R ∧ Fl l pc (normR nx R).2
  | [], _, _, hF, pc, hp => by
    obtain rfl : nx = pc := by unfold normR at hp; simp only at hp; omega
    exact ⟨rfl, hF⟩
  | r :: R, ub, hC, hF, pc, hp => by
    obtain ⟨f, k1, k2, k3, k4, k5, k6, k7, k8, k9⟩ := hC
    have e1 : r.1.toNat = f + 1 := by omega
    have e2 : r.2.1.toNat = f + rch (gt l f) := by omega
    unfold normR at hp ⊢
    by_cases c1 : r.2.1 < (nx : Int)
    · rw [if_pos c1] at hp ⊢
      have hnx : nx = f + rch (gt l f) + 1 := by omega
      by_cases c2 : 0 < r.2.2
      · rw [if_pos c2] at hp ⊢
        obtain rfl : pc = f + 1 := by simp only at hp; omega
        refine ⟨?_, ?_⟩
        · show Sm l r.1.toNat (f + 1) (r.2.1.toNat + 1) + (r.2.2 - 1).toNat * Sm l r.1.toNat r.1.toNat (r.2.1.toNat + 1) + ph l n (r.2.1.toNat + 1) R = Sm l r.1.toNat nx (r.2.1.toNat + 1) + r.2.2.toNat * Sm l r.1.toNat r.1.toNat (r.2.1.toNat + 1) + ph l n (r.2.1.toNat + 1) R
          obtain ⟨L, hL⟩ : ∃ L : Nat, r.2.2.toNat = L + 1 := ⟨r.2.2.toNat - 1, by omega⟩
          have e3 : (r.2.2 - 1).toNat = L := by omega
          rw [e1, e2, hL, e3, hnx, Sm_nil, Nat.add_mul]
          omega
        · exact ⟨by rw [e1]; exact topL_self l _, hF.2⟩
      · rw [if_neg c2] at hp ⊢
        have hL : r.2.2.toNat = 0 := by omega
        have hF2 : Fl l nx R := by
          have h2 := hF.2
          rw [e1, Nat.add_sub_cancel] at h2
          rw [hnx]
          exact h2.head fun lo h => topL_area hP (is_ar (.inl k2)) h
        obtain ⟨i1, i2⟩ := norm_ph hP n k9 hF2 pc hp
        refine ⟨?_, i2⟩
        rw [i1]
        show ph l n nx R = Sm l r.1.toNat nx (r.2.1.toNat + 1) + r.2.2.toNat * Sm l r.1.toNat r.1.toNat (r.2.1.toNat + 1) + ph l n (r.2.1.toNat + 1) R
        rw [hL, e2, ← hnx, Sm_nil]
        omega
    · rw [if_neg c1] at hp ⊢
      obtain rfl : nx = pc := by simp only at hp; omega
      exact ⟨rfl, hF⟩
/-- the first summand of what is left -/
theorem ph_head {l : List In} {n pc nx : Nat} (h1 : pc ≤ nx) (hn : nx ≤ n) {R : List Rp} {ub : Nat} (hC : Cw l nx ub R) : ∃ lo, ph l n pc R = Sm l lo pc nx + ph l n nx R ∧ (Fl l pc R → TopL l lo pc) ∧ (ub ≤ pc → lo ≤ pc) := by
  cases R with
  | nil => exact ⟨0, Sm_split h1 hn, fun h => h, fun _ => Nat.zero_le _⟩
  | cons r R =>
    obtain ⟨f, k1, k2, k3, k4, k5, k6, k7, k8, k9⟩ := hC
    refine ⟨r.1.toNat, ?_, fun h => h.1, fun h => by omega⟩
    show Sm l r.1.toNat pc (r.2.1.toNat + 1) + r.2.2.toNat * Sm l r.1.toNat r.1.toNat (r.2.1.toNat + 1) + ph l n (r.2.1.toNat + 1) R = Sm l r.1.toNat pc nx + (Sm l r.1.toNat nx (r.2.1.toNat + 1) + r.2.2.toNat * Sm l r.1.toNat r.1.toNat (r.2.1.toNat + 1) + ph l n (r.2.1.toNat + 1) R)
    rw [Sm_split h1 (show nx ≤ r.2.1.toNat + 1 by omega)]
    omega
theorem Ch.weak {l : List In} {pc : Nat} : ∀ {R : List Rp} {ub : Nat}, Ch l pc ub R → Cw l pc ub R
  | [], _, _ => trivial
  | r :: R, ub, h => by
    obtain ⟨f, k1, k2, k3, k4, k5, k6, k7, k8⟩ := h
    have := inA_iff.1 k7
    exact ⟨f, k1, k2, k3, k4, k5, k6, by omega, by omega, Ch.weak k8⟩
/-- A step that is not the last: what is left is less; by one, unless it passes over something. -/
theorem cstep {l : List In} (hP : Prg l) (hW : l.all mayW = true) {pc : Nat} (hpc : pc < l.length) (h0 : (gt l pc).1 ≠ 0) {R RF : List Rp} {pcF : Int} {ov : Bool} (hC : Ch l pc pc R.reverse) (hF : Fl l pc R.reverse) (h : StepRel pc R (gt l pc) pcF RF ov) :
    ∃ pc' : Nat, pcF = (pc' : Int) ∧ Fl l pc' RF.reverse ∧ ph l l.length pc' RF.reverse + 1 ≤ ph l l.length pc R.reverse ∧ ((gt l pc).1 ≠ 7 → ph l l.length pc' RF.reverse + 1 = ph l l.length pc R.reverse) := by
  have hi := hP.ins pc hpc
  have hn : pc + 1 < l.length := by
    have := mt hi.2.2 h0
    omega
  obtain ⟨hov, pc', e1, e2, e3, e4, _⟩ := mstep hP hW hpc h0 hC h
  refine ⟨pc', e1, ?_⟩
  have hm := may_iff.1 hi.1
  unfold mayP at hm
  rcases h with ⟨h, _⟩ | ⟨_, _, nx, hnx, h⟩
  · exact absurd h h0
  by_cases h8 : (gt l pc).1 = 8
  · rw [if_pos h8] at h
    have hr : (rch (gt l pc) : Int) = (gt l pc).2.2.1 := by unfold rch; rw [reach_8 h8]; omega
    have har := hP.nest.1 pc (is_ar (.inl h8))
    have hno := nOf_bd hP.all h8
    obtain rfl : nx = (pc : Int) + 1 := by rcases hnx with rfl | ⟨h7, _⟩ <;> omega
    rw [show ((pc : Int) + 1) = ((pc + 1 : Nat) : Int) by omega] at h
    have hp1 := rch_pos hP (is_ar (.inl h8))
    unfold normR at h
    rw [if_neg (by simp only; omega)] at h
    simp only [Prod.mk.injEq] at h
    obtain ⟨h1, h2⟩ := h
    obtain rfl : pc' = pc + 1 := by omega
    rw [← h2]
    have t1 : (((pc + 1 : Nat) : Int)).toNat = pc + 1 := by omega
    have t2 : ((pc : Int) + (gt l pc).2.2.1).toNat = pc + rch (gt l pc) := by omega
    obtain ⟨L, hL⟩ : ∃ L : Nat, nOf l pc = L + 1 := ⟨nOf l pc - 1, by omega⟩
    have t3 : ((gt l pc).2.2.2 - 1).toNat = L := by omega
    have hw := ch_next hP hpc (nx := pc + 1) (.inl rfl) (Nat.le_refl _) hC
    have hwB : Cw l (pc + rch (gt l pc) + 1) pc R.reverse := ch_next hP hpc (nx := pc + rch (gt l pc) + 1) (.inr rfl) (Nat.le_refl _) hC
    have key : ph l l.length (pc + 1) ((((pc + 1 : Nat) : Int), (pc : Int) + (gt l pc).2.2.1, (gt l pc).2.2.2 - 1) :: R.reverse) + 1 = ph l l.length pc R.reverse := by
      obtain ⟨lo, a1, a2, a4⟩ := ph_head (n := l.length) (pc := pc) (nx := pc + rch (gt l pc) + 1) (by omega) (by omega) hwB
      have a3 := a2 hF
      rw [a1]
      show Sm l (((pc + 1 : Nat) : Int)).toNat (pc + 1) (((pc : Int) + (gt l pc).2.2.1).toNat + 1) + ((gt l pc).2.2.2 - 1).toNat * Sm l (((pc + 1 : Nat) : Int)).toNat (((pc + 1 : Nat) : Int)).toNat (((pc : Int) + (gt l pc).2.2.1).toNat + 1) + ph l l.length (((pc : Int) + (gt l pc).2.2.1).toNat + 1) R.reverse + 1 = _
      rw [t1, t2, t3]
      have hlo : lo ≤ pc := a4 (Nat.le_refl _)
      rw [Sm_first (show pc < pc + rch (gt l pc) + 1 by omega), topL_wt a3, rep_mul hlo h8 a3, hL, Nat.add_mul]
      omega
    refine ⟨⟨by rw [t1]; exact topL_self l _, ?_⟩, by omega, fun _ => key⟩
    rw [t1, Nat.add_sub_cancel]
    exact hF
  · rw [if_neg h8] at h
    have key : ∃ nn : Nat, nx = (nn : Int) ∧ (nn = pc + 1 ∨ (gt l pc).1 = 7 ∧ nn = pc + rch (gt l pc) + 1) := by
      rcases hnx with rfl | ⟨h7, rfl⟩
      · exact ⟨pc + 1, by omega, .inl rfl⟩
      · have hr := reach_7 h7
        refine ⟨pc + rch (gt l pc) + 1, ?_, .inr ⟨h7, rfl⟩⟩
        unfold rch
        omega
    obtain ⟨nn, rfl, hnn⟩ := key
    have hle : nn ≤ l.length ∧ pc < nn := by
      rcases hnn with rfl | ⟨h7, rfl⟩
      · omega
      · have := hP.nest.1 pc (is_ar (.inr h7)); omega
    have hw := ch_next hP hpc (nx := nn) (by rcases hnn with h | ⟨_, h⟩ <;> omega) (Nat.le_refl _) hC
    have hFn : Fl l nn R.reverse := hF.head fun lo ht => by
      rcases hnn with rfl | ⟨h7, rfl⟩
      · exact topL_next ht h8
      · exact topL_area hP (is_ar (.inr h7)) ht
    obtain ⟨n1, n2⟩ := norm_ph hP l.length hw hFn pc' (by rw [h]; exact e1)
    rw [h] at n1 n2
    obtain ⟨lo, a1, a2, a4⟩ := ph_head (n := l.length) (pc := pc) (nx := nn) (by omega) hle.1 hw
    have a3 := topL_wt (a2 hF)
    rw [Sm_first hle.2, a3] at a1
    refine ⟨n2, by rw [n1]; omega, fun h7 => ?_⟩
    rcases hnn with rfl | ⟨h7', _⟩
    · rw [Sm_nil] at a1
      rw [n1]; omega
    · exact absurd h7' h7
end Go.Proofs.Yteikdocpncdheaa
