/-
  Pieces and spans of a program that may be, by the ticks of its instructions: plain facts.
-/
import Derived.Test.YteikdocpncdheaaCostm
namespace Go.Proofs.Yteikdocpncdheaa

/-! ### a Lock and its Unlock -/
theorem opn_cases {l : List In} (h : okP l = true) {i : Nat} (hi : i < l.length) :
    ((gt l i).1 = 9 ∧ opn l (i + 1) = opn l i ++ [i]) ∨ ((gt l i).1 = 10 ∧ ∃ j, opn l i = opn l (i + 1) ++ [j] ∧ (gt l j).2.1 = (gt l i).2.1 ∧ scL l j = scL l i) ∨ ((gt l i).1 ≠ 9 ∧ (gt l i).1 ≠ 10 ∧ opn l (i + 1) = opn l i) := by
  rcases step_cases (opn_step h hi) with ⟨a, b, _⟩ | a | a
  · exact .inl ⟨a, b⟩
  · exact .inr (.inl a)
  · exact .inr (.inr a)
theorem opn_keep {l : List In} (h : okP l = true) {k : Nat} (h9 : (gt l k).1 = 9) : ∀ n, k + 1 + n ≤ l.length → (∀ i, k < i → i ≤ k + 1 + n → k ∈ opn l i) ∨
    ∃ u, k < u ∧ u < k + 1 + n ∧ (gt l u).1 = 10 ∧ opn l u = opn l (u + 1) ++ [k] ∧ scL l k = scL l u ∧ (gt l k).2.1 = (gt l u).2.1 ∧ ∀ i, k < i → i ≤ u → k ∈ opn l i
  | 0, hn => by
    rcases opn_cases h (show k < l.length by omega) with ⟨_, b⟩ | ⟨a, _⟩ | ⟨a, _⟩
    · exact .inl fun i h1 h2 => by
        obtain rfl : i = k + 1 := by omega
        rw [b]; simp
    · omega
    · omega
  | n + 1, hn => by
    rcases opn_keep h h9 n (by omega) with ih | ⟨u, a1, a2, a3⟩
    · have hm := ih (k + 1 + n) (by omega) (Nat.le_refl _)
      have key : k ∈ opn l (k + 1 + n + 1) ∨ ((gt l (k + 1 + n)).1 = 10 ∧ opn l (k + 1 + n) = opn l (k + 1 + n + 1) ++ [k] ∧ scL l k = scL l (k + 1 + n) ∧ (gt l k).2.1 = (gt l (k + 1 + n)).2.1) := by
        rcases opn_cases h (show k + 1 + n < l.length by omega) with ⟨_, b⟩ | ⟨a, j, b, c, d⟩ | ⟨_, _, b⟩
        · exact .inl (by rw [b]; simp [hm])
        · rw [b] at hm
          rcases List.mem_append.1 hm with hm | hm
          · exact .inl hm
          · obtain rfl := List.mem_singleton.1 hm
            exact .inr ⟨a, b, d, c⟩
        · exact .inl (by rw [b]; exact hm)
      rcases key with key | ⟨b1, b2, b3, b4⟩
      · exact .inl fun i h1 h2 => by
          by_cases e : i = k + 1 + n + 1
          · subst e; exact key
          · exact ih i h1 (by omega)
      · exact .inr ⟨k + 1 + n, by omega, by omega, b1, b2, b3, b4, fun i h1 h2 => ih i h1 h2⟩
    · exact .inr ⟨u, a1, by omega, a3⟩
theorem out_keep {l : List In} (h : okP l = true) {k u : Nat} (hu : u < l.length) (h10 : (gt l u).1 = 10) (ho : opn l u = opn l (u + 1) ++ [k]) : ∀ n, u + 1 + n ≤ l.length → (outO l (u + 1 + n)).getD k 0 = (u : Int) ∧ k ∉ opn l (u + 1 + n)
  | 0, hn => by
    have hH := opn_held h (Nat.le_of_lt hu)
    rw [ho] at hH
    have hk := hH.lt k (by simp)
    refine ⟨?_, fun hm => ?_⟩
    · have hr := opn_run h (Nat.le_of_lt hu)
      rw [ho] at hr
      show (outO l (u + 1)).getD k 0 = u
      rw [out_un' h10 hr, getD_set (by rw [outO_len]; omega), if_pos rfl]
    · have := (held_before hH k hm).1
      omega
  | n + 1, hn => by
    obtain ⟨i1, i2⟩ := out_keep h hu h10 ho n (by omega)
    have hk : k < u := (opn_held h (Nat.le_of_lt hu)).lt k (by rw [ho]; simp)
    have hm : u + 1 + n < l.length := by omega
    rw [show u + 1 + (n + 1) = u + 1 + n + 1 by omega]
    rcases opn_cases h hm with ⟨a, b⟩ | ⟨a, j, b, c, d⟩ | ⟨a, a', b⟩
    · refine ⟨by rw [out_other' (by omega)]; exact i1, ?_⟩
      rw [b]
      simp [i2]
      omega
    · have hr := opn_run h (Nat.le_of_lt hm)
      have hj : j ∈ opn l (u + 1 + n) := by rw [b]; simp
      have hjl := (opn_held h (Nat.le_of_lt hm)).lt j hj
      rw [b] at hr i2
      refine ⟨?_, fun h' => i2 (by simp [h'])⟩
      rw [out_un' a hr, getD_set (by rw [outO_len]; omega), if_neg (by rintro rfl; simp at i2)]
      exact i1
    · exact ⟨by rw [out_other' a']; exact i1, by rw [b]; exact i2⟩
theorem un_pair {l : List In} (h : okP l = true) {k u : Nat} (hu : u < l.length) (h10 : (gt l u).1 = 10) (ho : opn l u = opn l (u + 1) ++ [k]) : (pairL l).getD k 0 = (u : Int) := by
  have := (out_keep h hu h10 ho (l.length - (u + 1)) (by omega)).1
  rwa [show u + 1 + (l.length - (u + 1)) = l.length by omega] at this
/-- of a Lock: its Unlock -/
structure Pr (l : List In) (k u : Nat) : Prop where
  out : (pairL l).getD k 0 = (u : Int)
  lt : k < u
  le : u < l.length
  un : (gt l u).1 = 10
  sc : scL l k = scL l u
  sema : (gt l k).2.1 = (gt l u).2.1
  held : ∀ i, k < i → i ≤ u → k ∈ opn l i
theorem pr_of {l : List In} (h : okP l = true) {k : Nat} (hk : k < l.length) (h9 : (gt l k).1 = 9) : ∃ u, Pr l k u := by
  rcases opn_keep h h9 (l.length - (k + 1)) (by omega) with ih | ⟨u, a1, a2, a3, a4, a5, a6, a7⟩
  · have := ih l.length hk (by omega)
    rw [opn_end h] at this
    cases this
  · exact ⟨u, un_pair h (by omega) a3 a4, a1, by omega, a3, a5, a6, a7⟩
theorem Pr.body {l : List In} (hl : l.length ≤ 24) {k u : Nat} (h : Pr l k u) (f : Nat) : inA l f k = inA l f u := by
  by_cases hf : f < 24
  · exact same_in h.sc hf
  · rw [inA_no.2 (by have := h.lt; have := h.le; omega), inA_no.2 (by have := h.lt; have := h.le; omega)]
/-- the weights behind a Lock -/
theorem Pr.wts {l : List In} (hl : l.length ≤ 24) {k u : Nat} (h : Pr l k u) (h9 : (gt l k).1 = 9) {lo i : Nat} (hlo : lo ≤ k) (h1 : k < i) (h2 : i ≤ u) : wt l lo i = wt l lo k * wt l (k + 1) i := by
  unfold wt
  rw [wtA_split (show lo ≤ k + 1 by omega) (show k + 1 ≤ i by omega), wtA_no (inB_no.2 (by omega))]
  congr 1
  refine wtA_congr fun f _ hf => ?_
  have hb := h.body hl f
  rw [Bool.eq_iff_iff, inA_iff, inA_iff] at hb
  rw [Bool.eq_iff_iff, inB_iff, inB_iff]
  constructor
  · rintro ⟨a, b⟩; exact ⟨by omega, b⟩
  · rintro ⟨a, b⟩; have := hb.1 a; exact ⟨by omega, b⟩
theorem Pr.subs {l : List In} (hP : Prg l) {k u : Nat} (h : Pr l k u) : Tk (sub l (k + 1) (u - k)) ∧ tk (sub l (k + 1) (u - k)) = Sm l (k + 1) (k + 1) (u + 1) := by
  have h1 := h.lt
  have h2 := h.le
  refine ⟨(tk_of hP).sub (by omega) (fun f f1 f2 f8 => ?_), ?_⟩
  · have hu := h.un
    have : f ≠ u := by rintro rfl; omega
    apply Decidable.byContradiction
    intro hn
    have hin : inA l f u = true := inA_iff.2 (by omega)
    rw [← h.body hP.le.2 f] at hin
    have := inA_iff.1 hin
    omega
  · rw [tk_sub (by omega), show k + 1 + (u - k) = u + 1 by omega]
/-! ### pieces -/
def isM (l : List In) (k : Nat) : Bool := (gt l k).1 == 11 || (gt l k).1 == 0
def frs (l : List In) : Nat → Nat
  | 0 => 0
  | k + 1 => if isM l k = true then k + 1 else frs l k
def lgs (l : List In) : Nat → Nat
  | 0 => 0
  | k + 1 => if isM l k = true then max (lgs l k) (Sm l 0 (frs l k) (k + 1)) else lgs l k
theorem frs_yes {l : List In} {k : Nat} (h : isM l k = true) : frs l (k + 1) = k + 1 ∧ lgs l (k + 1) = max (lgs l k) (Sm l 0 (frs l k) (k + 1)) := by
  rw [frs, lgs, if_pos h, if_pos h]; exact ⟨rfl, rfl⟩
theorem frs_no {l : List In} {k : Nat} (h : isM l k = false) : frs l (k + 1) = frs l k ∧ lgs l (k + 1) = lgs l k := by
  rw [frs, lgs, if_neg (by simp [h]), if_neg (by simp [h])]; exact ⟨rfl, rfl⟩
theorem frs_le (l : List In) : ∀ k, frs l k ≤ k
  | 0 => Nat.le_refl _
  | k + 1 => by
    rw [frs]
    split
    · omega
    · have := frs_le l k; omega
/-- behind a Mark there is no body of ahead of it -/
theorem frs_top {l : List In} (hP : Prg l) : ∀ {k : Nat}, k < l.length → ∀ f i, f < frs l k → frs l k ≤ i → inB l f i = false
  | 0, _, f, i, h1, _ => by simp [frs] at h1
  | k + 1, hk, f, i, h1, h2 => by
    cases hm : isM l k with
    | false =>
      rw [(frs_no hm).1] at h1 h2
      exact frs_top hP (by omega) f i h1 h2
    | true =>
      rw [(frs_yes hm).1] at h1 h2
      have h0 : (gt l k).1 ≠ 0 := fun h => by
        have := (hP.ins k (by omega)).2.1 h
        omega
      have h11 : (gt l k).1 = 11 := by
        unfold isM at hm
        simpa [h0] using hm
      have hle := hP.le
      rw [inB_no]
      rintro ⟨h3, h4⟩
      by_cases e : f = k
      · subst e; omega
      · have := inA_no.1 ((hP.mark k (by omega) h11).1 f (by omega))
        omega
theorem wt_top {l : List In} {a i : Nat} (h : ∀ f, f < a → inB l f i = false) (hi : a ≤ i) : wt l a i = wt l 0 i := by
  unfold wt
  rw [wtA_split (l := l) (lo := 0) (i := i) (m := a) (by omega) hi, wtA_one fun f _ hf => h f hf, Nat.one_mul]
theorem piece_sub {l : List In} (hP : Prg l) {k : Nat} (hk : k < l.length) (hm : isM l k = true) :
    Tk (sub l (frs l k) (k + 1 - frs l k)) ∧ tk (sub l (frs l k) (k + 1 - frs l k)) = Sm l 0 (frs l k) (k + 1) := by
  have hf := frs_le l k
  have hle := hP.le
  refine ⟨(tk_of hP).sub (by omega) (fun f f1 f2 f8 => ?_), ?_⟩
  · have har := hP.nest.1 f (is_ar (.inl f8))
    have h811 : f ≠ k := by
      rintro rfl
      unfold isM at hm
      simp [f8] at hm
    by_cases h11 : (gt l k).1 = 11
    · have := inA_no.1 ((hP.mark k hk h11).1 f (by omega))
      omega
    · have h0 : (gt l k).1 = 0 := by
        unfold isM at hm
        simpa [h11] using hm
      have := (hP.ins k hk).2.1 h0
      omega
  · rw [tk_sub (by omega), show frs l k + (k + 1 - frs l k) = k + 1 by omega]
    exact Sm_congr (by omega) fun i h1 h2 => wt_top (fun f h3 => frs_top hP hk f i h3 h1) h1
theorem Prg.wt_le {l : List In} (hP : Prg l) {i : Nat} (hi : i < l.length) : wt l 0 i ≤ 400 := (tk_of hP).bd i hi
theorem Prg.sm_le {l : List In} (hP : Prg l) {a b : Nat} (h : a ≤ b) (hb : b ≤ l.length) : Sm l 0 a b ≤ 9600 := by
  have h1 := Sm_bd (l := l) (lo := 0) h fun i _ hi => hP.wt_le (by omega)
  have := hP.le
  omega
theorem lgs_bd {l : List In} (hP : Prg l) : ∀ {k : Nat}, k ≤ l.length → lgs l k ≤ 9600
  | 0, _ => by simp [lgs]
  | k + 1, hk => by
    have ih := lgs_bd hP (k := k) (by omega)
    cases hm : isM l k with
    | false => rw [(frs_no hm).2]; exact ih
    | true =>
      rw [(frs_yes hm).2]
      have := hP.sm_le (a := frs l k) (b := k + 1) (by have := frs_le l k; omega) hk
      omega
/-! ### spans -/
def spn (l : List In) (k : Nat) : Int × Int := ((gt l k).2.1, (Sm l (k + 1) (k + 1) (((pairL l).getD k 0).toNat + 1) : Int))
def spL (l : List In) : Nat → List (Int × Int)
  | 0 => []
  | k + 1 => if (gt l k).1 = 9 then spL l k ++ [spn l k] else spL l k
theorem spL_yes {l : List In} {k : Nat} (h : (gt l k).1 = 9) : spL l (k + 1) = spL l k ++ [spn l k] := by rw [spL, if_pos h]
theorem spL_no {l : List In} {k : Nat} (h : (gt l k).1 ≠ 9) : spL l (k + 1) = spL l k := by rw [spL, if_neg h]
theorem spL_len (l : List In) : ∀ k, (spL l k).length ≤ k
  | 0 => Nat.le_refl _
  | k + 1 => by
    have := spL_len l k
    rw [spL]
    split
    · simp; omega
    · omega
theorem spn_of {l : List In} {k u : Nat} (h : Pr l k u) : spn l k = ((gt l k).2.1, (Sm l (k + 1) (k + 1) (u + 1) : Int)) := by
  unfold spn
  rw [h.out]
  rfl
theorem spn_ref {l : List In} (hP : Prg l) {k u : Nat} (h : Pr l k u) (h9 : (gt l k).1 = 9) : Sm l 0 (k + 1) (u + 1) / wt l 0 k = Sm l (k + 1) (k + 1) (u + 1) := by
  have h1 := h.lt
  rw [Sm_mul (lo' := k + 1) (N := wt l 0 k) (by omega) fun i h1 h2 => h.wts hP.le.2 h9 (by omega) (by omega) (by omega)]
  exact Nat.mul_div_cancel_left _ (wt_pos hP.all)
end Go.Proofs.Yteikdocpncdheaa
