/-
  The document's Ceil.
-/
import Derived.Test.YteklpceikddggaaBby
import Derived.Test.YteklpceikddggaaTrcost
namespace Go.Proofs.Yteklpceikddggaa
open Go.ChangeShapes Go.WideShapes Go.ChangeAt Go.RowKit
attribute [local go_sem ↓] Go.wp_at_zero Go.wp_at_succ

/-- does one of l lock s -/
def lockS (l : List In) (s : Int) : Bool := l.any fun x => x.1 == 9 && x.2.1 == s
theorem take_snocL {l : List In} {k : Nat} (h : k < l.length) : l.take (k + 1) = l.take k ++ [l[k]] := by simp
theorem isS_spL (l : List In) (s : Int) : ∀ k, k ≤ l.length → isS (spL l k) s = lockS (l.take k) s
  | 0, _ => rfl
  | k + 1, hk => by
    have ih := isS_spL l s k (by omega)
    have hg : gt l k = l[k] := gt_eq (by omega)
    rw [take_snocL (show k < l.length by omega)]
    unfold lockS at ih ⊢
    rw [List.any_append, ← ih]
    by_cases h : (gt l k).1 = 9
    · rw [spL_yes h]
      unfold isS
      rw [List.any_append]
      have e : (spn l k).1 = l[k].2.1 := by unfold spn; rw [hg]
      rw [hg] at h
      simp [e, h]
    · rw [spL_no h]
      rw [hg] at h
      simp [h]
theorem isS_spa (M W : List In) (s : Int) : isS (spaT 0 M W) s = lockS (M ++ W) s := by
  have e : spaT 0 M W = spL M M.length ++ tws W := if_pos rfl
  have h1 := isS_spL M s M.length (Nat.le_refl _)
  rw [List.take_of_length_le (Nat.le_refl _)] at h1
  have h2 : isS (tws W) s = lockS W s := by
    unfold tws
    by_cases h0 : W.length = 0
    · rw [if_pos h0, List.length_eq_zero_iff.1 h0]; rfl
    · rw [if_neg h0]
      have := isS_spL W s W.length (Nat.le_refl _)
      rwa [List.take_of_length_le (Nat.le_refl _)] at this
  rw [e]
  unfold isS lockS at h1 h2 ⊢
  rw [List.any_append, List.any_append, h1, h2]
theorem spL_low {l : List In} (h : l.all mayB = true) : ∀ k, ∀ x ∈ spL l k, 0 ≤ x.1 ∧ x.1 < 4
  | 0, x, hx => by simp [spL] at hx
  | k + 1, x, hx => by
    by_cases h9 : (gt l k).1 = 9
    · rw [spL_yes h9] at hx
      rcases List.mem_append.1 hx with hx | hx
      · exact spL_low h k x hx
      · obtain rfl := List.mem_singleton.1 hx
        have := may_iff.1 (all_gt h k)
        unfold mayP at this
        have e : (spn l k).1 = (gt l k).2.1 := rfl
        omega
    · rw [spL_no h9] at hx
      exact spL_low h k x hx
theorem spa_low {r p e : Int} {M W O : List In} (h : erT r p e M W O = 0) : ∀ x ∈ spaT 0 M W, 0 ≤ x.1 ∧ x.1 < 4 := by
  obtain ⟨_, _, _, kM, kW, _, _, _⟩ := er0 h
  have e : spaT 0 M W = spL M M.length ++ tws W := if_pos rfl
  intro x hx
  rw [e] at hx
  rcases List.mem_append.1 hx with hx | hx
  · exact spL_low (prg_of kM).all _ x hx
  · unfold tws at hx
    by_cases h0 : W.length = 0
    · rw [if_pos h0] at hx; cases hx
    · rw [if_neg h0] at hx
      have kW' : okB W = true := by unfold wyB at kW; simpa [h0] using kW
      exact spL_low (prg_of kW').all _ x hx
/-- a row of tasks that may be, and the spans of each -/
structure Rowe (w : World) (p : Option Addr) (c n : Nat) (P : List Tv) (SP : List Sn) : Prop where
  rd : Rd eTk w p c P
  len : P.length = n
  sl : SP.length = n
  tk : ∀ (k : Nat) (h1 : k < P.length) (h2 : k < SP.length), ∃ M W O, Gt w P[k] M W O ∧ erT P[k].r P[k].p P[k].e M W O = 0 ∧ spaT 0 M W = SP[k]
theorem Rowe.below {w w' : World} {p : Option Addr} {c n : Nat} {P : List Tv} {SP : List Sn} (h : Rowe w p c n P SP) (hb : Below w.heap.size w w') : Rowe w' p c n P SP :=
  ⟨h.rd.below hb, h.len, h.sl, fun k h1 h2 => by
    obtain ⟨M, W, O, g, e1, e2⟩ := h.tk k h1 h2
    exact ⟨M, W, O, g.below hb, e1, e2⟩⟩
theorem Rowe.d {w : World} {p : Option Addr} {c n : Nat} {P : List Tv} {SP : List Sn} (h : Rowe w p c n P SP) : Rowd w p c n P SP :=
  ⟨h.rd, h.len, h.sl, fun k h1 h2 => by
    obtain ⟨M, W, O, g, e1, e2⟩ := h.tk k h1 h2
    exact ⟨M, W, O, 0, g, e1, e2⟩⟩
theorem Rowe.low {w : World} {p : Option Addr} {c n : Nat} {P : List Tv} {SP : List Sn} (h : Rowe w p c n P SP) : Low4 SP := by
  intro S hS x hx
  obtain ⟨k, hk, rfl⟩ := List.getElem_of_mem hS
  obtain ⟨M, W, O, _, e1, e2⟩ := h.tk k (by rw [h.len, ← h.sl]; exact hk) hk
  rw [← e2] at hx
  exact spa_low e1 x hx
theorem lockS_yes {l : List In} {s : Int} {k : Nat} (hk : k < l.length) (h9 : l[k].1 = 9) (hs : l[k].2.1 = s) : lockS l s = true := List.any_eq_true.2 ⟨_, List.getElem_mem hk, by simp [h9, hs]⟩
theorem lockS_no {l : List In} {s : Int} (h : ∀ j, (hj : j < l.length) → ¬ (l[j].1 = 9 ∧ l[j].2.1 = s)) : lockS l s = false := by
  cases hb : lockS l s with
  | false => rfl
  | true =>
    obtain ⟨x, hx, h2⟩ := List.any_eq_true.1 hb
    obtain ⟨j, hj, rfl⟩ := List.getElem_of_mem hx
    exact absurd (by simpa using h2) (h j hj)
set_option maxRecDepth 20000 in
set_option maxHeartbeats 4000000 in
theorem rceil_any (p : Option Addr) (c n : Nat) (P : List Tv) (SP : List Sn) (w : World) (h : Rowe w p c n P SP) (hn : n ≤ 100) (s C : Int) (hC : IsCeil SP n s C) :
    Calls Try.prog 13 #[.slice p n c, .int .i64 s] w fun e w' => e = .returned (.int .i64 C) ∧ Below w.heap.size w w' := by
  go_enter Try.func13, Try.ntmps13
  go_wp2
  go_loopw [5] (fun i wr => ∃ k : Nat, k ≤ n ∧ i = .int .i64 k ∧ Hid (∀ j, j < k → isS (SP.getD j []) s = false) ∧ Below w.heap.size w wr) (fun i _ => n - (intOf i).toNat)
  case atStart => exact ⟨0, Nat.zero_le _, rfl, (fun j hj => by omega), Below.refl _ _⟩
  case round =>
    obtain ⟨k, hk, rfl, H0, hbw⟩ := hrel
    obtain ⟨W1, hW1⟩ : ∃ W1 : World, W1 = wr := ⟨_, rfl⟩
    subst hW1
    by_cases hlt : k < n
    · have hkI : (k : Int) < (n : Int) := by omega
      have dk : decide ((k : Int) < (n : Int)) = true := decide_eq_true hkI
      have hRw := h.below hbw
      have hkP : k < P.length := by rw [h.len]; exact hlt
      have hkS : k < SP.length := by rw [h.sl]; exact hlt
      obtain ⟨X, hX⟩ : ∃ X, P[k] = X := ⟨_, rfl⟩
      obtain ⟨bb, bo, be, hbb, hcel⟩ := hcel_of hRw.rd k hkP hX
      obtain ⟨M1, Y1, O1, hG, hE, hSk⟩ := hRw.tk k hkP hkS
      rw [hX] at hG
      obtain ⟨hGk, hGr, hGp, hGe⟩ := hG
      subst be
      obtain ⟨r1, p1, e1, mp1, mn1, mc1, wp1, wn1, wc1, op1, on1, oc1⟩ := X
      dsimp only at hcel hGk
      have HI : Hid (isS (SP.getD k []) s = lockS (M1 ++ Y1) s) := by show _ = _; rw [List.getD_eq_getElem?_getD, List.getElem?_eq_getElem hkS]; show isS SP[k] s = _; rw [← hSk, isS_spa]
      obtain ⟨m, hm⟩ : ∃ m, mn1 + wn1 = m := ⟨_, rfl⟩
      have hm2 := hGk.m9
      have hm3 := hGk.n9
      have HL : Hid ((M1 ++ Y1).length = m) := by show _ = _; rw [List.length_append, hGk.m, hGk.n]; exact hm
      clear hE hSk hX hRw hkP hkS hGr hGp hGe
      go_upto_region 4 with fail
      refine wp_region_held_drew (S := fun w' => Below W1.heap.size W1 w') (by kernel_rfl) (Below.refl _ _).drew (fun hHeld => ?_)
      refine wpAnyH_take (i := 1) (oi := _) (v := ?_) rfl (by kernel_rfl) (by kernel_rfl) (by kernel_rfl) (fun _ _ _ h => h) (Or.inl ⟨by rfl, ?_⟩) hHeld ?_
      rotate_left
      · intro w' hSw
        (go_simp <;> with_reducible rfl)
      try simp only [Act.put, List.getElem_toArray, List.getElem_cons_succ, List.getElem_cons_zero, List.setIfInBounds_toArray, List.set_cons_zero, List.set_cons_succ]
      refine wpAnyH_take (i := 2) (oi := _) (v := ?_) rfl (by kernel_rfl) (by kernel_rfl) (by kernel_rfl) (fun _ _ _ h => h) (Or.inl ⟨by rfl, ?_⟩) hHeld ?_
      rotate_left
      · intro w' hSw
        (go_simp <;> with_reducible rfl)
      try simp only [Act.put, List.getElem_toArray, List.getElem_cons_succ, List.getElem_cons_zero, List.setIfInBounds_toArray, List.set_cons_zero, List.set_cons_succ]
      refine wpAnyH_take (i := 3) (oi := _) (v := ?_) rfl (by kernel_rfl) (by kernel_rfl) (by kernel_rfl) (fun _ _ _ h => h) (Or.inl ⟨by rfl, ?_⟩) hHeld ?_
      rotate_left
      · intro w' hSw
        (go_simp <;> with_reducible rfl)
      try simp only [Act.put, List.getElem_toArray, List.getElem_cons_succ, List.getElem_cons_zero, List.setIfInBounds_toArray, List.set_cons_zero, List.set_cons_succ]
      refine wpAnyH_take (i := 4) (oi := _) (v := ?_) rfl (by kernel_rfl) (by kernel_rfl) (by kernel_rfl) (fun _ _ _ h => h) (Or.inl ⟨by rfl, ?_⟩) hHeld ?_
      rotate_left
      · intro w' hSw
        (go_simp <;> with_reducible rfl)
      try simp only [Act.put, List.getElem_toArray, List.getElem_cons_succ, List.getElem_cons_zero, List.setIfInBounds_toArray, List.set_cons_zero, List.set_cons_succ]
      refine wpAnyH_take (i := 5) (oi := _) (v := ?_) rfl (by kernel_rfl) (by kernel_rfl) (by kernel_rfl) (fun _ _ _ h => h) (Or.inl ⟨by rfl, ?_⟩) hHeld ?_
      rotate_left
      · intro w' hSw
        obtain ⟨y0, y1, y2, y3, y4, y5⟩ := hcel w' hSw
        (go_simp <;> with_reducible rfl)
      try simp only [Act.put, List.getElem_toArray, List.getElem_cons_succ, List.getElem_cons_zero, List.setIfInBounds_toArray, List.set_cons_zero, List.set_cons_succ]
      refine wpAnyH_take (i := 7) (oi := _) (v := ?_) rfl (by kernel_rfl) (by kernel_rfl) (by kernel_rfl) (fun _ _ _ h => h) (Or.inl ⟨by rfl, ?_⟩) hHeld ?_
      rotate_left
      · intro w' hSw
        (go_simp <;> with_reducible rfl)
      try simp only [Act.put, List.getElem_toArray, List.getElem_cons_succ, List.getElem_cons_zero, List.setIfInBounds_toArray, List.set_cons_zero, List.set_cons_succ]
      refine wpAnyH_take (i := 8) (oi := _) (v := ?_) rfl (by kernel_rfl) (by kernel_rfl) (by kernel_rfl) (fun _ _ _ h => h) (Or.inl ⟨by rfl, ?_⟩) hHeld ?_
      rotate_left
      · intro w' hSw
        (go_simp <;> with_reducible rfl)
      try simp only [Act.put, List.getElem_toArray, List.getElem_cons_succ, List.getElem_cons_zero, List.setIfInBounds_toArray, List.set_cons_zero, List.set_cons_succ]
      refine wpAnyH_take (i := 9) (oi := _) (v := ?_) rfl (by kernel_rfl) (by kernel_rfl) (by kernel_rfl) (fun _ _ _ h => h) (Or.inl ⟨by rfl, ?_⟩) hHeld ?_
      rotate_left
      · intro w' hSw
        (go_simp <;> with_reducible rfl)
      try simp only [Act.put, List.getElem_toArray, List.getElem_cons_succ, List.getElem_cons_zero, List.setIfInBounds_toArray, List.set_cons_zero, List.set_cons_succ]
      refine wpAnyH_take (i := 10) (oi := _) (v := ?_) rfl (by kernel_rfl) (by kernel_rfl) (by kernel_rfl) (fun _ _ _ h => h) (Or.inl ⟨by rfl, ?_⟩) hHeld ?_
      rotate_left
      · intro w' hSw
        (go_simp <;> with_reducible rfl)
      try simp only [Act.put, List.getElem_toArray, List.getElem_cons_succ, List.getElem_cons_zero, List.setIfInBounds_toArray, List.set_cons_zero, List.set_cons_succ]
      refine wpAnyH_take (i := 11) (oi := _) (v := ?_) rfl (by kernel_rfl) (by kernel_rfl) (by kernel_rfl) (fun _ _ _ h => h) (Or.inl ⟨by rfl, ?_⟩) hHeld ?_
      rotate_left
      · intro w' hSw
        obtain ⟨y0, y1, y2, y3, y4, y5⟩ := hcel w' hSw
        (go_simp <;> with_reducible rfl)
      try simp only [Act.put, List.getElem_toArray, List.getElem_cons_succ, List.getElem_cons_zero, List.setIfInBounds_toArray, List.set_cons_zero, List.set_cons_succ]
      refine wpAnyH_ready (rs := [0]) (by kernel_rfl) (by simp) ?_
      refine AllReadyH.cons (o := _) rfl (fun K hK => ?_) (AllReadyH.nil)
      go_simp
      have bA : Below W1.heap.size W1 (W1.alloc (.cells #[] 30)).drew := (bel_self _ _).drew
      have lA : Own eIn (W1.alloc (.cells #[] 30)).drew W1.heap.size 30 (some ⟨W1.heap.size, 0, none⟩) 0 [] := ⟨by simp [fl], .inr ⟨W1.heap.size, 0, #[], rfl, Nat.le_refl _, Lv.draw (Lv.new _ _ _), Nat.le_refl _, Nat.zero_le _, by simp, by simp [fl]⟩⟩
      refine hK.out _ _ bA (fun hHeld => ?_)
      clear hK K
      obtain ⟨wA, hwA⟩ : ∃ wA, wA = (W1.alloc (.cells #[] 30)).drew := ⟨_, rfl⟩
      rw [← hwA] at bA lA hHeld ⊢
      clear hwA
      try simp only [Act.put, List.getElem_toArray, List.getElem_cons_zero, List.setIfInBounds_toArray, List.set_cons_zero, List.set_cons_succ]
      refine wpAnyH_ready (rs := [6]) (by kernel_rfl) (by simp) ?_
      refine AllReadyH.cons (o := _) rfl (fun K hK => ?_) (AllReadyH.nil)
      refine step_app tIn _ rfl _ _ rfl W1.heap.size (some ⟨W1.heap.size, 0, none⟩) 0 [] 0 rfl rfl lA mp1 mc1 M1 mn1 hGk.m rfl (hGk.rM.below bA) (by omega) bA.size mn1 (Nat.zero_add _) ?_
      intro pA cA wB o1 b1 g1
      have B1 := bA.trans b1
      refine hK.out _ _ B1 (fun hHeld => ?_)
      clear hK K
      try simp only [Act.put, List.getElem_toArray, List.getElem_cons_succ, List.getElem_cons_zero, List.setIfInBounds_toArray, List.set_cons_zero, List.set_cons_succ]
      refine wpAnyH_ready (rs := [12]) (by kernel_rfl) (by simp) ?_
      refine AllReadyH.cons (o := _) rfl (fun K hK => ?_) (AllReadyH.nil)
      refine step_app tIn _ rfl _ _ rfl W1.heap.size pA cA ([] ++ M1) mn1 (by rw [List.nil_append]; exact hGk.m) rfl o1 wp1 wc1 Y1 wn1 hGk.n rfl (hGk.rW.below B1) (by omega) B1.size m hm ?_
      intro q d w3 o3 b3 g3
      have B3 := B1.trans b3
      refine hK.out _ _ B3 (fun hHeld => ?_)
      clear hK K
      try simp only [Act.put, List.getElem_toArray, List.getElem_cons_succ, List.getElem_cons_zero, List.setIfInBounds_toArray, List.set_cons_zero, List.set_cons_succ]
      refine wpAnyH_take (i := 13) (oi := _) (v := ?_) rfl (by kernel_rfl) (by kernel_rfl) (by kernel_rfl) (fun _ _ _ h => h) (Or.inl ⟨by rfl, ?_⟩) hHeld ?_
      rotate_left
      · intro w' hSw
        (go_simp <;> with_reducible rfl)
      try simp only [Act.put, List.getElem_toArray, List.getElem_cons_succ, List.getElem_cons_zero, List.setIfInBounds_toArray, List.set_cons_zero, List.set_cons_succ]
      refine wpAnyH_done (by kernel_rfl) ?_ _
      have rd := own_rd o3
      rw [List.nil_append] at rd
      have hb3 := bel_call hbw (Nat.le_refl _) B3
      clear hHeld o3 b3 g3 B3 o1 b1 g1 B1 bA lA hcel hGk
      go_wp2
      go_loop [7] (fun i => ∃ j : Nat, j ≤ m ∧ i = .int .i64 j ∧ Hid (∀ q, (hq : q < (M1 ++ Y1).length) → q < j → ¬ ((M1 ++ Y1)[q].1 = 9 ∧ (M1 ++ Y1)[q].2.1 = s))) (fun i => m - (intOf i).toNat)
      case atStart => exact ⟨0, Nat.zero_le _, rfl, fun q _ hq => by omega⟩
      case round =>
        obtain ⟨j, hj, rfl, HN⟩ := hrel
        by_cases hjl : j < m
        · have hjI : (j : Int) < (m : Int) := by omega
          have dj : decide ((j : Int) < (m : Int)) = true := decide_eq_true hjI
          have hjL : j < (M1 ++ Y1).length := by rw [HL.out]; exact hjl
          obtain ⟨ib, io, ie, hib, u0, u1, u2, u3⟩ := rd.inst j hjL
          have HX : Hid ((M1 ++ Y1)[j] = (M1 ++ Y1)[j]) := rfl
          obtain ⟨⟨xo, xa, xb, xn⟩, hX⟩ : ∃ X, (M1 ++ Y1)[j] = X := ⟨_, rfl⟩
          rw [hX] at u0 u1
          dsimp only at u0 u1
          have HXx : Hid ((M1 ++ Y1)[j] = (xo, xa, xb, xn)) := hX
          clear u2 u3 hX HX
          subst ie
          by_cases h9 : xo = 9
          · subst h9
            by_cases hs : xa = s
            · have hly : lockS (M1 ++ Y1) s = true := lockS_yes hjL (by rw [HXx.out]) (by rw [HXx.out]; exact hs)
              obtain rfl := hC.at hlt (HI.out.trans hly) H0.out
              subst hs
              clear hly
              go_wp2
              go_ret
              exact ⟨rfl, hb3⟩
            · have ds : (xa == s) = false := by simpa using hs
              have HN2 : Hid (∀ q, (hq : q < (M1 ++ Y1).length) → q < j + 1 → ¬ ((M1 ++ Y1)[q].1 = 9 ∧ (M1 ++ Y1)[q].2.1 = s)) := fun q hq hqj => by
                by_cases e : q = j
                · subst e
                  rw [HXx.out]
                  exact fun h => hs h.2
                · exact HN.out q hq (by omega)
              clear hs HN HXx
              go_wp2
              go_round
              case rel => exact ⟨j + 1, by omega, by go_num, HN2⟩
              case measure => simp [intOf]; omega
          · have d9 : (xo == 9) = false := by simpa using h9
            have HN2 : Hid (∀ q, (hq : q < (M1 ++ Y1).length) → q < j + 1 → ¬ ((M1 ++ Y1)[q].1 = 9 ∧ (M1 ++ Y1)[q].2.1 = s)) := fun q hq hqj => by
              by_cases e : q = j
              · subst e
                rw [HXx.out]
                exact fun h => h9 h.1
              · exact HN.out q hq (by omega)
            clear h9 HN HXx
            go_wp2
            go_round
            case rel => exact ⟨j + 1, by omega, by go_num, HN2⟩
            case measure => simp [intOf]; omega
        · have dj : decide ((j : Int) < (m : Int)) = false := decide_eq_false (by omega)
          have hln : lockS (M1 ++ Y1) s = false := lockS_no fun q hq => HN.out q hq (by rw [HL.out] at hq; omega)
          have H1 : Hid (∀ q, q < k + 1 → isS (SP.getD q []) s = false) := fun q hq => by
            by_cases e : q = k
            · rw [e, HI.out]; exact hln
            · exact H0.out q (by omega)
          clear hln HN
          go_wp2
          go_roundw
          case rel => exact ⟨k + 1, by omega, by go_num, H1, hb3⟩
          case measure => simp [intOf]; omega
    · have dk : decide ((k : Int) < (n : Int)) = false := decide_eq_false (by omega)
      obtain rfl := hC.none (fun j hj => H0.out j (by omega))
      go_wp2
      go_ret
      exact ⟨rfl, hbw⟩
end Go.Proofs.Yteklpceikddggaa
