/-
  Runs that come to the same: plain facts.
-/
import Derived.Test.YtboffjabffcddaaRunm
namespace Go.Proofs.Ytboffjabffcddaa
open Go.ChangeShapes Go.WideShapes Go.ChangeAt Go.RowKit

theorem stN_live {l : List In} {pc : Int} {mem : List Int} {R : List Rp} (hc : can l pc false = true) : stN l (pc, mem, R, false) = ((normR (nxt pc (gt l pc.toNat) mem) (repA pc (gt l pc.toNat) R).reverse).1, memA (gt l pc.toNat) mem, (normR (nxt pc (gt l pc.toNat) mem) (repA pc (gt l pc.toNat) R).reverse).2.reverse, decide ((gt l pc.toNat).1 = 0)) := by
  unfold stN stepF
  simp only [hc, if_true]
theorem stN_over {l : List In} {pc : Int} {mem : List Int} {R : List Rp} : stN l (pc, mem, R, true) = (pc, mem, R, true) := by
  have hc : can l pc true = false := by simp [can]
  unfold stN stepF
  simp [hc]
/-- what a run keeps, whether it is over or not -/
theorem vj_run {l : List In} (hP : Prg l) {x : Int} (h0 : -9223372036854775808 ≤ x) (h1 : x ≤ 9223372036854775807) : ∀ n, VJ l (rnN l (st0 x) n).1 (rnN l (st0 x) n).2.1 (rnN l (st0 x) n).2.2.1 (rnN l (st0 x) n).2.2.2
  | 0 => (ri_start hP h0 h1).vi
  | n + 1 => by
    have ih := vj_run hP h0 h1 n
    show VJ l (stN l (rnN l (st0 x) n)).1 (stN l (rnN l (st0 x) n)).2.1 (stN l (rnN l (st0 x) n)).2.2.1 (stN l (rnN l (st0 x) n)).2.2.2
    generalize rnN l (st0 x) n = s at *
    obtain ⟨pc, mem, R, ov⟩ := s
    cases ov with
    | true => rw [stN_over]; exact ih
    | false =>
      obtain ⟨⟨pcF, memF, RF, ovF, y, ok⟩, hF⟩ : ∃ y, stepF l pc mem R false = y := ⟨_, rfl⟩
      rw [stN_of hF]
      rcases vj_step hP ih hF with ⟨_, h⟩ | ⟨_, h⟩
      · exact h
      · cases h
theorem vj_can {l : List In} (hP : Prg l) {pc : Int} {mem : List Int} {R : List Rp} (h : VJ l pc mem R false) : can l pc false = true ∧ 0 ≤ pc ∧ pc.toNat < l.length := by
  obtain ⟨p, rfl, hp, _⟩ := h.at_ rfl
  refine ⟨?_, by omega, by simpa using hp⟩
  simp [can, hp, (hP.ins p hp).1]
/-- the same state at every step: the same ends -/
theorem ends_same {l m : List In} {x y : Int} {N : Nat} {v : Int} (d : Nat) (hb : ∀ k, k < d → (rnN m (st0 y) k).2.2.2 = false) (h : ∀ n, (rnN m (st0 y) (n + d)).2.1 = (rnN l (st0 x) n).2.1 ∧ (rnN m (st0 y) (n + d)).2.2.2 = (rnN l (st0 x) n).2.2.2) (hE : EndsAt l x N v) : EndsAt m y (N + d) v := by
  refine ⟨by rw [(h N).2]; exact hE.1, fun k hk => ?_, by rw [(h N).1]; exact hE.2.2⟩
  by_cases hd : k < d
  · exact hb k hd
  · obtain ⟨j, rfl⟩ : ∃ j, k = j + d := ⟨k - d, by omega⟩
    rw [(h j).2]
    exact hE.2.1 j (by omega)

/-- Marks, Locks and Unlocks as additions of memory 7 to itself -/
def gM (x : In) : In := if x.1 = 11 ∨ x.1 = 9 ∨ x.1 = 10 then (2, 7, 7, 0) else x
/-- what is made writes memories below 3 -/
def Lw (l : List In) : Prop := ∀ x ∈ l, 1 ≤ x.1 → x.1 ≤ 6 → x.2.1 ≤ 2
theorem gM_no {x : In} (h : ¬ (x.1 = 11 ∨ x.1 = 9 ∨ x.1 = 10)) : gM x = x := by unfold gM; rw [if_neg h]
theorem gM_yes {x : In} (h : x.1 = 11 ∨ x.1 = 9 ∨ x.1 = 10) : gM x = (2, 7, 7, 0) := by unfold gM; rw [if_pos h]
theorem gt_mapM (l : List In) (i : Nat) : gt (l.map gM) i = gM (gt l i) := by
  by_cases h : i < l.length
  · rw [gt_eq (by simpa using h), gt_eq h, List.getElem_map]
  · rw [gt_out (by simpa using h), gt_out (by omega)]
    rfl
theorem gM_op (x : In) : (gM x).1 ≠ 9 ∧ (gM x).1 ≠ 10 ∧ (gM x).1 ≠ 11 ∧ (∀ k : Int, k ≠ 2 → k ≠ 9 → k ≠ 10 → k ≠ 11 → ((gM x).1 = k ↔ x.1 = k)) := by
  unfold gM
  by_cases h : x.1 = 11 ∨ x.1 = 9 ∨ x.1 = 10
  · rw [if_pos h]
    exact ⟨by decide, by decide, by decide, fun k h1 h2 h3 h4 => ⟨fun e => absurd e.symm h1, fun e => by omega⟩⟩
  · rw [if_neg h]
    exact ⟨by omega, by omega, by omega, fun k _ _ _ _ => Iff.rfl⟩
theorem gM_rch (x : In) : rch (gM x) = rch x := by
  unfold gM
  by_cases h : x.1 = 11 ∨ x.1 = 9 ∨ x.1 = 10
  · rw [if_pos h, rch_op (x := x) (by omega) (by omega)]; rfl
  · rw [if_neg h]
theorem inA_mapM {l : List In} {f i : Nat} : inA (l.map gM) f i = inA l f i := by
  unfold inA
  rw [gt_mapM, gM_rch]
theorem gd_mapM {l : List In} (h : Gd l) : Gd (l.map gM) := by
  have no := fun i => gM_op (gt l i)
  refine ⟨?_, fun i hi => ?_, fun i hi => ?_, fun i j hij => ?_, fun i hi h9 => ?_, fun i hi h10 => ?_, fun f i hi h9 => ?_, fun f i hi h11 => ?_⟩
  · rw [List.all_eq_true]
    intro x hx
    obtain ⟨y, hy, rfl⟩ := List.mem_map.1 hx
    have := List.all_eq_true.1 h.may y hy
    unfold gM
    split
    · decide
    · exact this
  · rw [gt_mapM]
    intro e
    exact h.fin i (by simpa using hi) (((no i).2.2.2 0 (by decide) (by decide) (by decide) (by decide)).1 e)
  · rw [gt_mapM, gM_rch, List.length_map]
    exact h.area i (by simpa using hi)
  · rw [inA_mapM] at hij
    rw [gt_mapM, gM_rch, h.flat i j hij]
  · rw [gt_mapM] at h9; exact absurd h9 (no i).1
  · rw [gt_mapM] at h10; exact absurd h10 (no i).2.1
  · rw [gt_mapM] at h9; exact absurd h9 (no i).1
  · rw [gt_mapM] at h11; exact absurd h11 (no i).2.2.1
theorem memA_7 {x : In} {mem : List Int} (h7 : mem.getD 7 0 = 0) (hx : 1 ≤ x.1 → x.1 ≤ 6 → x.2.1 ≤ 2) : (memA x mem).getD 7 0 = 0 := by
  have key : ∀ y : Int, 1 ≤ x.1 → x.1 ≤ 6 → (mem.set x.2.1.toNat y).getD 7 0 = 0 := fun y h1 h2 => by
    have := hx h1 h2
    rw [List.getD_eq_getElem?_getD, List.getElem?_set_ne (by omega), ← List.getD_eq_getElem?_getD]
    exact h7
  unfold memA
  split
  · exact key _ (by omega) (by omega)
  split
  · exact key _ (by omega) (by omega)
  split
  · exact key _ (by omega) (by omega)
  split
  · exact key _ (by omega) (by omega)
  split
  · exact key _ (by omega) (by omega)
  split
  · exact key _ (by omega) (by omega)
  · exact h7
theorem memA_gM {x : In} {mem : List Int} (h7 : mem.getD 7 0 = 0) (h : x.1 = 11 ∨ x.1 = 9 ∨ x.1 = 10) : memA (2, 7, 7, 0) mem = memA x mem := by
  have e1 : memA x mem = mem := by
    unfold memA
    rw [if_neg (by omega), if_neg (by omega), if_neg (by omega), if_neg (by omega), if_neg (by omega), if_neg (by omega)]
  rw [e1]
  show mem.set 7 (wrap64 (mem.getD 7 0 + mem.getD 7 0)) = mem
  rw [h7]
  have e2 : wrap64 (0 + 0) = 0 := by kernel_rfl
  rw [e2]
  apply List.ext_getElem (by simp)
  intro i h1 h2
  rw [List.getElem_set]
  split
  · rename_i e
    subst e
    rw [List.getD_eq_getElem?_getD, List.getElem?_eq_getElem h2] at h7
    exact h7.symm
  · rfl
theorem stN_mapM {l : List In} (hP : Prg l) {pc : Int} {mem : List Int} {R : List Rp} {ov : Bool} (h : VJ l pc mem R ov) (h7 : mem.getD 7 0 = 0) : stN (l.map gM) (pc, mem, R, ov) = stN l (pc, mem, R, ov) := by
  cases ov with
  | true => rw [stN_over, stN_over]
  | false =>
    obtain ⟨hc, hp0, hp⟩ := vj_can hP h
    have hmy := (hP.ins _ hp).1
    have hc' : can (l.map gM) pc false = true := by
      unfold can at hc ⊢
      simp only [Bool.and_eq_true, decide_eq_true_eq] at hc ⊢
      rw [gt_mapM, List.length_map]
      refine ⟨hc.1, ?_⟩
      unfold gM
      split
      · decide
      · exact hmy
    rw [stN_live hc, stN_live hc', gt_mapM]
    by_cases hx : (gt l pc.toNat).1 = 11 ∨ (gt l pc.toNat).1 = 9 ∨ (gt l pc.toNat).1 = 10
    · have n1 : nxt pc (gt l pc.toNat) mem = pc + 1 := by
        unfold nxt
        rw [if_neg (by omega), if_neg (by omega)]
      have n2 : nxt pc (2, 7, 7, 0) mem = pc + 1 := rfl
      have r1 : repA pc (gt l pc.toNat) R = R := by unfold repA; rw [if_neg (by omega)]
      have r2 : repA pc (2, 7, 7, 0) R = R := rfl
      have d1 : decide ((gt l pc.toNat).1 = 0) = false := decide_eq_false (by omega)
      rw [gM_yes hx, n1, n2, r1, r2, d1, memA_gM h7 hx]
      rfl
    · rw [gM_no hx]
theorem run_mapM {l : List In} (hP : Prg l) (hL : Lw l) {x : Int} (h0 : -9223372036854775808 ≤ x) (h1 : x ≤ 9223372036854775807) : ∀ n, rnN (l.map gM) (st0 x) n = rnN l (st0 x) n ∧ (rnN l (st0 x) n).2.1.getD 7 0 = 0
  | 0 => ⟨rfl, rfl⟩
  | n + 1 => by
    obtain ⟨ih, ih7⟩ := run_mapM hP hL h0 h1 n
    have hv := vj_run hP h0 h1 n
    show stN (l.map gM) (rnN (l.map gM) (st0 x) n) = stN l (rnN l (st0 x) n) ∧ (stN l (rnN l (st0 x) n)).2.1.getD 7 0 = 0
    rw [ih]
    generalize rnN l (st0 x) n = s at *
    obtain ⟨pc, mem, R, ov⟩ := s
    simp only at ih7 hv
    refine ⟨stN_mapM hP hv ih7, ?_⟩
    cases ov with
    | true => rw [stN_over]; exact ih7
    | false =>
      obtain ⟨hc, hp0, hp⟩ := vj_can hP hv
      rw [stN_live hc]
      refine memA_7 ih7 (hL _ ?_)
      rw [gt_eq hp]
      exact List.getElem_mem hp
theorem ends_mapM {l : List In} (hP : Prg l) (hL : Lw l) {x : Int} (h0 : -9223372036854775808 ≤ x) (h1 : x ≤ 9223372036854775807) {N : Nat} {v : Int} (hE : EndsAt l x N v) : EndsAt (l.map gM) x N v :=
  ends_same 0 (fun k hk => by omega) (fun n => by rw [Nat.add_zero, (run_mapM hP hL h0 h1 n).1]; exact ⟨rfl, rfl⟩) hE

/-- one further -/
def upR (R : List Rp) : List Rp := R.map fun r => (r.1 + 1, r.2.1 + 1, r.2.2)
theorem normR_up (pc : Int) : ∀ R : List Rp, normR (pc + 1) (upR R) = ((normR pc R).1 + 1, upR (normR pc R).2)
  | [] => rfl
  | r :: R => by
    have ih := normR_up pc R
    show normR (pc + 1) ((r.1 + 1, r.2.1 + 1, r.2.2) :: upR R) = _
    unfold normR
    by_cases c1 : r.2.1 < pc
    · rw [if_pos c1, if_pos (show r.2.1 + 1 < pc + 1 by omega)]
      by_cases c2 : 0 < r.2.2
      · rw [if_pos c2, if_pos c2]; rfl
      · rw [if_neg c2, if_neg c2]; exact ih
    · rw [if_neg c1, if_neg (show ¬ r.2.1 + 1 < pc + 1 by omega)]; rfl
theorem upR_rev (R : List Rp) : upR R.reverse = (upR R).reverse := by unfold upR; rw [List.map_reverse]
theorem stN_up {l : List In} (hP : Prg l) {s : In} {pc : Int} {mem : List Int} {R : List Rp} {ov : Bool} (h : VJ l pc mem R ov) : stN (s :: l) (pc + 1, mem, upR R, ov) = ((stN l (pc, mem, R, ov)).1 + 1, (stN l (pc, mem, R, ov)).2.1, upR (stN l (pc, mem, R, ov)).2.2.1, (stN l (pc, mem, R, ov)).2.2.2) := by
  cases ov with
  | true => rw [stN_over, stN_over]
  | false =>
    obtain ⟨hc, hp0, hp⟩ := vj_can hP h
    have hmy := (hP.ins _ hp).1
    have et : (pc + 1).toNat = pc.toNat + 1 := by omega
    have eg : gt (s :: l) (pc + 1).toNat = gt l pc.toNat := by rw [et, gt_cons]
    have hc' : can (s :: l) (pc + 1) false = true := by
      unfold can
      rw [eg, hmy]
      simp only [List.length_cons, Bool.and_true, Bool.not_false, Bool.true_and, Bool.and_eq_true, decide_eq_true_eq]
      omega
    rw [stN_live hc, stN_live hc', eg]
    generalize gt l pc.toNat = x
    have n1 : nxt (pc + 1) x mem = nxt pc x mem + 1 := by unfold nxt; split <;> (try split) <;> omega
    have r1 : repA (pc + 1) x (upR R) = upR (repA pc x R) := by
      unfold repA
      split
      · simp only [upR, List.map_append, List.map_cons, List.map_nil]
        congr 3
        simp only [Prod.mk.injEq, and_true]
        omega
      · rfl
    rw [n1, r1, ← upR_rev, normR_up, ← upR_rev]
theorem run_up {l : List In} (hP : Prg l) {a x : Int} (h0 : -9223372036854775808 ≤ x) (h1 : x ≤ 9223372036854775807) (hx : mayB (1, 0, 0, x) = true) : ∀ n, rnN ((1, 0, 0, x) :: l) (st0 a) (n + 1) = ((rnN l (st0 x) n).1 + 1, (rnN l (st0 x) n).2.1, upR (rnN l (st0 x) n).2.2.1, (rnN l (st0 x) n).2.2.2)
  | 0 => by
    show stN ((1, 0, 0, x) :: l) (0, [a, 0, 0, 0, 0, 0, 0, 0], [], false) = _
    have hc : can ((1, 0, 0, x) :: l) 0 false = true := by simp [can, gt, hx]
    rw [stN_live hc]
    rfl
  | n + 1 => by
    have ih := run_up hP h0 h1 hx (a := a) n
    have hv := vj_run hP h0 h1 n
    show stN ((1, 0, 0, x) :: l) (rnN ((1, 0, 0, x) :: l) (st0 a) (n + 1)) = ((stN l (rnN l (st0 x) n)).1 + 1, (stN l (rnN l (st0 x) n)).2.1, upR (stN l (rnN l (st0 x) n)).2.2.1, (stN l (rnN l (st0 x) n)).2.2.2)
    rw [ih]
    generalize rnN l (st0 x) n = s at *
    obtain ⟨pc, mem, R, ov⟩ := s
    exact stN_up hP hv
theorem ends_up {l : List In} (hP : Prg l) {a x : Int} (h0 : -9223372036854775808 ≤ x) (h1 : x ≤ 9223372036854775807) (hx : mayB (1, 0, 0, x) = true) {N : Nat} {v : Int} (hE : EndsAt l x N v) : EndsAt ((1, 0, 0, x) :: l) a (N + 1) v :=
  ends_same 1 (fun k hk => by obtain rfl : k = 0 := by omega
                              rfl) (fun n => by rw [run_up hP h0 h1 hx n]; exact ⟨rfl, rfl⟩) hE

/-- what a row of plain ones leaves in memory -/
def memF : List In → List Int → List Int
  | [], mem => mem
  | x :: r, mem => memF r (memA x mem)
theorem memF_app : ∀ (a b : List In) (mem : List Int), memF (a ++ b) mem = memF b (memF a mem)
  | [], _, _ => rfl
  | x :: a, b, mem => memF_app a b (memA x mem)
theorem memF_snoc (l : List In) {i : Nat} (h : i < l.length) (mem : List Int) : memF (l.take (i + 1)) mem = memA (gt l i) (memF (l.take i) mem) := by
  rw [List.take_succ_eq_append_getElem h, memF_app, gt_eq h]
  rfl
/-- plain ones alone -/
def Pn (l : List In) : Prop := ∀ x ∈ l, plB x = true
theorem Pn.gd0 : ∀ {l : List In}, Pn l → Gd0 l
  | [], _ => gd0_nil
  | x :: l, h => gd0_app (gd0_plain (h x (by simp))) (Pn.gd0 fun y hy => h y (by simp [hy]))
theorem Pn.app {a b : List In} (h : Pn a) (h' : Pn b) : Pn (a ++ b) := fun x hx => by
  rcases List.mem_append.1 hx with h1 | h1
  · exact h x h1
  · exact h' x h1
theorem Pn.at_ {l : List In} (h : Pn l) {i : Nat} (hi : i < l.length) : plB (gt l i) = true := by
  rw [gt_eq hi]
  exact h _ (List.getElem_mem hi)
theorem can_of {l : List In} {p : Nat} (hp : p < l.length) (hm : mayB (gt l p) = true) : can l (p : Int) false = true := by simp [can, hp, hm]
/-- a plain one, nothing to be repeated -/
theorem stN_plain {l : List In} {p : Nat} {mem : List Int} (hp : p < l.length) (hx : plB (gt l p) = true) : stN l ((p : Int), mem, [], false) = (((p + 1 : Nat) : Int), memA (gt l p) mem, [], false) := by
  have ho := pl_op hx
  rw [stN_live (can_of hp (pl_may hx)), Int.toNat_natCast]
  have n1 : nxt (p : Int) (gt l p) mem = ((p + 1 : Nat) : Int) := by unfold nxt; rw [if_neg (by omega), if_neg (by omega)]; omega
  have r1 : repA (p : Int) (gt l p) [] = [] := by unfold repA; rw [if_neg (by omega)]
  rw [n1, r1, decide_eq_false (by omega)]
  rfl
/-- a plain one within a body -/
theorem stN_body {l : List In} {p : Nat} {mem : List Int} {f la c : Int} (hp : p < l.length) (hx : plB (gt l p) = true) : stN l ((p : Int), mem, [(f, la, c)], false) = (if la < (p : Int) + 1 then (if 0 < c then (f, memA (gt l p) mem, [(f, la, c - 1)], false) else ((p : Int) + 1, memA (gt l p) mem, [], false)) else ((p : Int) + 1, memA (gt l p) mem, [(f, la, c)], false)) := by
  have ho := pl_op hx
  rw [stN_live (can_of hp (pl_may hx)), Int.toNat_natCast]
  have n1 : nxt (p : Int) (gt l p) mem = (p : Int) + 1 := by unfold nxt; rw [if_neg (by omega), if_neg (by omega)]
  have r1 : repA (p : Int) (gt l p) [(f, la, c)] = [(f, la, c)] := by unfold repA; rw [if_neg (by omega)]
  rw [n1, r1, decide_eq_false (by omega)]
  show ((normR ((p : Int) + 1) [(f, la, c)]).1, memA (gt l p) mem, (normR ((p : Int) + 1) [(f, la, c)]).2.reverse, false) = _
  simp only [normR]
  split
  · split <;> rfl
  · rfl
theorem stN_end {l : List In} {p : Nat} {mem : List Int} (hp : p < l.length) (hx : gt l p = E0) : stN l ((p : Int), mem, [], false) = ((p : Int), mem, [], true) := by
  rw [stN_live (can_of hp (by rw [hx]; rfl)), Int.toNat_natCast, hx]
  rfl
/-- a straight program -/
theorem run_straight {b : List In} (hb : Pn b) (x : Int) : ∀ i, i ≤ b.length → rnN (b ++ [E0]) (st0 x) i = ((i : Int), memF (b.take i) [x, 0, 0, 0, 0, 0, 0, 0], [], false)
  | 0, _ => rfl
  | i + 1, hi => by
    have ih := run_straight hb x i (by omega)
    show stN _ (rnN _ _ i) = _
    have hg : gt (b ++ [E0]) i = gt b i := gt_left (by omega)
    rw [ih, stN_plain (by simp; omega) (by rw [hg]; exact hb.at_ (by omega)), hg, memF_snoc b (by omega)]
theorem ends_straight {b : List In} (hb : Pn b) (x : Int) : EndsAt (b ++ [E0]) x (b.length + 1) ((memF b [x, 0, 0, 0, 0, 0, 0, 0]).getD 0 0) := by
  have hl := run_straight hb x b.length (Nat.le_refl _)
  rw [List.take_length] at hl
  have he : rnN (b ++ [E0]) (st0 x) (b.length + 1) = ((b.length : Int), memF b [x, 0, 0, 0, 0, 0, 0, 0], [], true) := by
    show stN _ (rnN _ _ b.length) = _
    rw [hl, stN_end (by simp) (gt_end b)]
  refine ⟨by rw [he], fun k hk => by rw [run_straight hb x k (by omega)], by rw [he]⟩
/-- k times -/
def tm (b : List In) : Nat → List In
  | 0 => []
  | k + 1 => tm b k ++ b
theorem tm_len (b : List In) : ∀ k, (tm b k).length = k * b.length
  | 0 => by simp [tm]
  | k + 1 => by rw [tm, List.length_append, tm_len b k, Nat.add_mul]; omega
theorem tm_pn {b : List In} (h : Pn b) : ∀ k, Pn (tm b k)
  | 0 => fun x hx => by simp [tm] at hx
  | k + 1 => (tm_pn h k).app h
/-- a loop: behind its Rep, j rounds and i of the next -/
theorem run_loop {b : List In} (hb : Pn b) {k : Nat} (hk : 1 ≤ k) (hk3 : k ≤ 3) (h1 : 1 ≤ b.length) (h6 : b.length ≤ 6) (x : Int) : ∀ j i, j < k → i < b.length → rnN ((8, 0, (b.length : Int), (k : Int)) :: b ++ [E0]) (st0 x) (j * b.length + i + 1) = (((1 + i : Nat) : Int), memF (tm b j ++ b.take i) [x, 0, 0, 0, 0, 0, 0, 0], [(1, (b.length : Int), (k : Int) - 1 - (j : Int))], false) := by
  have hstep : ∀ (j : Nat) (i : Nat), i < b.length → ∀ mem : List Int, stN ((8, 0, (b.length : Int), (k : Int)) :: b ++ [E0]) (((1 + i : Nat) : Int), mem, [(1, (b.length : Int), (k : Int) - 1 - (j : Int))], false) = (if (b.length : Int) < ((1 + i : Nat) : Int) + 1 then (if 0 < (k : Int) - 1 - (j : Int) then (1, memA (gt b i) mem, [(1, (b.length : Int), (k : Int) - 1 - (j : Int) - 1)], false) else (((1 + i : Nat) : Int) + 1, memA (gt b i) mem, [], false)) else (((1 + i : Nat) : Int) + 1, memA (gt b i) mem, [(1, (b.length : Int), (k : Int) - 1 - (j : Int))], false)) := by
    intro j i hi mem
    have hg : gt ((8, 0, (b.length : Int), (k : Int)) :: b ++ [E0]) (1 + i) = gt b i := by
      rw [show 1 + i = i + 1 by omega, List.cons_append, gt_cons]
      exact gt_left hi
    rw [stN_body (by simp; omega) (by rw [hg]; exact hb.at_ hi), hg]
  intro j
  induction j with
  | zero =>
    intro i
    induction i with
    | zero =>
      intro _ _
      rw [show 0 * b.length + 0 + 1 = 0 + 1 by omega]
      show stN _ (0, [x, 0, 0, 0, 0, 0, 0, 0], [], false) = _
      have hm : mayB (8, 0, (b.length : Int), (k : Int)) = true := may_of (by unfold mayP; simp; omega)
      have hc : can ((8, 0, (b.length : Int), (k : Int)) :: b ++ [E0]) 0 false = true := by
        have e : gt ((8, 0, (b.length : Int), (k : Int)) :: b ++ [E0]) 0 = (8, 0, (b.length : Int), (k : Int)) := by rw [List.cons_append, gt_zero]
        unfold can
        rw [show (0 : Int).toNat = 0 from rfl, e, hm]
        simp
        omega
      rw [stN_live hc, show (0 : Int).toNat = 0 from rfl, List.cons_append, gt_zero]
      show ((normR 1 [(1, 0 + (b.length : Int), (k : Int) - 1)]).1, _, (normR 1 [(1, 0 + (b.length : Int), (k : Int) - 1)]).2.reverse, false) = _
      unfold normR
      rw [if_neg (by simp only; omega)]
      simp [tm, memF, memA]
    | succ i ih =>
      intro hj hi
      have h := ih hj (by omega)
      rw [show 0 * b.length + (i + 1) + 1 = (0 * b.length + i + 1) + 1 by omega]
      show stN _ (rnN _ _ (0 * b.length + i + 1)) = _
      rw [h, hstep 0 i (by omega), if_neg (by omega), show 1 + (i + 1) = (1 + i) + 1 by omega]
      simp only [tm, List.nil_append]
      rw [memF_snoc b (by omega)]
      rfl
  | succ j ihj =>
    intro i
    induction i with
    | zero =>
      intro hj _
      have h := ihj (b.length - 1) (by omega) (by omega)
      rw [show (j + 1) * b.length + 0 + 1 = (j * b.length + (b.length - 1) + 1) + 1 by rw [Nat.add_mul]; omega]
      show stN _ (rnN _ _ (j * b.length + (b.length - 1) + 1)) = _
      rw [h, hstep j (b.length - 1) (by omega), if_pos (by omega), if_pos (by omega)]
      have hm : memA (gt b (b.length - 1)) (memF (tm b j ++ b.take (b.length - 1)) [x, 0, 0, 0, 0, 0, 0, 0]) = memF (tm b (j + 1)) [x, 0, 0, 0, 0, 0, 0, 0] := by
        rw [memF_app, ← memF_snoc b (by omega), show b.length - 1 + 1 = b.length by omega, List.take_length, ← memF_app]
        rfl
      rw [hm, List.take_zero, List.append_nil, show (k : Int) - 1 - (j : Int) - 1 = (k : Int) - 1 - ((j + 1 : Nat) : Int) by omega]
      rfl
    | succ i ih =>
      intro hj hi
      have h := ih hj (by omega)
      rw [show (j + 1) * b.length + (i + 1) + 1 = ((j + 1) * b.length + i + 1) + 1 by omega]
      show stN _ (rnN _ _ ((j + 1) * b.length + i + 1)) = _
      rw [h, hstep (j + 1) i (by omega), if_neg (by omega), show 1 + (i + 1) = (1 + i) + 1 by omega]
      rw [memF_app, memF_app, memF_snoc b (by omega)]
      rfl
theorem ends_loop {b : List In} (hb : Pn b) {k : Nat} (hk : 1 ≤ k) (hk3 : k ≤ 3) (h1 : 1 ≤ b.length) (h6 : b.length ≤ 6) (x : Int) : EndsAt ((8, 0, (b.length : Int), (k : Int)) :: b ++ [E0]) x (k * b.length + 2) ((memF (tm b k) [x, 0, 0, 0, 0, 0, 0, 0]).getD 0 0) := by
  have hrun := run_loop hb hk hk3 h1 h6 x
  obtain ⟨j, rfl⟩ : ∃ j, k = j + 1 := ⟨k - 1, by omega⟩
  have h := hrun j (b.length - 1) (by omega) (by omega)
  have hlast : rnN ((8, 0, (b.length : Int), ((j + 1 : Nat) : Int)) :: b ++ [E0]) (st0 x) ((j + 1) * b.length + 1) = (((b.length + 1 : Nat) : Int), memF (tm b (j + 1)) [x, 0, 0, 0, 0, 0, 0, 0], [], false) := by
    rw [show (j + 1) * b.length + 1 = (j * b.length + (b.length - 1) + 1) + 1 by rw [Nat.add_mul]; omega]
    show stN _ (rnN _ _ (j * b.length + (b.length - 1) + 1)) = _
    have hg : gt ((8, 0, (b.length : Int), ((j + 1 : Nat) : Int)) :: b ++ [E0]) (1 + (b.length - 1)) = gt b (b.length - 1) := by
      rw [show 1 + (b.length - 1) = (b.length - 1) + 1 by omega, List.cons_append, gt_cons]
      exact gt_left (by omega)
    rw [h, stN_body (by simp; omega) (by rw [hg]; exact hb.at_ (by omega)), if_pos (by omega), if_neg (by omega), hg]
    have hm : memA (gt b (b.length - 1)) (memF (tm b j ++ b.take (b.length - 1)) [x, 0, 0, 0, 0, 0, 0, 0]) = memF (tm b (j + 1)) [x, 0, 0, 0, 0, 0, 0, 0] := by
      rw [memF_app, ← memF_snoc b (by omega), show b.length - 1 + 1 = b.length by omega, List.take_length, ← memF_app]
      rfl
    rw [hm]
    congr 1
    omega
  have hend : rnN ((8, 0, (b.length : Int), ((j + 1 : Nat) : Int)) :: b ++ [E0]) (st0 x) ((j + 1) * b.length + 2) = (((b.length + 1 : Nat) : Int), memF (tm b (j + 1)) [x, 0, 0, 0, 0, 0, 0, 0], [], true) := by
    show stN _ (rnN _ _ ((j + 1) * b.length + 1)) = _
    rw [hlast, stN_end (by simp) (by rw [List.cons_append, gt_cons]; exact gt_end b)]
  refine ⟨by rw [hend], fun n hn => ?_, by rw [hend]⟩
  by_cases e0 : n = 0
  · subst e0; rfl
  by_cases e1 : n = (j + 1) * b.length + 1
  · subst e1; rw [hlast]
  · have hlt : n - 1 < (j + 1) * b.length := by omega
    have hdiv : (n - 1) / b.length < j + 1 := Nat.div_lt_of_lt_mul (by rw [Nat.mul_comm]; exact hlt)
    have hmod : (n - 1) % b.length < b.length := Nat.mod_lt _ (by omega)
    have := hrun ((n - 1) / b.length) ((n - 1) % b.length) hdiv hmod
    rw [Nat.mul_comm, Nat.div_add_mod, show n - 1 + 1 = n by omega] at this
    rw [this]
end Go.Proofs.Ytboffjabffcddaa
