/-
  What AddDue of the document's answer hands back.
-/
import Derived.Test.YtannkdnjbacbdaaRefs
namespace Go.Proofs.Ytannkdnjbacbdaa
open Go.ChangeShapes Go.WideShapes Go.ChangeAt Go.RowKit
attribute [local go_sem ↓] Go.wp_at_zero Go.wp_at_succ

theorem Stays.get {w w' : World} {p : Option Addr} (h : Stays w w' p) (b : Nat) (hb : b < w.heap.size) (hne : ∀ g, p = some ⟨g, 0, none⟩ → b ≠ g) : w'.heap[b]? = w.heap[b]? := h b hb hne
def refOk (B : List Tm) (n k : Int) : Bool := timeB n && !decide (k ∈ B.map (·.2)) && decide (B.length < 64)
def refAdd (B : List Tm) (n k : Int) : List Tm := if refOk B n k then insA B n k else B

theorem insA_at : ∀ (B : List Tm) (n k : Int) (j : Nat), j ≤ B.length → (∀ i (h : i < B.length), i < j → B[i].1 ≤ n) → (∀ (h : j < B.length), n < B[j].1) → insA B n k = B.take j ++ (n, k) :: B.drop j
  | [], n, k, j, hj, _, _ => by
    obtain rfl : j = 0 := by simpa using hj
    rfl
  | y :: r, n, k, 0, _, _, h2 => by
    have := h2 (by simp)
    simp only [List.getElem_cons_zero] at this
    simp only [insA]
    rw [if_neg (by omega)]
    simp
  | y :: r, n, k, j + 1, hj, h1, h2 => by
    have h0 := h1 0 (by simp) (by omega)
    simp only [List.getElem_cons_zero] at h0
    simp only [insA]
    rw [if_pos h0, insA_at r n k j (by simpa using hj) (fun i h hi => h1 (i + 1) (by simpa using h) (by omega)) (fun h => h2 (by simpa using h))]
    simp
theorem Rd.drop {w : World} {g c : Nat} {l : List Tm} (h : Rd w (some ⟨g, 0, none⟩) c l) (j : Nat) : Rd w (some ⟨g, j * 2, none⟩) (c - j) (l.drop j) := by
  refine ⟨by have := h.cap; simp; omega, .inr ⟨g, j * 2, none, rfl, fun _ => rfl, fun i v hi => ?_⟩⟩
  rcases h.at_ with ⟨h1, _⟩ | ⟨b, o, s, e, _, hc⟩
  · cases h1
  · simp only [Option.some.injEq, Addr.mk.injEq] at e
    obtain ⟨rfl, rfl, rfl⟩ := e
    rw [← fl_drop, List.getElem?_drop] at hi
    have := hc _ v hi
    rwa [Nat.zero_add] at this
theorem insA_length (B : List Tm) (n k : Int) : (insA B n k).length = B.length + 1 := by
  induction B with
  | nil => rfl
  | cons y r ih => simp only [insA]; split <;> simp [ih]

set_option maxHeartbeats 4000000 in
set_option maxRecDepth 100000 in
/-- The last statement, wherever the place is. -/
theorem addDue_any (p : Option Addr) (c : Nat) (B : List Tm) (w : World) (hr : Rd w p c B) (hl : B.length ≤ 100) (n k : Int) :
    Calls Try.prog 9 #[.slice p B.length c, .int .i64 n, .int .i64 k] w fun e w' => Told w w' e (refAdd B n k) (refOk B n k) := by
  go_enter Try.func9, Try.ntmps9
  go_wp2_with (at_builtin; refine wpList_app _ rfl _ _ rfl w.heap.size _ 0 [] 0 rfl rfl (own_shut (cur := []) (Nat.le_refl _) (heap_alloc_new _ _) (by simp) rfl (by simp) rfl) _ _ B B.length rfl rfl (hr.below ((Below.refl _ _).alloc (Nat.le_refl _) _)) (by omega) (by simp) B.length (by omega) ?_; intro p1 c1 w1 ho1 hb1' hs1)
  rw [List.nil_append] at ho1
  have hb1 : Below w.heap.size w w1 := ((Below.refl _ _).alloc (Nat.le_refl _) _).trans hb1'
  clear hb1' hs1
  go_loop [9] (fun i => ∃ j : Nat, j ≤ B.length ∧ i = .int .i64 j ∧ Hid (k ∉ (B.take j).map (·.2))) (fun i => B.length - (intOf i).toNat)
  case atStart => exact ⟨0, Nat.zero_le _, rfl, (by simp : k ∉ (B.take 0).map (·.2))⟩
  case round =>
    obtain ⟨j, hj, rfl, HK⟩ := hrel
    by_cases hlt : j < B.length
    · obtain ⟨b, o, rfl, hb, hc1, hc2⟩ := (hr.below hb1).cells j hlt
      by_cases hk : B[j].2 = k
      · have HO : Hid (refOk B n k = false) := by
          show _ = _
          unfold refOk
          have : decide (k ∈ B.map (·.2)) = true := by
            simp only [decide_eq_true_eq]
            rw [← hk]; exact List.mem_map_of_mem (List.getElem_mem hlt)
          rw [this]; simp
        rw [hk] at hc2
        clear hk
        go_wp2
        go_ret2
        have e : refAdd B n k = B := by unfold refAdd; rw [HO.out]; rfl
        rw [e, HO.out]
        exact ⟨_, _, rfl, own_rd ho1, hb1⟩
      · have hk' : (B[j].2 == k) = false := by simpa using hk
        have HK2 : Hid (k ∉ (B.take (j + 1)).map (·.2)) := by
          show ¬ _
          rw [List.take_succ_eq_append_getElem hlt, List.map_append, List.mem_append]
          rintro (h | h)
          · exact HK.out h
          · simp at h; exact hk h.symm
        clear hk HK
        go_wp2
        go_round
        case rel => exact ⟨j + 1, by omega, by go_num, HK2⟩
        case measure => simp [intOf]; omega
    · obtain rfl : j = B.length := by omega
      rw [List.take_length] at HK
      have HN : Hid (decide (k ∈ B.map (·.2)) = false) := by show _ = _; simpa using HK.out
      clear HK
      by_cases hno : timeB n = true ∧ B.length < 64
      · obtain ⟨ht, h64⟩ := hno
        have HO : Hid (refOk B n k = true) := by
          show _ = _
          unfold refOk
          rw [HN.out, ht]; simpa using h64
        have hn : 0 ≤ n ∧ n ≤ 4611686018427387904 := by unfold timeB at ht; simpa using ht
        have d1 : decide (n < 0) = false := by simp; omega
        have d2 : decide (4611686018427387904 < n) = false := by simp; omega
        have d3 : decide ((64 : Int) ≤ (B.length : Int)) = false := by simp; omega
        have hcap := own_cap ho1
        go_wp2
        go_loop [10] (fun i => ∃ j : Nat, j ≤ B.length ∧ i = .int .i64 j ∧ Hid (∀ i (h : i < B.length), i < j → B[i].1 ≤ n)) (fun i => B.length - (intOf i).toNat)
        case atStart => exact ⟨0, Nat.zero_le _, rfl, (by intro i _ h; omega : ∀ i (h : i < B.length), i < 0 → B[i].1 ≤ n)⟩
        case round =>
          obtain ⟨j, hj, rfl, HJ⟩ := hrel
          by_cases hgo : ∃ h : j < B.length, B[j].1 ≤ n
          · obtain ⟨hlt2, hle⟩ := hgo
            obtain ⟨g, rfl⟩ := own_head ho1 (by omega)
            obtain ⟨hc1, _, _, _⟩ := own_cells ho1 j hlt2
            have d4 : decide (B[j].1 ≤ n) = true := by simpa using hle
            have HJ2 : Hid (∀ i (h : i < B.length), i < j + 1 → B[i].1 ≤ n) := by
              show ∀ i (h : i < B.length), i < j + 1 → B[i].1 ≤ n
              intro i h hi
              by_cases e : i = j
              · subst e; exact hle
              · exact HJ.out i h (by omega)
            clear HJ
            go_wp2
            go_round
            case rel => exact ⟨j + 1, by omega, by go_num, HJ2⟩
            case measure => simp [intOf]; omega
          · have HI : Hid (insA B n k = B.take j ++ (n, k) :: B.drop j) := insA_at B n k j hj HJ.out (fun h => by
              rcases Int.lt_or_le n B[j].1 with h1 | h1
              · exact h1
              · exact absurd ⟨h, h1⟩ hgo)
            clear HJ
            have HL : Hid (refAdd B n k = B.take j ++ (n, k) :: B.drop j) := by show _ = _; unfold refAdd; rw [HO.out, if_pos rfl]; exact HI.out
            have hlen : (B.take j ++ (n, k) :: B.drop j).length = B.length + 1 := by simp; omega
            have hRt : Rd w1 p1 c1 (B.take j) := (own_rd ho1).take j hj
            have htl : (B.take j).length = j := by simp; omega
            have htl2 : ([] ++ B.take j).length = j := by rw [List.nil_append]; exact htl
            have htl3 : ([] ++ B.take j ++ [(n, k)]).length = j + 1 := by rw [List.length_append, htl2]; rfl
            have hdl : (B.drop j).length = B.length - j := by simp
            have oAb : Own (w1.alloc (Obj.cells #[] 57)).drew w1.heap.size 57 (some ⟨w1.heap.size, 0, none⟩) 0 [] := own_shut (cur := []) (Nat.le_refl _) (heap_alloc_new w1 _) (by simp) rfl (by simp) rfl
            have oAa : Own ((w1.alloc (Obj.cells #[] 57)).alloc (Obj.cells #[Value.int .i64 n, Value.int .i64 k] 57)).drew w1.heap.size 57 (some ⟨w1.heap.size, 0, none⟩) 0 [] := own_shut (cur := []) (Nat.le_refl _) ((Below.heap_alloc _ _ _ (by simp)).trans (heap_alloc_new w1 _)) (by simp) rfl (by simp) rfl
            have oAc : Own ((w1.alloc (Obj.cells #[Value.int .i64 n, Value.int .i64 k] 57)).alloc (Obj.cells #[] 57)).drew w1.heap.size 57 (some ⟨w1.heap.size + 1, 0, none⟩) 0 [] := own_shut (cur := []) (by omega) (heap_two w1 _ _) (by simp) rfl (by simp) rfl
            have bAb : Below w1.heap.size w1 (w1.alloc (Obj.cells #[] 57)).drew := ((Below.refl _ _).alloc (Nat.le_refl _) _).drew
            have bAa : Below w1.heap.size w1 ((w1.alloc (Obj.cells #[] 57)).alloc (Obj.cells #[Value.int .i64 n, Value.int .i64 k] 57)).drew := (((Below.refl _ _).alloc (Nat.le_refl _) _).alloc (by simp) _).drew
            have bAc : Below w1.heap.size w1 ((w1.alloc (Obj.cells #[Value.int .i64 n, Value.int .i64 k] 57)).alloc (Obj.cells #[] 57)).drew := (((Below.refl _ _).alloc (Nat.le_refl _) _).alloc (by simp) _).drew
            have vAa : ((w1.alloc (Obj.cells #[] 57)).alloc (Obj.cells #[Value.int .i64 n, Value.int .i64 k] 57)).drew.heap[w1.heap.size + 1]? = some (Obj.cells #[Value.int .i64 n, Value.int .i64 k] 57) := heap_two w1 _ _
            have vAc : ((w1.alloc (Obj.cells #[Value.int .i64 n, Value.int .i64 k] 57)).alloc (Obj.cells #[] 57)).drew.heap[w1.heap.size]? = some (Obj.cells #[Value.int .i64 n, Value.int .i64 k] 57) := (Below.heap_alloc _ _ _ (by simp)).trans (heap_alloc_new w1 _)
            have zAa : w1.heap.size + 1 < ((w1.alloc (Obj.cells #[] 57)).alloc (Obj.cells #[Value.int .i64 n, Value.int .i64 k] 57)).drew.heap.size := by simp
            have zAc : w1.heap.size < ((w1.alloc (Obj.cells #[Value.int .i64 n, Value.int .i64 k] 57)).alloc (Obj.cells #[] 57)).drew.heap.size := by simp; omega
            have hj200 : 0 + j ≤ 200 := by omega
            have hj201 : j + 1 ≤ 200 := by omega
            have hj202 : j + 1 + (B.length - j) ≤ 200 := by omega
            have hj203 : j + 1 + (B.length - j) = B.length + 1 := by omega
            have hn0 : (j : Int) ≤ (c1 : Int) := by omega
            have hjc : j ≤ c1 := by omega
            obtain ⟨q, hq, hRd⟩ : ∃ q : Option Addr, q = (if c1 = j then p1 else p1.map (·.add (j * 2))) ∧ Rd w1 q (c1 - j) (B.drop j) := by
              refine ⟨_, rfl, ?_⟩
              by_cases hcj : c1 = j
              · rw [if_pos hcj, List.drop_eq_nil_of_le (by omega), hcj, Nat.sub_self]
                cases p1 with
                | none => exact ⟨by simp, .inl ⟨rfl, rfl, rfl⟩⟩
                | some a => exact ⟨by simp, .inr ⟨a.block, a.off, a.spot, by cases a; rfl, fun h => absurd rfl h, fun j v h => by simp [fl] at h⟩⟩
              · rw [if_neg hcj]
                obtain ⟨g, cur, rfl, _⟩ := own_open ho1 (by omega)
                have := (own_rd ho1).drop j
                simpa [add_plain] using this
            have hb1z := hb1.size
            by_cases hlt2 : j < B.length
            · obtain ⟨g, rfl⟩ := own_head ho1 (by omega)
              obtain ⟨hc1, _, _, _⟩ := own_cells ho1 j hlt2
              have d4 : decide (B[j].1 ≤ n) = false := by
                simp only [decide_eq_false_iff_not]
                exact fun h => hgo ⟨hlt2, h⟩
              have hcj : ¬ (c1 = j) := by omega
              rw [if_neg hcj] at hq
              have hq' : q = some ⟨g, j * 2, none⟩ := by rw [hq]; simp [add_plain]
              subst hq'
              clear hq hgo
              go_wp2
              go_region_law (first
                | (guard_hyp ho6; with_reducible (refine step_app _ rfl _ _ rfl w1.heap.size _ _ ([] ++ B.take j ++ [(n, k)]) (j + 1) htl3 (by simp [Act.eval]) ho6 _ _ (B.drop j) (B.length - j) hdl (by simp [Act.eval]) (hRd.below hw6) hj202 hz6 (B.length + 1) hj203 ?_; intro p7 c7 w7 ho7 hb7 hs7; have hw7 := hw6.trans hb7))
                | (guard_hyp hv5; with_reducible (refine step_app _ rfl _ _ rfl w1.heap.size _ _ ([] ++ B.take j) j htl2 (by simp [Act.eval]) ho5 _ _ [(n, k)] 1 rfl (by simp [Act.eval]) (rd_block hv5) hj201 hz5 (j + 1) rfl ?_; intro p6 c6 w6 ho6 hb6 hs6; have hw6 := hw5.trans hb6; have hz6 := hw6.size))
                | (guard_hyp ho5; with_reducible (refine step_app _ rfl _ _ rfl w1.heap.size _ _ ([] ++ B.take j) j htl2 (by simp [Act.eval]) (own_below ho5 ((Below.refl _ _).alloc (Nat.le_refl _) (Obj.cells #[Value.int .i64 n, Value.int .i64 k] 57))) _ _ [(n, k)] 1 rfl (by simp [Act.eval]) (rd_block (heap_alloc_new w5 (Obj.cells #[Value.int .i64 n, Value.int .i64 k] 57))) hj201 (by simp; omega) (j + 1) rfl ?_; intro p6 c6 w6 ho6 hb6 hs6; have hw6 := (hw5.alloc hz5 (Obj.cells #[Value.int .i64 n, Value.int .i64 k] 57)).trans hb6; have hz6 := hw6.size))
                | with_reducible (refine step_app _ rfl _ _ rfl w1.heap.size _ 0 [] 0 rfl (by simp [Act.eval]) oAa _ _ (B.take j) j htl (by simp [Act.eval]) (hRt.below bAa) hj200 bAa.size j (by simp) ?_; intro p5 c5 w5 ho5 hb5 hs5; have hw5 := bAa.trans hb5; have hv5 := (hs5.get (w1.heap.size + 1) zAa (by rintro g' e; simp at e; omega)).trans vAa; have hz5 := hw5.size)
                | with_reducible (refine step_app _ rfl _ _ rfl w1.heap.size _ 0 [] 0 rfl (by simp [Act.eval]) oAc _ _ (B.take j) j htl (by simp [Act.eval]) (hRt.below bAc) hj200 bAc.size j (by simp) ?_; intro p5 c5 w5 ho5 hb5 hs5; have hw5 := bAc.trans hb5; have hv5 := (hs5.get w1.heap.size zAc (by rintro g' e; simp at e; omega)).trans vAc; have hz5 := hw5.size)
                | with_reducible (refine step_app _ rfl _ _ rfl w1.heap.size _ 0 [] 0 rfl (by simp [Act.eval]) oAb _ _ (B.take j) j htl (by simp [Act.eval]) (hRt.below bAb) hj200 bAb.size j (by simp) ?_; intro p5 c5 w5 ho5 hb5 hs5; have hw5 := bAb.trans hb5; have hz5 := hw5.size)
                | fail)
              all_goals
                go_wp2
                go_ret2
                rw [HL.out, HO.out]
                have e7 : [] ++ B.take j ++ [(n, k)] ++ B.drop j = B.take j ++ (n, k) :: B.drop j := by simp
                rw [e7] at ho7
                exact ⟨p7, c7, ret_told hlen.symm, own_rd ho7, bel_call hb1 (Nat.le_refl _) hw7⟩
            · obtain rfl : j = B.length := by omega
              clear hgo
              rcases (show p1 = none ∨ ∃ g, p1 = some ⟨g, 0, none⟩ by
                rcases ho1.2 with ⟨h1, _⟩ | ⟨g, cap, cur, h1, _⟩
                · simp only [Value.slice.injEq] at h1; exact .inl h1.1
                · simp only [Value.slice.injEq] at h1; exact .inr ⟨g, h1.1⟩) with rfl | ⟨g, rfl⟩
              · have hcj : c1 = B.length := by
                  rcases (own_rd ho1).at_ with ⟨_, h1, h2⟩ | ⟨b, o, s, h, _, _⟩
                  · rw [h1, h2]; rfl
                  · cases h
                rw [if_pos hcj] at hq
                subst hq
                subst hcj
                go_wp2
                go_region_law (first
                  | (guard_hyp ho6; with_reducible (refine step_app _ rfl _ _ rfl w1.heap.size _ _ ([] ++ B.take B.length ++ [(n, k)]) (B.length + 1) htl3 (by simp [Act.eval]) ho6 _ _ (B.drop B.length) (B.length - B.length) hdl (by simp [Act.eval]) (hRd.below hw6) hj202 hz6 (B.length + 1) hj203 ?_; intro p7 c7 w7 ho7 hb7 hs7; have hw7 := hw6.trans hb7))
                  | (guard_hyp hv5; with_reducible (refine step_app _ rfl _ _ rfl w1.heap.size _ _ ([] ++ B.take B.length) B.length htl2 (by simp [Act.eval]) ho5 _ _ [(n, k)] 1 rfl (by simp [Act.eval]) (rd_block hv5) hj201 hz5 (B.length + 1) rfl ?_; intro p6 c6 w6 ho6 hb6 hs6; have hw6 := hw5.trans hb6; have hz6 := hw6.size))
                  | (guard_hyp ho5; with_reducible (refine step_app _ rfl _ _ rfl w1.heap.size _ _ ([] ++ B.take B.length) B.length htl2 (by simp [Act.eval]) (own_below ho5 ((Below.refl _ _).alloc (Nat.le_refl _) (Obj.cells #[Value.int .i64 n, Value.int .i64 k] 57))) _ _ [(n, k)] 1 rfl (by simp [Act.eval]) (rd_block (heap_alloc_new w5 (Obj.cells #[Value.int .i64 n, Value.int .i64 k] 57))) hj201 (by simp; omega) (B.length + 1) rfl ?_; intro p6 c6 w6 ho6 hb6 hs6; have hw6 := (hw5.alloc hz5 (Obj.cells #[Value.int .i64 n, Value.int .i64 k] 57)).trans hb6; have hz6 := hw6.size))
                  | with_reducible (refine step_app _ rfl _ _ rfl w1.heap.size _ 0 [] 0 rfl (by simp [Act.eval]) oAa _ _ (B.take B.length) B.length htl (by simp [Act.eval]) (hRt.below bAa) hj200 bAa.size B.length (by simp) ?_; intro p5 c5 w5 ho5 hb5 hs5; have hw5 := bAa.trans hb5; have hv5 := (hs5.get (w1.heap.size + 1) zAa (by rintro g' e; simp at e; omega)).trans vAa; have hz5 := hw5.size)
                  | with_reducible (refine step_app _ rfl _ _ rfl w1.heap.size _ 0 [] 0 rfl (by simp [Act.eval]) oAc _ _ (B.take B.length) B.length htl (by simp [Act.eval]) (hRt.below bAc) hj200 bAc.size B.length (by simp) ?_; intro p5 c5 w5 ho5 hb5 hs5; have hw5 := bAc.trans hb5; have hv5 := (hs5.get w1.heap.size zAc (by rintro g' e; simp at e; omega)).trans vAc; have hz5 := hw5.size)
                  | with_reducible (refine step_app _ rfl _ _ rfl w1.heap.size _ 0 [] 0 rfl (by simp [Act.eval]) oAb _ _ (B.take B.length) B.length htl (by simp [Act.eval]) (hRt.below bAb) hj200 bAb.size B.length (by simp) ?_; intro p5 c5 w5 ho5 hb5 hs5; have hw5 := bAb.trans hb5; have hz5 := hw5.size)
                  | fail)
                all_goals
                  go_wp2
                  go_ret2
                  rw [HL.out, HO.out]
                  have e7 : [] ++ B.take B.length ++ [(n, k)] ++ B.drop B.length = B.take B.length ++ (n, k) :: B.drop B.length := by simp
                  rw [e7] at ho7
                  exact ⟨p7, c7, ret_told hlen.symm, own_rd ho7, bel_call hb1 (Nat.le_refl _) hw7⟩
              · by_cases hcj : c1 = B.length
                · rw [if_pos hcj] at hq
                  subst hq
                  subst hcj
                  go_wp2
                  go_region_law (first
                    | (guard_hyp ho6; with_reducible (refine step_app _ rfl _ _ rfl w1.heap.size _ _ ([] ++ B.take B.length ++ [(n, k)]) (B.length + 1) htl3 (by simp [Act.eval]) ho6 _ _ (B.drop B.length) (B.length - B.length) hdl (by simp [Act.eval]) (hRd.below hw6) hj202 hz6 (B.length + 1) hj203 ?_; intro p7 c7 w7 ho7 hb7 hs7; have hw7 := hw6.trans hb7))
                    | (guard_hyp hv5; with_reducible (refine step_app _ rfl _ _ rfl w1.heap.size _ _ ([] ++ B.take B.length) B.length htl2 (by simp [Act.eval]) ho5 _ _ [(n, k)] 1 rfl (by simp [Act.eval]) (rd_block hv5) hj201 hz5 (B.length + 1) rfl ?_; intro p6 c6 w6 ho6 hb6 hs6; have hw6 := hw5.trans hb6; have hz6 := hw6.size))
                    | (guard_hyp ho5; with_reducible (refine step_app _ rfl _ _ rfl w1.heap.size _ _ ([] ++ B.take B.length) B.length htl2 (by simp [Act.eval]) (own_below ho5 ((Below.refl _ _).alloc (Nat.le_refl _) (Obj.cells #[Value.int .i64 n, Value.int .i64 k] 57))) _ _ [(n, k)] 1 rfl (by simp [Act.eval]) (rd_block (heap_alloc_new w5 (Obj.cells #[Value.int .i64 n, Value.int .i64 k] 57))) hj201 (by simp; omega) (B.length + 1) rfl ?_; intro p6 c6 w6 ho6 hb6 hs6; have hw6 := (hw5.alloc hz5 (Obj.cells #[Value.int .i64 n, Value.int .i64 k] 57)).trans hb6; have hz6 := hw6.size))
                    | with_reducible (refine step_app _ rfl _ _ rfl w1.heap.size _ 0 [] 0 rfl (by simp [Act.eval]) oAa _ _ (B.take B.length) B.length htl (by simp [Act.eval]) (hRt.below bAa) hj200 bAa.size B.length (by simp) ?_; intro p5 c5 w5 ho5 hb5 hs5; have hw5 := bAa.trans hb5; have hv5 := (hs5.get (w1.heap.size + 1) zAa (by rintro g' e; simp at e; omega)).trans vAa; have hz5 := hw5.size)
                    | with_reducible (refine step_app _ rfl _ _ rfl w1.heap.size _ 0 [] 0 rfl (by simp [Act.eval]) oAc _ _ (B.take B.length) B.length htl (by simp [Act.eval]) (hRt.below bAc) hj200 bAc.size B.length (by simp) ?_; intro p5 c5 w5 ho5 hb5 hs5; have hw5 := bAc.trans hb5; have hv5 := (hs5.get w1.heap.size zAc (by rintro g' e; simp at e; omega)).trans vAc; have hz5 := hw5.size)
                    | with_reducible (refine step_app _ rfl _ _ rfl w1.heap.size _ 0 [] 0 rfl (by simp [Act.eval]) oAb _ _ (B.take B.length) B.length htl (by simp [Act.eval]) (hRt.below bAb) hj200 bAb.size B.length (by simp) ?_; intro p5 c5 w5 ho5 hb5 hs5; have hw5 := bAb.trans hb5; have hz5 := hw5.size)
                    | fail)
                  all_goals
                    go_wp2
                    go_ret2
                    rw [HL.out, HO.out]
                    have e7 : [] ++ B.take B.length ++ [(n, k)] ++ B.drop B.length = B.take B.length ++ (n, k) :: B.drop B.length := by simp
                    rw [e7] at ho7
                    exact ⟨p7, c7, ret_told hlen.symm, own_rd ho7, bel_call hb1 (Nat.le_refl _) hw7⟩
                · rw [if_neg hcj] at hq
                  have hq' : q = some ⟨g, B.length * 2, none⟩ := by rw [hq]; simp [add_plain]
                  subst hq'
                  clear hq
                  go_wp2
                  go_region_law (first
                    | (guard_hyp ho6; with_reducible (refine step_app _ rfl _ _ rfl w1.heap.size _ _ ([] ++ B.take B.length ++ [(n, k)]) (B.length + 1) htl3 (by simp [Act.eval]) ho6 _ _ (B.drop B.length) (B.length - B.length) hdl (by simp [Act.eval]) (hRd.below hw6) hj202 hz6 (B.length + 1) hj203 ?_; intro p7 c7 w7 ho7 hb7 hs7; have hw7 := hw6.trans hb7))
                    | (guard_hyp hv5; with_reducible (refine step_app _ rfl _ _ rfl w1.heap.size _ _ ([] ++ B.take B.length) B.length htl2 (by simp [Act.eval]) ho5 _ _ [(n, k)] 1 rfl (by simp [Act.eval]) (rd_block hv5) hj201 hz5 (B.length + 1) rfl ?_; intro p6 c6 w6 ho6 hb6 hs6; have hw6 := hw5.trans hb6; have hz6 := hw6.size))
                    | (guard_hyp ho5; with_reducible (refine step_app _ rfl _ _ rfl w1.heap.size _ _ ([] ++ B.take B.length) B.length htl2 (by simp [Act.eval]) (own_below ho5 ((Below.refl _ _).alloc (Nat.le_refl _) (Obj.cells #[Value.int .i64 n, Value.int .i64 k] 57))) _ _ [(n, k)] 1 rfl (by simp [Act.eval]) (rd_block (heap_alloc_new w5 (Obj.cells #[Value.int .i64 n, Value.int .i64 k] 57))) hj201 (by simp; omega) (B.length + 1) rfl ?_; intro p6 c6 w6 ho6 hb6 hs6; have hw6 := (hw5.alloc hz5 (Obj.cells #[Value.int .i64 n, Value.int .i64 k] 57)).trans hb6; have hz6 := hw6.size))
                    | with_reducible (refine step_app _ rfl _ _ rfl w1.heap.size _ 0 [] 0 rfl (by simp [Act.eval]) oAa _ _ (B.take B.length) B.length htl (by simp [Act.eval]) (hRt.below bAa) hj200 bAa.size B.length (by simp) ?_; intro p5 c5 w5 ho5 hb5 hs5; have hw5 := bAa.trans hb5; have hv5 := (hs5.get (w1.heap.size + 1) zAa (by rintro g' e; simp at e; omega)).trans vAa; have hz5 := hw5.size)
                    | with_reducible (refine step_app _ rfl _ _ rfl w1.heap.size _ 0 [] 0 rfl (by simp [Act.eval]) oAc _ _ (B.take B.length) B.length htl (by simp [Act.eval]) (hRt.below bAc) hj200 bAc.size B.length (by simp) ?_; intro p5 c5 w5 ho5 hb5 hs5; have hw5 := bAc.trans hb5; have hv5 := (hs5.get w1.heap.size zAc (by rintro g' e; simp at e; omega)).trans vAc; have hz5 := hw5.size)
                    | with_reducible (refine step_app _ rfl _ _ rfl w1.heap.size _ 0 [] 0 rfl (by simp [Act.eval]) oAb _ _ (B.take B.length) B.length htl (by simp [Act.eval]) (hRt.below bAb) hj200 bAb.size B.length (by simp) ?_; intro p5 c5 w5 ho5 hb5 hs5; have hw5 := bAb.trans hb5; have hz5 := hw5.size)
                    | fail)
                  all_goals
                    go_wp2
                    go_ret2
                    rw [HL.out, HO.out]
                    have e7 : [] ++ B.take B.length ++ [(n, k)] ++ B.drop B.length = B.take B.length ++ (n, k) :: B.drop B.length := by simp
                    rw [e7] at ho7
                    exact ⟨p7, c7, ret_told hlen.symm, own_rd ho7, bel_call hb1 (Nat.le_refl _) hw7⟩
      · have HO : Hid (refOk B n k = false) := by
          show _ = _
          unfold refOk
          rw [HN.out]
          cases ht : timeB n
          · rfl
          · have : ¬ B.length < 64 := fun h => hno ⟨ht, h⟩
            simpa using this
        have HE : Hid (refAdd B n k = B) := by show _ = _; unfold refAdd; rw [HO.out]; rfl
        have hcs : (n < 0) ∨ (0 ≤ n ∧ 4611686018427387904 < n) ∨ (0 ≤ n ∧ n ≤ 4611686018427387904 ∧ 64 ≤ B.length) := by
          unfold timeB at hno
          simp only [decide_eq_true_eq] at hno
          omega
        clear hno
        rcases hcs with h1 | ⟨h0, h1⟩ | ⟨h0, h1, h2⟩
        · have d1 : decide (n < 0) = true := by simpa using h1
          go_wp2
          go_ret2
          rw [HE.out, HO.out]
          exact ⟨_, _, rfl, own_rd ho1, hb1⟩
        · have d1 : decide (n < 0) = false := by simp; omega
          have d2 : decide (4611686018427387904 < n) = true := by simpa using h1
          go_wp2
          go_ret2
          rw [HE.out, HO.out]
          exact ⟨_, _, rfl, own_rd ho1, hb1⟩
        · have d1 : decide (n < 0) = false := by simp; omega
          have d2 : decide (4611686018427387904 < n) = false := by simp; omega
          have d3 : decide ((64 : Int) ≤ (B.length : Int)) = true := by simp; omega
          go_wp2
          go_ret2
          rw [HE.out, HO.out]
          exact ⟨_, _, rfl, own_rd ho1, hb1⟩
end Go.Proofs.Ytannkdnjbacbdaa
