/-
  The pairs of a program.
-/
import Derived.Test.YteikdocpncdheaaUnlock
import Derived.Test.YteikdocpncdheaaMarks
namespace Go.Proofs.Yteikdocpncdheaa
open Go.ChangeShapes Go.WideShapes Go.ChangeAt Go.RowKit
attribute [local go_sem ↓] Go.wp_at_zero Go.wp_at_succ

theorem run_step {l : List In} {k : Nat} {o : List Nat} (h : runO l k = some o) : runO l (k + 1) = stepO l k o := by
  show (runO l k).bind _ = _
  rw [h]
  rfl
theorem okP_no {l : List In} {k : Nat} (hk : k ≤ l.length) (h : runO l k = none) : okP l = false := by
  unfold okP
  rw [runO_none h _ hk]
  rfl
theorem site_eq {l : List In} {k a : Nat} : siteL l k = siteL l a ↔ (gt l k).2.1 = (gt l a).2.1 ∧ scL l k = scL l a := by simp [siteL]
theorem out_other {l : List In} {k : Nat} (h : (gt l k).1 ≠ 10) : outO l (k + 1) = outO l k := by
  show (if (gt l k).1 = 10 then _ else _) = _
  rw [if_neg h]
theorem out_un {l : List In} {k j : Nat} {o : List Nat} (h : (gt l k).1 = 10) (hr : runO l k = some o) (hl : o.getLast? = some j) : outO l (k + 1) = (outO l k).set j k := by
  show (if (gt l k).1 = 10 then (match (runO l k).bind (·.getLast?) with | some k' => (outO l k).set k' (k : Int) | none => outO l k) else outO l k) = _
  rw [if_pos h, hr]
  simp only [Option.bind_some, hl]
theorem step_lock {l : List In} {k : Nat} {o : List Nat} (h : (gt l k).1 = 9) : stepO l k o = if (o.any (sameA l k) || decide (2 ≤ o.length)) = true then none else some (o ++ [k]) := by
  unfold stepO
  rw [if_pos h]
  rfl
theorem step_un {l : List In} {k j : Nat} {o1 : List Nat} (h : (gt l k).1 = 10) : stepO l k (o1 ++ [j]) = if siteL l j = siteL l k then some o1 else none := by
  unfold stepO
  rw [if_neg (by omega), if_pos h]
  simp only [List.getLast?_concat, List.dropLast_concat]
  by_cases hs : siteL l j = siteL l k
  · rw [if_pos hs, if_pos (site_eq.1 hs)]
  · rw [if_neg hs, if_neg (fun e => hs (site_eq.2 e))]
theorem step_un0 {l : List In} {k : Nat} (h : (gt l k).1 = 10) : stepO l k [] = none := by
  unfold stepO
  rw [if_neg (by omega), if_pos h]
  rfl
theorem step_other {l : List In} {k : Nat} {o : List Nat} (h : (gt l k).1 ≠ 9) (h' : (gt l k).1 ≠ 10) : stepO l k o = some o := by
  unfold stepO
  rw [if_neg h, if_neg h']

theorem own_under {w w' : World} {B base : Nat} {p : Option Addr} {c : Nat} {l : List Int} (h : Own eI w base 3 p c l) (hb : Below B w w') (hg : ∀ g, p = some ⟨g, 0, none⟩ → g < B) : Own eI w' base 3 p c l := by
  refine ⟨h.1, ?_⟩
  rcases h.2 with hn | ⟨g, cap, cur, h1, h2, h3, h4⟩
  · exact .inl hn
  · have h1' := h1
    simp only [Value.slice.injEq] at h1'
    exact .inr ⟨g, cap, cur, h1, h2, (hb.block g (hg g h1'.1)).trans h3, h4⟩
theorem own_setI {w : World} {base : Nat} {p : Option Addr} {c : Nat} {l : List Int} (h : Own eI w base 3 p c l) (k : Nat) (hk : k < l.length) :
    ∃ b, p = some ⟨b, 0, none⟩ ∧ base ≤ b ∧ b < w.heap.size ∧ w.frozen? ⟨b, k, none⟩ = false ∧ (∃ u, w.cell? ⟨b, k, none⟩ = some u) ∧ ∀ v, Own eI (w.setCell ⟨b, k, none⟩ (.int .i64 v)) base 3 p c (l.set k v) := by
  have hc := (own_rd h).num k hk
  rcases h.2 with ⟨h1, h2⟩ | ⟨g, cap, cur, h1, h2, h3, h4, h5, h6, h7⟩
  · simp only [Value.slice.injEq] at h1
    omega
  · simp only [Value.slice.injEq, true_and] at h1
    obtain ⟨rfl, rfl⟩ := h1
    obtain ⟨b', o', e', _, hcell⟩ := hc
    cases e'
    refine ⟨g, rfl, h2, (Array.getElem?_eq_some_iff.1 h3).1, by simp [World.frozen?, h3], ⟨_, by rw [Nat.zero_add] at hcell; exact hcell⟩, fun v => ?_⟩
    refine ⟨fl_length eI _, .inr ⟨g, c, cur.setIfInBounds k (.int .i64 v), by simp, h2, ?_, by simpa using h4, h5, by simpa using h6, ?_⟩⟩
    · rw [setCell_eq_setRow w g k _ _ _ _ h3]
      exact setRow_heap w g _ _ _ _ h3
    · have e1 : (fl eI (l.set k v)) = (fl eI l).set k (.int .i64 v) := by rw [flI, flI, List.map_set]
      rw [e1, ← h7, Array.toList_setIfInBounds, List.length_set, List.take_set]
theorem Hx.low {w : World} {base hb mb : Nat} {o : List Nat} {m : List En} (h : Hx w base hb mb o m) {a : Addr} (ha : a.block < base) (u : Value) : Hx (w.setCell a u) base hb mb o m := by
  obtain ⟨⟨q, d, h1, h2⟩, h3, h4, h5⟩ := h
  refine ⟨⟨q, d, (heap_setCell_other _ _ _ _ (by omega)).trans h1, ?_⟩, h3.of_block (heap_setCell_other _ _ _ _ (by omega)), h4, h5⟩
  refine ownsRow_setCell_other h2 ?_ u
  intro e
  have := World.ownsRow.lt h2 _ e
  omega
theorem last_cases (o : List Nat) : o = [] ∨ ∃ o1 k, o = o1 ++ [k] := by
  rcases List.eq_nil_or_concat o with h | ⟨a, b, h⟩
  · exact .inl h
  · exact .inr ⟨a, b, by simpa using h⟩
theorem made_zero (n : Nat) : (madeCells (Value.int .i64 0).cells (n * 1)).toList = fl eI (List.replicate n 0) := by
  rw [flI]
  apply List.ext_getElem (by simp [size_madeCells])
  intro i h1 h2
  simp [madeCells, Value.cells, Nat.mod_one]

/-- what Pairs tells -/
def PairsTold (l : List In) (n base : Nat) (e : Ending) (w' : World) : Prop := ∃ q d m k, e = .returned (.tuple #[.slice q m d, .bool k]) ∧ okP l = k ∧ (k = true → m = n ∧ Own eI w' base 3 q d (pairL l))
set_option maxRecDepth 100000 in
set_option maxHeartbeats 8000000 in
theorem pairs_any (p : Option Addr) (c : Nat) (l : List In) (w : World) (hr : Rd eIn w p c l) (n : Nat) (hN : l.length = n) (hn : n ≤ 24) (hal : l.all mayB = true) (h1 : 1 ≤ n) :
    Calls Try.prog 25 #[.slice p n c] w fun e w' => PairsTold l n w.heap.size e w' ∧ Below w.heap.size w w' := by
  obtain ⟨i0, hi0, hz0, hz1, hz2⟩ := info_parts Try.info3
  have HN : Hid (l.length = n) := hN
  obtain ⟨bl, ol, hpe, hbl, _⟩ := hr.pos (by omega)
  have hpb0 : ∀ b o, p = some ⟨b, o, none⟩ → l ≠ [] → b < w.heap.size := by rintro b o rfl _; cases hpe; exact hbl
  clear hN hpe
  have hmm := run_makeMap (P := Try.prog) 72
  go_enter Try.func25, Try.ntmps25
  go_wp2_with (first
    | (at_make; refine wpList_make_full _ rfl _ _ 61 rfl w.heap.size 3 i0 _ 1 Try.underlying61 hi0 hz0 hz1 .i64 .i64 _ _ n rfl rfl rfl rfl (by rw [hz2]; omega) (by unfold maxLen; omega) (Nat.le_refl _) ?_; intro w0 hown0 hgrow0))
  have hB0 : Below w.heap.size w w0 := (Below.refl _ _).grown hgrow0 (Nat.le_refl _) (fun k hk => by cases hk)
  have hz00 := hB0.size
  have hownU : Own eI w0 w.heap.size 3 (some ⟨w.heap.size, 0, none⟩) n (List.replicate n 0) := by
    unfold Own
    rw [List.length_replicate, ← made_zero]
    exact hown0
  have hUlt := (World.ownsRow.lt hown0 w.heap.size rfl).2
  have hX0 : Hx ((w0.alloc (Obj.map #[] 0)).alloc (Obj.cells #[Value.slice none 0 0, Value.map (some w0.heap.size)] 74)) w0.heap.size (w0.heap.size + 1) w0.heap.size [] (ents l []) := by
    refine ⟨⟨none, 0, heap_alloc2_new _ _ _, own_nil _ _ _⟩, ⟨#[], 0, heap_alloc2_old _ _ _, rfl, by simp [ents]⟩, by omega, Nat.le_refl _⟩
  have hB1 : Below w0.heap.size w0 ((w0.alloc (Obj.map #[] 0)).alloc (Obj.cells #[Value.slice none 0 0, Value.map (some w0.heap.size)] 74)) := (by repeat (first | exact Below.refl _ _ | refine Below.alloc ?_ (by simp <;> omega) _ | refine Below.setCell ?_ (by simp <;> omega) _))
  have hownU1 := own_below hownU hB1
  have hBw1 : Below w.heap.size w ((w0.alloc (Obj.map #[] 0)).alloc (Obj.cells #[Value.slice none 0 0, Value.map (some w0.heap.size)] 74)) := bel_call hB0 (Nat.le_refl _) hB1
  generalize ((w0.alloc (Obj.map #[] 0)).alloc (Obj.cells #[Value.slice none 0 0, Value.map (some w0.heap.size)] 74)) = w1 at *
  have hpb1 : ∀ b o, p = some ⟨b, o, none⟩ → l ≠ [] → b < w0.heap.size := fun b o e hne => Nat.lt_of_lt_of_le (hpb0 b o e hne) hz00
  clear hown0 hgrow0 hownU hi0 hz0 hz1 hz2 hB1 hB0
  generalize w0.heap.size = base at *
  generalize base + 1 = hb at *
  generalize hU : w.heap.size = ub at *
  have HU : Hid (w.heap.size = ub) := hU
  clear hU
  go_loopw [17] (fun i wr => ∃ (k : Nat) (o : List Nat), k ≤ n ∧ i = .int .i64 k ∧ Hid (runO l k = some o) ∧ Hx wr base hb base o (ents l o) ∧ Own eI wr ub 3 (some ⟨ub, 0, none⟩) n (outO l k) ∧ Below ub w wr) (fun i _ => n - (intOf i).toNat)
  case atStart => exact ⟨0, [], Nat.zero_le _, rfl, rfl, hX0, by show Own _ _ _ _ _ _ (List.replicate l.length 0); rw [HN.out]; exact hownU1, hBw1⟩
  case round =>
    obtain ⟨k, o, hk, rfl, HR, hX, hown, hBw⟩ := hrel
    clear hX0 hownU1 hBw1
    have hHd := runO_held l k o HR.out
    have hrw := rd_under hr hBw hpb0
    by_cases hlt : k < n
    · have hkl : k < l.length := by rw [HN.out]; exact hlt
      have hol : ∀ j ∈ o, j < n := fun j hj => Nat.lt_trans (hHd.lt j hj) hlt
      obtain ⟨b, f, rfl, hbz, f0, f1, f2, f3⟩ := hrw.inst k hkl
      have HG : Hid (gt l k = l[k]) := gt_eq hkl
      generalize l[k] = x at *
      obtain ⟨xo, xa, xb, xn⟩ := x
      simp only at f0 f1 f2 f3
      have hAl : Below wr.heap.size wr (wr.alloc (Obj.cells #[.int .i64 xo, .int .i64 xa, .int .i64 xb, .int .i64 xn] 45)) := (by repeat (first | exact Below.refl _ _ | refine Below.alloc ?_ (by simp <;> omega) _ | refine Below.setCell ?_ (by simp <;> omega) _))
      have hXa := hX.below hAl
      have hra := hrw.below hAl
      have hBa := bel_call hBw (by rw [HU.out]; exact Nat.le_refl _) hAl
      have hza := hBa.size
      have hlU : (outO l k).length = n := by rw [outO_len, HN.out]
      by_cases h9 : xo = 9
      · subst h9
        have H9 : Hid ((gt l k).1 = 9) := by show _ = _; rw [HG.out]
        by_cases hc : (o.any (sameA l k) || decide (2 ≤ o.length)) = true
        · have HF : Hid (okP l = false) := okP_no (k := k + 1) (by rw [HN.out]; omega) (by rw [run_step HR.out, step_lock H9.out, if_pos hc])
          have hlk := lock_no _ c l _ hra n HN.out hn k hlt base hb base o hol hXa hHd.le hc
          clear hc
          go_wp2_with (go_at_call 39; refine hlk.mono ?_; rintro e w4 ⟨rfl, hb4⟩)
          go_ret2
          exact ⟨⟨none, 0, 0, false, rfl, HF.out, fun h => by cases h⟩, by rw [HU.out]; exact hBa.trans (hb4.mono (by omega))⟩
        · have HS : Hid (runO l (k + 1) = some (o ++ [k])) := by show _ = _; rw [run_step HR.out, step_lock H9.out, if_neg hc]
          have hc' : (o.any (sameA l k) || decide (2 ≤ o.length)) = false := by simpa using hc
          rw [Bool.or_eq_false_iff] at hc'
          have hle : o.length ≤ 1 := by have := hc'.2; simp at this; omega
          have hlk := lock_yes _ c l _ hra n HN.out hn hal k hlt base hb base hpb1 o hol hXa hle hc'.1
          have HO : Hid (outO l (k + 1) = outO l k) := out_other (by rw [H9.out]; decide)
          clear hc hc'
          go_wp2_with (go_at_call 39; refine hlk.mono ?_; rintro e w4 ⟨rfl, hX4, hb4⟩)
          go_roundw
          case rel => exact ⟨k + 1, o ++ [k], by omega, by go_num, HS, hX4, by rw [HO.out]; exact own_under (own_below hown hAl) hb4 (fun g e => by cases e; exact hUlt), hBa.trans (hb4.mono (by omega))⟩
          case measure => simp [intOf]; omega
      · have d9 : (xo == 9) = false := by simpa using h9
        have H9 : Hid ((gt l k).1 ≠ 9) := by show _ ≠ _; rw [HG.out]; exact h9
        by_cases h10 : xo = 10
        · subst h10
          have H10 : Hid ((gt l k).1 = 10) := by show _ = _; rw [HG.out]
          clear d9 h9
          rcases last_cases o with rfl | ⟨o1, j, rfl⟩
          · have HF : Hid (okP l = false) := okP_no (k := k + 1) (by rw [HN.out]; omega) (by rw [run_step HR.out, step_un0 H10.out])
            have hlk := unlock_none _ c l _ hra n HN.out hn hal k hlt base hb base [] hXa rfl
            go_wp2_with (go_at_call 40; refine hlk.mono ?_; rintro e w4 ⟨rfl, hb4⟩)
            go_ret2
            exact ⟨⟨none, 0, 0, false, rfl, HF.out, fun h => by cases h⟩, by rw [HU.out]; exact hBa.trans (hb4.mono (by omega))⟩
          · by_cases hs : siteL l j = siteL l k
            · have HS : Hid (runO l (k + 1) = some o1) := by show _ = _; rw [run_step HR.out, step_un H10.out, if_pos hs]
              have HO : Hid (outO l (k + 1) = (outO l k).set j k) := out_un H10.out HR.out (by simp)
              have hjn : j < n := hol j (by simp)
              have hd1 : ∀ i ∈ o1, (gt l i).2.1 ≠ (gt l j).2.1 := by
                intro i hi
                have hle := hHd.le
                rw [List.length_append] at hle
                match o1, hi with
                | [y], hi =>
                  simp at hi
                  subst hi
                  exact (hHd.ne i j rfl).1
                | y :: z :: r, _ => simp at hle
              have hlk := unlock_yes _ c l _ hra n HN.out hn hal k hlt base hb base (o1 ++ [j]) hXa j o1 rfl hHd.le hs hd1
              clear hs hd1
              have hownA := own_below hown hAl
              go_wp2_with (go_at_call 40; refine hlk.mono ?_; rintro e w4 ⟨rfl, hX4, hb4⟩
                           have hown4 := own_under hownA hb4 (fun g e => by cases e; exact hUlt)
                           obtain ⟨b', e', hb1', hb2', hfz', ⟨u, hu⟩, hset⟩ := own_setI hown4 j (by rw [hlU]; exact hjn)
                           cases e'
                           have hz4 := hb4.size)
              go_roundw
              case rel => exact ⟨k + 1, o1, by omega, by go_num, HS, hX4.low hUlt _, by rw [HO.out]; exact hset _, (hBa.trans (hb4.mono (by omega))).setCell (Nat.le_refl _) _⟩
              case measure => simp [intOf]; omega
            · have HF : Hid (okP l = false) := okP_no (k := k + 1) (by rw [HN.out]; omega) (by rw [run_step HR.out, step_un H10.out, if_neg hs])
              cases hlo : lookE (ents l (o1 ++ [j])) (siteL l k) with
              | none =>
                have hlk := unlock_none _ c l _ hra n HN.out hn hal k hlt base hb base (o1 ++ [j]) hXa hlo
                clear hs hlo
                go_wp2_with (go_at_call 40; refine hlk.mono ?_; rintro e w4 ⟨rfl, hb4⟩)
                go_ret2
                exact ⟨⟨none, 0, 0, false, rfl, HF.out, fun h => by cases h⟩, by rw [HU.out]; exact hBa.trans (hb4.mono (by omega))⟩
              | some v =>
                have hv : ¬ (j : Int) = v := by
                  rintro rfl
                  obtain ⟨x, hx, e1, e2⟩ := lookE_some hlo
                  simp only [ents, List.mem_map] at hx
                  obtain ⟨i, hi, rfl⟩ := hx
                  simp only at e1 e2
                  have : i = j := by omega
                  subst this
                  exact hs e1
                have hlk := unlock_other _ c l _ hra n HN.out hn hal k hlt base hb base (o1 ++ [j]) hXa v hlo j o1 rfl hHd.le hv
                clear hs hlo hv
                go_wp2_with (go_at_call 40; refine hlk.mono ?_; rintro e w4 ⟨rfl, hb4⟩)
                go_ret2
                exact ⟨⟨none, 0, 0, false, rfl, HF.out, fun h => by cases h⟩, by rw [HU.out]; exact hBa.trans (hb4.mono (by omega))⟩
        · have d10 : (xo == 10) = false := by simpa using h10
          have H10 : Hid ((gt l k).1 ≠ 10) := by show _ ≠ _; rw [HG.out]; exact h10
          have HS : Hid (runO l (k + 1) = some o) := by show _ = _; rw [run_step HR.out, step_other H9.out H10.out]
          have HO : Hid (outO l (k + 1) = outO l k) := out_other H10.out
          go_wp2
          go_roundw
          case rel => exact ⟨k + 1, o, by omega, by go_num, HS, hXa, by rw [HO.out]; exact own_below hown hAl, hBa⟩
          case measure => simp [intOf]; omega
    · obtain rfl : k = n := by omega
      obtain ⟨q5, d5, hh5, hown5, c50, c51, hhb5, hmb5, hne5, hfz5⟩ := hX.facts
      obtain ⟨m, hM⟩ : ∃ m, o.length = m := ⟨_, rfl⟩
      rw [hM] at hh5 c50
      by_cases hm : 0 < m
      · have d : decide ((0 : Int) < (m : Int)) = true := by simpa using hm
        have HF : Hid (okP l = false) := by
          show _ = _
          unfold okP
          rw [HN.out, HR.out]
          exact decide_eq_false (by intro e; simp at e; subst e; simp at hM; omega)
        clear hM
        go_wp2
        go_ret2
        exact ⟨⟨none, 0, 0, false, rfl, HF.out, fun h => by cases h⟩, by rw [HU.out]; exact hBw⟩
      · have d : decide ((0 : Int) < (m : Int)) = false := by simpa using hm
        have HF : Hid (okP l = true) := by
          show _ = _
          unfold okP
          rw [HN.out, HR.out]
          have : o = [] := List.eq_nil_of_length_eq_zero (by omega)
          exact decide_eq_true (by rw [this])
        clear hM
        go_wp2
        go_ret2
        exact ⟨⟨_, _, k, true, rfl, HF.out, fun _ => ⟨rfl, by unfold pairL; rw [HN.out, HU.out]; exact hown⟩⟩, by rw [HU.out]; exact hBw⟩
end Go.Proofs.Yteikdocpncdheaa
