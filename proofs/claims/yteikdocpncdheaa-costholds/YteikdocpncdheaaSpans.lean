/-
  The spans of a program, by package cost.
-/
import Derived.Test.YteikdocpncdheaaPiece
import Derived.Test.YteikdocpncdheaaHand
import Derived.Test.YteikdocpncdheaaPairs
import Derived.Test.YteikdocpncdheaaStepl
namespace Go.Proofs.Yteikdocpncdheaa
open Go.ChangeShapes Go.WideShapes Go.ChangeAt Go.RowKit
attribute [local go_sem ↓] Go.wp_at_zero Go.wp_at_succ

def eSp : Elt (Int × Int) := ⟨2, fun x => [.int .i64 x.1, .int .i64 x.2], fun _ => rfl, by intro x v hv; simp at hv; rcases hv with rfl | rfl <;> rfl, by decide⟩
theorem Try.info36 : (Try.prog.info? 36).map (fun i => (i.zero, i.size, i.bytes)) = some (some (.agg #[.int .i64 0, .int .i64 0]), 2, 16) := by kernel_rfl
theorem tSp : Ty Try.prog eSp 30 36 := by
  obtain ⟨i, hi, h0, h1, h2⟩ := info_parts Try.info36
  exact ⟨Try.underlying30, i, _, hi, h0, h1, rfl, by omega⟩
theorem wrap_c {x : Int} (h0 : 0 ≤ x) (h1 : x ≤ 1000000) : IntKind.i64.wrap x = x := by rw [IntKind.wrap_i64]; omega
theorem rd_sp {w : World} {vb : Nat} {A B : Int} {t : TypeId} {fr : Nat × Nat} (h : w.heap[vb]? = some (.cells #[.int .i64 A, .int .i64 B] t fr)) : Rd eSp w (some ⟨vb, 0, none⟩) 1 [(A, B)] := rd_block h 1 rfl rfl

set_option maxHeartbeats 800000 in
set_option maxRecDepth 20000 in
theorem spans_any (p : Option Addr) (c : Nat) (l : List In) (w : World) (hr : Rd eIn w p c l) (n : Nat) (hN : l.length = n) (hP : Prg l) (q : Option Addr) (d : Nat) (hu : Rd eI w q d (pairL l)) :
    Calls Try.prog 28 #[.slice p n c, .slice q n d] w fun e w' => (∃ q' d' m, e = .returned (.slice q' m d') ∧ m = (spL l n).length ∧ Own eSp w' w.heap.size 36 q' d' (spL l n)) ∧ Below w.heap.size w w' := by
  have hcap := hr.cap
  have hbl := hP.le.2
  rw [hN] at hcap hbl
  have HN : Hid (l.length = n) := hN
  have HP : Hid (Prg l) := hP
  have HU : Hid ((pairL l).length = n) := by show _ = _; rw [← hN]; exact outO_len l _
  clear hN hP
  go_enter Try.func28, Try.ntmps28
  go_wp2
  go_loopw [5, 10] (fun s i wr => ∃ (k : Nat) (q' : Option Addr) (d' m : Nat), k ≤ n ∧ i = .int .i64 k ∧ s = .slice q' m d' ∧ Hid (m = (spL l k).length) ∧ Own eSp wr w.heap.size 36 q' d' (spL l k) ∧ Below w.heap.size w wr) (fun _ i _ => n - (intOf i).toNat)
  case atStart => exact ⟨0, none, 0, 0, Nat.zero_le _, rfl, rfl, rfl, own_nil _ _ _, Below.refl _ _⟩
  case round =>
    obtain ⟨k, q', d', m, hk, rfl, rfl, HM, hown, hbw⟩ := hrel
    have hml : m ≤ k := by rw [HM.out]; exact spL_len l k
    have hsz := hbw.size
    by_cases hlt : k < n
    · have hkl : k < l.length := by rw [HN.out]; exact hlt
      have hku : k < (pairL l).length := by rw [HU.out]; exact hlt
      obtain ⟨b, o, rfl, hb, f0, f1, f2, f3⟩ := (hr.below hbw).inst k hkl
      obtain ⟨bu, ou, rfl, hbu, u00⟩ := hu.num k hku
      have u0 := (hbw.cell (p := ⟨bu, ou + k, none⟩) hbu).trans u00
      have HG : Hid (gt l k = l[k]) := gt_eq hkl
      have HUU : Hid ((pairL l).getD k 0 = (pairL l)[k]) := getD_at hku
      generalize l[k] = x at *
      generalize (pairL l)[k] = y at *
      obtain ⟨xo, xa, xb, xn⟩ := x
      simp only at f0 f1 f2 f3
      by_cases h9 : xo = 9
      · subst h9
        have h9' : (gt l k).1 = 9 := by rw [HG.out]
        obtain ⟨u, hpr⟩ := pr_of HP.out.pair hkl h9'
        obtain ⟨hTs, hts⟩ := hpr.subs HP.out
        have hsp := spn_of hpr
        have hsy := spL_yes (l := l) h9'
        have hu1 := hpr.lt
        have hu2 := hpr.le
        rw [HN.out] at hu2
        obtain rfl : y = (u : Int) := by rw [← HUU.out]; exact hpr.out
        rw [HG.out] at hsp
        simp only at hsp
        rw [hsp] at hsy
        have htl := hTs.tk_le
        have hln : (sub l (k + 1) (u - k)).length = u - k := sub_len (by rw [HN.out]; omega)
        have hX : ∀ w', Below wr.heap.size wr w' → Rd eIn w' (some ⟨b, o + (k + 1) * 4, none⟩) (c - (k + 1)) (sub l (k + 1) (u - k)) := fun w' hb' => by
          have := (((hr.below hbw).below hb').drop (k + 1) (by rw [HN.out]; omega)).take (u - k)
          rw [if_neg (by omega), Option.map_some, add_plain] at this
          exact this
        generalize hTT : Sm l (k + 1) (k + 1) (u + 1) = T at *
        rw [hts] at htl
        have hXX := fun w' hb' => ticks_any _ _ _ w' (hX w' hb') _ hln hTs T hts
        have HSY : Hid (spL l (k + 1) = spL l k ++ [(xa, (T : Int))]) := hsy
        have g1 : (k : Int) + 1 ≤ (u : Int) + 1 := by omega
        have g2 : (u : Int) + 1 ≤ (c : Int) := by omega
        have e1 : ((u : Int) + 1 - ((k : Int) + 1)).toNat = u - k := by omega
        clear hX hTs hts hln hTT hsp hsy hpr h9' HUU HG hkl hku e1
        go_wp2
        have w1 : IntKind.i64.wrap ((k : Int) + 1) = (k : Int) + 1 := wrap_c (by omega) (by omega)
        have w2 : IntKind.i64.wrap ((u : Int) + 1) = (u : Int) + 1 := wrap_c (by omega) (by omega)
        have t1 : ((k : Int) + 1).toNat = k + 1 := by omega
        have t2 : ((u : Int) + 1).toNat = u + 1 := by omega
        have t3 : u + 1 - (k + 1) = u - k := by omega
        have bq : Below wr.heap.size wr (wr.alloc (Obj.cells #[Value.int IntKind.i64 9, Value.int IntKind.i64 xa, Value.int IntKind.i64 xb, Value.int IntKind.i64 xn] 45)) := (Below.refl _ _).alloc (Nat.le_refl _) _
        have gq : (wr.alloc (Obj.cells #[Value.int IntKind.i64 9, Value.int IntKind.i64 xa, Value.int IntKind.i64 xb, Value.int IntKind.i64 xn] 45)).heap[wr.heap.size]? = some _ := heap_alloc_new wr _
        have cq : (wr.alloc (Obj.cells #[Value.int IntKind.i64 9, Value.int IntKind.i64 xa, Value.int IntKind.i64 xb, Value.int IntKind.i64 xn] 45)).cell? ⟨wr.heap.size, 1, none⟩ = some (.int .i64 xa) := by rw [cell_of_row _ _ _ _ _ _ gq]; rfl
        have uq : (wr.alloc (Obj.cells #[Value.int IntKind.i64 9, Value.int IntKind.i64 xa, Value.int IntKind.i64 xb, Value.int IntKind.i64 xn] 45)).cell? ⟨bu, ou + k, none⟩ = some (.int .i64 (u : Int)) := (bq.cell (p := ⟨bu, ou + k, none⟩) (by show bu < _; omega)).trans u0
        have oq := own_below hown bq
        have zq := lt_of_block gq
        generalize hR : wr.heap.size = r at *
        generalize (wr.alloc (Obj.cells #[Value.int IntKind.i64 9, Value.int IntKind.i64 xa, Value.int IntKind.i64 xb, Value.int IntKind.i64 xn] 45)) = wq at *
        refine wp_region_held_drew (S := fun w' => w'.cell? ⟨r, 1, none⟩ = some (.int .i64 xa) ∧ w'.cell? ⟨bu, ou + k, none⟩ = some (.int .i64 (u : Int))) (by kernel_rfl) ⟨cq, uq⟩ (fun hHeld => ?_)
        refine wpAnyH_take (i := 0) (oi := _) (v := ?_) rfl (by kernel_rfl) (by kernel_rfl) (by kernel_rfl) (fun _ _ _ h => h) (Or.inl ⟨by rfl, ?_⟩) hHeld ?_
        rotate_left
        · intro w' hSw
          (go_simp <;> with_reducible rfl)
        try simp only [Act.put, List.getElem_toArray, List.getElem_cons_zero, List.setIfInBounds_toArray, List.set_cons_zero, List.set_cons_succ]
        refine wpAnyH_take (i := 1) (oi := _) (v := ?_) rfl (by kernel_rfl) (by kernel_rfl) (by kernel_rfl) (fun _ _ _ h => h) (Or.inl ⟨by rfl, ?_⟩) hHeld ?_
        rotate_left
        · intro w' hSw
          (go_simp <;> with_reducible rfl)
        try simp only [Act.put, List.getElem_toArray, List.getElem_cons_succ, List.getElem_cons_zero, List.setIfInBounds_toArray, List.set_cons_zero, List.set_cons_succ]
        refine wpAnyH_take (i := 2) (oi := _) (v := ?_) rfl (by kernel_rfl) (by kernel_rfl) (by kernel_rfl) (fun _ _ _ h => h) (Or.inl ⟨by rfl, ?_⟩) hHeld ?_
        rotate_left
        · intro w' hSw
          obtain ⟨k5, _⟩ := hSw
          (go_simp <;> with_reducible rfl)
        try simp only [Act.put, List.getElem_toArray, List.getElem_cons_succ, List.getElem_cons_zero, List.setIfInBounds_toArray, List.set_cons_zero, List.set_cons_succ]
        refine wpAnyH_take (i := 3) (oi := _) (v := ?_) rfl (by kernel_rfl) (by kernel_rfl) (by kernel_rfl) (fun _ _ _ h => h) (Or.inl ⟨by rfl, ?_⟩) hHeld ?_
        rotate_left
        · intro w' hSw
          (go_simp <;> with_reducible rfl)
        try simp only [Act.put, List.getElem_toArray, List.getElem_cons_succ, List.getElem_cons_zero, List.setIfInBounds_toArray, List.set_cons_zero, List.set_cons_succ]
        refine wpAnyH_take (i := 4) (oi := _) (v := ?_) rfl (by kernel_rfl) (by kernel_rfl) (by kernel_rfl) (fun _ _ _ h => h) (Or.inl ⟨by rfl, ?_⟩) hHeld ?_
        rotate_left
        · intro w' hSw
          (go_simp <;> with_reducible rfl)
        try simp only [Act.put, List.getElem_toArray, List.getElem_cons_succ, List.getElem_cons_zero, List.setIfInBounds_toArray, List.set_cons_zero, List.set_cons_succ]
        refine wpAnyH_take (i := 5) (oi := _) (v := ?_) rfl (by kernel_rfl) (by kernel_rfl) (by kernel_rfl) (fun _ _ _ h => h) (Or.inl ⟨by rfl, ?_⟩) hHeld ?_
        rotate_left
        · intro w' hSw
          (go_simp <;> with_reducible rfl)
        try simp only [Act.put, List.getElem_toArray, List.getElem_cons_succ, List.getElem_cons_zero, List.setIfInBounds_toArray, List.set_cons_zero, List.set_cons_succ]
        refine wpAnyH_take (i := 6) (oi := _) (v := ?_) rfl (by kernel_rfl) (by kernel_rfl) (by kernel_rfl) (fun _ _ _ h => h) (Or.inl ⟨by rfl, ?_⟩) hHeld ?_
        rotate_left
        · intro w' hSw
          (go_simp <;> with_reducible rfl)
        try simp only [Act.put, List.getElem_toArray, List.getElem_cons_succ, List.getElem_cons_zero, List.setIfInBounds_toArray, List.set_cons_zero, List.set_cons_succ]
        refine wpAnyH_take (i := 7) (oi := _) (v := ?_) rfl (by kernel_rfl) (by kernel_rfl) (by kernel_rfl) (fun _ _ _ h => h) (Or.inl ⟨by rfl, ?_⟩) hHeld ?_
        rotate_left
        · intro w' hSw
          (go_simp <;> with_reducible rfl)
        try simp only [Act.put, List.getElem_toArray, List.getElem_cons_succ, List.getElem_cons_zero, List.setIfInBounds_toArray, List.set_cons_zero, List.set_cons_succ]
        refine wpAnyH_take (i := 8) (oi := _) (v := ?_) rfl (by kernel_rfl) (by kernel_rfl) (by kernel_rfl) (fun _ _ _ h => h) (Or.inl ⟨by rfl, ?_⟩) hHeld ?_
        rotate_left
        · intro w' hSw
          (go_simp <;> with_reducible rfl)
        try simp only [Act.put, List.getElem_toArray, List.getElem_cons_succ, List.getElem_cons_zero, List.setIfInBounds_toArray, List.set_cons_zero, List.set_cons_succ]
        refine wpAnyH_take (i := 9) (oi := _) (v := ?_) rfl (by kernel_rfl) (by kernel_rfl) (by kernel_rfl) (fun _ _ _ h => h) (Or.inl ⟨by rfl, ?_⟩) hHeld ?_
        rotate_left
        · intro w' hSw
          obtain ⟨_, k5⟩ := hSw
          (go_simp <;> with_reducible rfl)
        try simp only [Act.put, List.getElem_toArray, List.getElem_cons_succ, List.getElem_cons_zero, List.setIfInBounds_toArray, List.set_cons_zero, List.set_cons_succ]
        refine wpAnyH_take (i := 10) (oi := _) (v := ?_) rfl (by kernel_rfl) (by kernel_rfl) (by kernel_rfl) (fun _ _ _ h => h) (Or.inl ⟨by rfl, ?_⟩) hHeld ?_
        rotate_left
        · intro w' hSw
          (go_simp <;> with_reducible rfl)
        try simp only [Act.put, List.getElem_toArray, List.getElem_cons_succ, List.getElem_cons_zero, List.setIfInBounds_toArray, List.set_cons_zero, List.set_cons_succ]
        refine wpAnyH_take (i := 11) (oi := _) (v := ?_) rfl (by kernel_rfl) (by kernel_rfl) (by kernel_rfl) (fun _ _ _ h => h) (Or.inl ⟨by rfl, ?_⟩) hHeld ?_
        rotate_left
        · intro w' hSw
          (go_simp; rw [if_neg (show ¬ c = k + 1 by omega)]; rfl)
        try simp only [Act.put, List.getElem_toArray, List.getElem_cons_succ, List.getElem_cons_zero, List.setIfInBounds_toArray, List.set_cons_zero, List.set_cons_succ]
        refine wpAnyH_ready (rs := [12]) (by kernel_rfl) (by simp) ?_
        refine AllReadyH.cons (o := _) rfl (fun K hK => ?_) AllReadyH.nil
        go_simp
        go_at_call 26
        (with_reducible (refine (hXX _ (bq.trans (Below.refl _ _).drew)).mono ?_))
        rintro e w4 ⟨rfl, hb4⟩
        have b4 : Below wq.heap.size wq w4 := ((Below.refl _ _).drew).trans hb4
        have c4 : w4.cell? ⟨r, 1, none⟩ = some (.int .i64 xa) := (b4.cell (p := ⟨r, 1, none⟩) zq).trans cq
        have u4 : w4.cell? ⟨bu, ou + k, none⟩ = some (.int .i64 (u : Int)) := (b4.cell (p := ⟨bu, ou + k, none⟩) (lt_of_cell uq)).trans uq
        have o4 := own_below oq b4
        have g4 := (b4.block r zq).trans gq
        have z4 := lt_of_block g4
        have B4 : Below w.heap.size w w4 := bel_call (bel_call hbw (Nat.le_refl _) (hR ▸ bq)) (Nat.le_refl _) b4
        clear hb4 b4
        refine hK.out _ _ ⟨c4, u4⟩ (fun hHeld => ?_)
        clear hK K
        try simp only [Act.put, List.getElem_toArray, List.getElem_cons_succ, List.getElem_cons_zero, List.setIfInBounds_toArray, List.set_cons_zero, List.set_cons_succ]
        refine wpAnyH_take (i := 13) (oi := _) (v := ?_) rfl (by kernel_rfl) (by kernel_rfl) (by kernel_rfl) (fun _ _ _ h => h) (Or.inl ⟨by rfl, ?_⟩) hHeld ?_
        rotate_left
        · intro w' hSw
          (go_simp <;> with_reducible rfl)
        try simp only [Act.put, List.getElem_toArray, List.getElem_cons_succ, List.getElem_cons_zero, List.setIfInBounds_toArray, List.set_cons_zero, List.set_cons_succ]
        refine wpAnyH_ready (rs := [14]) (by kernel_rfl) (by simp) ?_
        refine AllReadyH.cons (o := _) rfl (fun K hK => ?_) AllReadyH.nil
        go_simp
        have c5 : (w4.alloc (.cells #[.int .i64 xa, .int .i64 (T : Int)] 36)).cell? ⟨r, 1, none⟩ = some (.int .i64 xa) := (((Below.refl _ _).alloc (Nat.le_refl _) _).cell (p := ⟨r, 1, none⟩) z4).trans c4
        have u5 : (w4.alloc (.cells #[.int .i64 xa, .int .i64 (T : Int)] 36)).cell? ⟨bu, ou + k, none⟩ = some (.int .i64 (u : Int)) := (((Below.refl _ _).alloc (Nat.le_refl _) _).cell (p := ⟨bu, ou + k, none⟩) (lt_of_cell u4)).trans u4
        refine hK.out _ _ ⟨c5, u5⟩ (fun hHeld => ?_)
        clear hK K
        try simp only [Act.put, List.getElem_toArray, List.getElem_cons_succ, List.getElem_cons_zero, List.setIfInBounds_toArray, List.set_cons_zero, List.set_cons_succ]
        refine wpAnyH_ready (rs := [15]) (by kernel_rfl) (by simp) ?_
        refine AllReadyH.cons (o := _) rfl (fun K hK => ?_) AllReadyH.nil
        refine step_app tSp _ rfl _ _ rfl w.heap.size q' d' (spL l k) m HM.out.symm rfl (own_below o4 ((Below.refl _ _).alloc (Nat.le_refl _) _)) _ _ [(xa, (T : Int))] 1 rfl rfl (rd_sp (heap_alloc_new w4 _)) (by omega) (by have := B4.size; simp; omega) (m + 1) rfl ?_
        intro p7 c7 w7 ho7 hb7 hst7
        have g7 : w7.heap[r]? = w4.heap[r]? := (hst7 r (by simp; omega) (own_apart o4 g4 (by decide))).trans (Below.heap_alloc _ _ _ z4)
        have c7' : w7.cell? ⟨r, 1, none⟩ = some (.int .i64 xa) := (World.cell?_of_block (a := ⟨r, 1, none⟩) g7).trans c4
        have u7 : w7.cell? ⟨bu, ou + k, none⟩ = some (.int .i64 (u : Int)) := (hb7.cell (p := ⟨bu, ou + k, none⟩) hbu).trans u5
        have B7 : Below w.heap.size w w7 := (B4.alloc (by have := B4.size; omega) _).trans hb7
        refine hK.out _ _ ⟨c7', u7⟩ (fun hHeld => ?_)
        clear hK K
        try simp only [Act.put, List.getElem_toArray, List.getElem_cons_succ, List.getElem_cons_zero, List.setIfInBounds_toArray, List.set_cons_zero, List.set_cons_succ]
        refine wpAnyH_take (i := 16) (oi := _) (v := ?_) rfl (by kernel_rfl) (by kernel_rfl) (by kernel_rfl) (fun _ _ _ h => h) (Or.inl ⟨by rfl, ?_⟩) hHeld ?_
        rotate_left
        · intro w' hSw
          (go_simp <;> with_reducible rfl)
        try simp only [Act.put, List.getElem_toArray, List.getElem_cons_succ, List.getElem_cons_zero, List.setIfInBounds_toArray, List.set_cons_zero, List.set_cons_succ]
        refine wpAnyH_done (by kernel_rfl) ?_ _
        clear hst7 hb7 o4 oq gq g4 hHeld c7' u7 c5 u5 c4 u4 cq uq g7
        go_wp2
        go_roundw
        case rel => exact ⟨k + 1, p7, c7, m + 1, by omega, by go_num, rfl, by show _ = _; rw [HSY.out, List.length_append, ← HM.out]; rfl, by rw [HSY.out]; exact ho7, B7⟩
        case measure => simp [intOf]; omega
      · have d9 : (xo == 9) = false := by simpa using h9
        have HSY : Hid (spL l (k + 1) = spL l k) := spL_no (by rw [HG.out]; exact h9)
        clear HUU HG hkl hku
        go_wp2
        go_roundw
        case rel => exact ⟨k + 1, q', d', m, by omega, by go_num, rfl, by show _ = _; rw [HSY.out]; exact HM.out, by rw [HSY.out]; exact own_below hown ((Below.refl _ _).alloc (Nat.le_refl _) _), bel_call hbw (Nat.le_refl _) ((Below.refl _ _).alloc (Nat.le_refl _) _)⟩
        case measure => simp [intOf]; omega
    · obtain rfl : k = n := by omega
      have d : decide ((k : Int) < (k : Int)) = false := by simp
      go_wp2
      go_ret
      exact ⟨⟨q', d', m, rfl, HM.out, hown⟩, hbw⟩
end Go.Proofs.Yteikdocpncdheaa
