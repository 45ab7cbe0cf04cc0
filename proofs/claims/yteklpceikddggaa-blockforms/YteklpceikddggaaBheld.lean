/-
  How long each place holds each semaphore, as a map.
-/
import Derived.Test.YteklpceikddggaaBfun
import Derived.Test.YteklpceikddggaaTthree
import Derived.Test.YteklpceikddggaaTmay
import Derived.Deep.CutBlock
import Derived.Deep.CutRange
namespace Go.Proofs.Yteklpceikddggaa
open Go.ChangeShapes Go.WideShapes Go.ChangeAt Go.RowKit
attribute [local go_sem ↓] Go.wp_at_zero Go.wp_at_succ

theorem spaT_le {r p e E : Int} {M W O : List In} (h : erT r p e M W O = E) : (spaT E M W).length ≤ 48 := by
  by_cases h0 : E = 0
  · subst h0
    obtain ⟨_, _, _, kM, kW, _, _, _⟩ := er0 h
    have := spa_len kM kW
    show (if (0 : Int) = 0 then spL M M.length ++ tws W else []).length ≤ 48
    rw [if_pos rfl, List.length_append]
    exact this
  · unfold spaT
    rw [if_neg h0]
    exact Nat.zero_le _
theorem hcel_of {w : World} {p : Option Addr} {c : Nat} {l : List Tv} {X : Tv} (h : Rd eTk w p c l) (i : Nat) (hi : i < l.length) (hX : l[i] = X) :
    ∃ b o, p = some ⟨b, o, none⟩ ∧ b < w.heap.size ∧ ∀ w', Below w.heap.size w w' → w'.cell? ⟨b, o + i * 6, none⟩ = some (.int .i64 X.r) ∧ w'.cell? ⟨b, o + i * 6 + 1, none⟩ = some (.int .i64 X.p) ∧ w'.cell? ⟨b, o + i * 6 + 2, none⟩ = some (.int .i64 X.e) ∧ w'.cell? ⟨b, o + i * 6 + 3, none⟩ = some (.slice X.mp X.mn X.mc) ∧ w'.cell? ⟨b, o + i * 6 + 4, none⟩ = some (.slice X.wp X.wn X.wc) ∧ w'.cell? ⟨b, o + i * 6 + 5, none⟩ = some (.slice X.op X.on X.oc) := by
  subst hX
  obtain ⟨b, o, e, hb, _⟩ := h.task i hi
  refine ⟨b, o, e, hb, fun w' hw => ?_⟩
  obtain ⟨b', o', e', _, y0, y1, y2, y3, y4, y5⟩ := (h.below hw).task i hi
  obtain ⟨rfl, rfl⟩ : b' = b ∧ o' = o := by rw [e] at e'; simp at e'; exact ⟨e'.1.symm, e'.2.symm⟩
  exact ⟨y0, y1, y2, y3, y4, y5⟩
/-- a row of tasks, and the spans of each -/
structure Rowd (w : World) (p : Option Addr) (c n : Nat) (P : List Tv) (SP : List Sn) : Prop where
  rd : Rd eTk w p c P
  len : P.length = n
  sl : SP.length = n
  tk : ∀ (k : Nat) (h1 : k < P.length) (h2 : k < SP.length), ∃ M W O E, Gt w P[k] M W O ∧ erT P[k].r P[k].p P[k].e M W O = E ∧ spaT E M W = SP[k]
theorem Rowd.below {w w' : World} {p : Option Addr} {c n : Nat} {P : List Tv} {SP : List Sn} (h : Rowd w p c n P SP) (hb : Below w.heap.size w w') : Rowd w' p c n P SP :=
  ⟨h.rd.below hb, h.len, h.sl, fun k h1 h2 => by
    obtain ⟨M, W, O, E, g, e1, e2⟩ := h.tk k h1 h2
    exact ⟨M, W, O, E, g.below hb, e1, e2⟩⟩
theorem step_lookH {ops : Array Oper} {o : Oper} {a : Act} {w : World} {K : Act → World → Prop} {Q : Exit → Act → World → Prop} {G : Prop} (hg : o.guard = none) (m x : Operand) (hop : o.op = Op.lookup 48 m x false) (b : Nat) (l : List En) (hm : a.eval m = .map (some b)) (h : IsH w b l) (s p : Int) (hx : a.eval x = .agg #[.int .i64 s, .int .i64 p])
    (v : Int) (h1 : (lookE l [s, p]).getD 0 = v) (hK : K (a.put o.dst (.int .i64 v)) w) :
    if Region.wanted o (yielded ops a.tmps) = true then Oper.wp Try.prog o a w K Q else G := by
  have hw : Region.wanted o (yielded ops a.tmps) = true := by simp [Region.wanted, hg]
  rw [if_pos hw]
  obtain ⟨_, r2⟩ := look_runH h (k := [s, p]) rfl
  have e : (cI7 [s, p] : Array Value) = #[.int .i64 s, .int .i64 p] := rfl
  rw [h1, e] at r2
  unfold Oper.wp
  simp [execOp, hop, hm, hx, r2, Result.andThen]
  exact hK
theorem size61 : (Try.prog.info? 61).map (·.size) = some 2 := by kernel_rfl
theorem kp_draw {b : Nat} {w : World} : Kp b w w.drew := ⟨rfl, rfl, rfl, Nat.le_refl _, fun _ _ _ => rfl⟩
theorem is_draw {b : Nat} {w : World} {m : List En} (h : IsH w b m) : IsH w.drew b m := h.of_block rfl
theorem addE_is {k : Nat} {m : List En} {xs xl V : Int} (hV : (lookE m [xs, (k : Int)]).getD 0 = V) : addE k m (xs, xl) = setE m [xs, (k : Int)] (if V < xl then xl else V) := by
  unfold addE
  rw [max_is, ← hV]
set_option maxRecDepth 20000 in
set_option maxHeartbeats 4000000 in
theorem hmap_any (p : Option Addr) (c n : Nat) (P : List Tv) (SP : List Sn) (w : World) (h : Rowd w p c n P SP) (hn : n ≤ 100) :
    Calls Try.prog 19 #[.slice p n c] w fun e w' => e = .returned (.map (some w.heap.size)) ∧ IsH w' w.heap.size (hA SP n) ∧ Below w.heap.size w w' := by
  have hmm := run_makeMap (P := Try.prog) 48
  obtain ⟨b, hb⟩ : ∃ b, b = w.heap.size := ⟨_, rfl⟩
  have HB : Hid (b = w.heap.size) := hb
  have HI0 : IsH (w.alloc (.map #[] 0)) b [] := by rw [hb]; exact IsH.made w
  have hB0 : Below b w (w.alloc (.map #[] 0)) := by rw [hb]; exact bel_self w _
  have h' : Rowd w p c n P SP := h
  rw [← hb]
  go_enter Try.func19, Try.ntmps19
  go_wp2
  rw [← hb]
  clear hb
  go_loopw [15] (fun i wr => ∃ k : Nat, k ≤ n ∧ i = .int .i64 k ∧ IsH wr b (hA SP k) ∧ Below b w wr) (fun i _ => n - (intOf i).toNat)
  case atStart => exact ⟨0, Nat.zero_le _, rfl, HI0, hB0⟩
  case round =>
    obtain ⟨k, hk, rfl, HI, hbw⟩ := hrel
    obtain ⟨w0, hw0⟩ : ∃ w0 : World, w0 = wr := ⟨_, rfl⟩
    subst hw0
    clear HI0 hB0
    by_cases hlt : k < n
    · have hkI : (k : Int) < (n : Int) := by omega
      have dk : decide ((k : Int) < (n : Int)) = true := decide_eq_true hkI
      have hRw := h'.below (show Below w.heap.size w w0 by rw [← HB.out]; exact hbw)
      have hkP : k < P.length := by rw [h'.len]; exact hlt
      have hkS : k < SP.length := by rw [h'.sl]; exact hlt
      obtain ⟨X, hX⟩ : ∃ X, P[k] = X := ⟨_, rfl⟩
      obtain ⟨bb, bo, be, hbb, hcel⟩ := hcel_of hRw.rd k hkP hX
      obtain ⟨M1, Y1, O1, E, hG, hE, hSk⟩ := hRw.tk k hkP hkS
      rw [hX] at hG hE
      obtain ⟨hGk, hGr, hGp, hGe⟩ := hG
      subst be
      obtain ⟨r1, p1, e1, mp1, mn1, mc1, wp1, wn1, wc1, op1, on1, oc1⟩ := X
      dsimp only at hcel hGk hGr hGp hGe hE
      have HS9 : Hid (SP.getD k [] = SP[k]) := by show _ = _; rw [List.getD_eq_getElem?_getD, List.getElem?_eq_getElem hkS]; rfl
      obtain ⟨S, hS⟩ : ∃ S, SP[k] = S := ⟨_, rfl⟩
      rw [hS] at hSk HS9
      obtain ⟨m, hm⟩ : ∃ m, S.length = m := ⟨_, rfl⟩
      have m48 : m ≤ 48 := by rw [← hm, ← hSk]; exact spaT_le hE
      have s1 := bel_self w0 (.cells #[.int .i64 r1, .int .i64 p1, .int .i64 e1, .slice mp1 mn1 mc1, .slice wp1 wn1 wc1, .slice op1 on1 oc1] 33)
      have L1 := Lv.new w0 #[.int .i64 r1, .int .i64 p1, .int .i64 e1, .slice mp1 mn1 mc1, .slice wp1 wn1 wc1, .slice op1 on1 oc1] 33
      have K1 := costs_any r1 p1 e1 mp1 mn1 mc1 wp1 wn1 wc1 op1 on1 oc1 M1 Y1 O1 _ (hGk.below s1) hGr hGp hGe E hE _ _ rfl rfl m (by rw [hSk]; exact hm)
      rw [hSk] at K1
      generalize cosT E M1 = A at K1
      generalize losT E M1 Y1 = L at K1
      have HS : Hid (S.length = m) := hm
      obtain ⟨y0, y1, y2, y3, y4, y5⟩ := hcel w0 (Below.refl _ _)
      have a0 := L1.c 0 rfl
      have a1 := L1.c 1 rfl
      have a2 := L1.c 2 rfl
      have a3 := L1.c 3 rfl
      have a4 := L1.c 4 rfl
      have a5 := L1.c 5 rfl
      clear hE hS hm hGk hGr hGp hGe hX hRw hSk hkP hkS hcel L1
      go_upto_region 6 with (go_at_call 25; (with_reducible (refine K1.mono ?_)); rintro e8 w8 ⟨⟨q, d, rfl, o1⟩, b8⟩)
      have HI8 := (HI.below s1).below b8
      have hB8 := bel_call (bel_call hbw (show b ≤ w.heap.size by rw [HB.out]; exact Nat.le_refl _) s1) (show b ≤ w.heap.size by rw [HB.out]; exact Nat.le_refl _) b8
      have hb1 : b < w0.heap.size := HI.lt
      have hq := own_in o1
      have hqb : ∀ b' o, q = some ⟨b', o, none⟩ → b' ≠ b := fun b' o e => by have := (hq b' o e).1; simp at this; omega
      have rS := own_rd o1
      clear y0 y1 y2 y3 y4 y5 a0 a1 a2 a3 a4 a5 K1 HI hbw s1 hb1 hq o1 b8
      have hb8 : b ≤ w8.heap.size := Nat.le_of_lt HI8.lt
      go_wp2
      go_loopw [28] (fun i wx => ∃ j : Nat, j ≤ m ∧ i = .int .i64 j ∧ IsH wx b ((S.take j).foldl (addE k) (hA SP k)) ∧ Kp b w8 wx) (fun i _ => m - (intOf i).toNat)
      case atStart => exact ⟨0, Nat.zero_le _, rfl, HI8, Kp.refl _ _⟩
      case round =>
        obtain ⟨j, hj, rfl, HI, hkx⟩ := hrel
        obtain ⟨wx, hwx⟩ : ∃ wx : World, wx = wr := ⟨_, rfl⟩
        subst hwx
        clear HI8
        by_cases hjl : j < m
        · have hjI : (j : Int) < (m : Int) := by omega
          have dj : decide ((j : Int) < (m : Int)) = true := decide_eq_true hjI
          have hjS : j < S.length := by rw [HS.out]; exact hjl
          obtain ⟨sb, so, se, hsb, u0, u1⟩ := (rd_kp rS hkx (fun b' o e _ => hqb b' o e)).span j hjS
          have HT : Hid (S.take (j + 1) = S.take j ++ [S[j]]) := by show _ = _; simp
          subst se
          generalize S[j] = X at *
          obtain ⟨xs, xl⟩ := X
          dsimp only at u0 u1
          go_upto_region 10 with fail
          have hbx : b < wx.heap.size := HI.lt
          have LX : Lv ((wx.alloc (.cells #[.int .i64 xs, .int .i64 xl] 38)).alloc (.cells #[.int .i64 xs, .int .i64 (k : Int)] 61)) wx.heap.size #[.int .i64 xs, .int .i64 xl] 38 := (Lv.new wx _ 38).below (bel_self _ _)
          have LK : Lv ((wx.alloc (.cells #[.int .i64 xs, .int .i64 xl] 38)).alloc (.cells #[.int .i64 xs, .int .i64 (k : Int)] 61)) (wx.heap.size + 1) #[.int .i64 xs, .int .i64 (k : Int)] 61 := heap_at (by simp)
          have HI3 := (HI.below (bel_self wx (.cells #[.int .i64 xs, .int .i64 xl] 38))).below (bel_self _ (.cells #[.int .i64 xs, .int .i64 (k : Int)] 61))
          have hk3 := (hkx.alloc (.cells #[.int .i64 xs, .int .i64 xl] 38)).alloc (.cells #[.int .i64 xs, .int .i64 (k : Int)] 61)
          obtain ⟨gx, hgx⟩ : ∃ gx, gx = wx.heap.size := ⟨_, rfl⟩
          obtain ⟨gk, hgk⟩ : ∃ gk, gk = gx + 1 := ⟨_, rfl⟩
          rw [← hgx] at LX LK hbx
          rw [← hgk] at LK
          simp only [← hgx, ← hgk]
          have hbk : b < gk := by omega
          obtain ⟨W3, hW3⟩ : ∃ W3, W3 = (wx.alloc (.cells #[.int .i64 xs, .int .i64 xl] 38)).alloc (.cells #[.int .i64 xs, .int .i64 (k : Int)] 61) := ⟨_, rfl⟩
          rw [← hW3] at LX LK HI3 hk3 ⊢
          clear hW3 hgx hgk u0 u1 HI
          have HI := is_draw HI3
          obtain ⟨V, hV⟩ : ∃ V, (lookE ((S.take j).foldl (addE k) (hA SP k)) [xs, (k : Int)]).getD 0 = V := ⟨_, rfl⟩
          refine wp_region_held_drew (S := fun w' => Kp b W3 w') (by kernel_rfl) (⟨rfl, rfl, rfl, Nat.le_refl _, fun _ _ _ => rfl⟩) (fun hHeld => ?_)
          refine wpAnyH_take (i := 0) (oi := _) (v := ?_) rfl (by kernel_rfl) (by kernel_rfl) (by kernel_rfl) (fun _ _ _ h => h) (Or.inl ⟨by rfl, ?_⟩) hHeld ?_
          rotate_left
          · intro w' hSw
            (go_simp <;> with_reducible rfl)
          try simp only [Act.put, List.getElem_toArray, List.getElem_cons_zero, List.setIfInBounds_toArray, List.set_cons_zero, List.set_cons_succ]
          refine wpAnyH_take (i := 1) (oi := _) (v := ?_) rfl (by kernel_rfl) (by kernel_rfl) (by kernel_rfl) (fun _ _ _ h => h) (Or.inl ⟨by rfl, ?_⟩) hHeld ?_
          rotate_left
          · intro w' hSw
            have z0 := (Lv.kp LK hSw (Nat.ne_of_gt hbk)).c 0 rfl
            have z1 := (Lv.kp LK hSw (Nat.ne_of_gt hbk)).c 1 rfl
            (go_simp <;> with_reducible rfl)
          try simp only [Act.put, List.getElem_toArray, List.getElem_cons_succ, List.getElem_cons_zero, List.setIfInBounds_toArray, List.set_cons_zero, List.set_cons_succ]
          refine wpAnyH_take (i := 2) (oi := _) (v := ?_) rfl (by kernel_rfl) (by kernel_rfl) (by kernel_rfl) (fun _ _ _ h => h) (Or.inl ⟨by rfl, ?_⟩) hHeld ?_
          rotate_left
          · intro w' hSw
            (go_simp <;> with_reducible rfl)
          try simp only [Act.put, List.getElem_toArray, List.getElem_cons_succ, List.getElem_cons_zero, List.setIfInBounds_toArray, List.set_cons_zero, List.set_cons_succ]
          refine wpAnyH_take (i := 3) (oi := _) (v := ?_) rfl (by kernel_rfl) (by kernel_rfl) (by kernel_rfl) (fun _ _ _ h => h) (Or.inl ⟨by rfl, ?_⟩) hHeld ?_
          rotate_left
          · intro w' hSw
            have z0 := (Lv.kp LK hSw (Nat.ne_of_gt hbk)).c 0 rfl
            have z1 := (Lv.kp LK hSw (Nat.ne_of_gt hbk)).c 1 rfl
            (go_simp <;> with_reducible rfl)
          try simp only [Act.put, List.getElem_toArray, List.getElem_cons_succ, List.getElem_cons_zero, List.setIfInBounds_toArray, List.set_cons_zero, List.set_cons_succ]
          refine wpAnyH_take (i := 5) (oi := _) (v := ?_) rfl (by kernel_rfl) (by kernel_rfl) (by kernel_rfl) (fun _ _ _ h => h) (Or.inl ⟨by rfl, ?_⟩) hHeld ?_
          rotate_left
          · intro w' hSw
            (go_simp <;> with_reducible rfl)
          try simp only [Act.put, List.getElem_toArray, List.getElem_cons_succ, List.getElem_cons_zero, List.setIfInBounds_toArray, List.set_cons_zero, List.set_cons_succ]
          refine wpAnyH_take (i := 6) (oi := _) (v := ?_) rfl (by kernel_rfl) (by kernel_rfl) (by kernel_rfl) (fun _ _ _ h => h) (Or.inl ⟨by rfl, ?_⟩) hHeld ?_
          rotate_left
          · intro w' hSw
            have y1 := (Lv.kp LX hSw (Nat.ne_of_gt hbx)).c 1 rfl
            (go_simp <;> with_reducible rfl)
          try simp only [Act.put, List.getElem_toArray, List.getElem_cons_succ, List.getElem_cons_zero, List.setIfInBounds_toArray, List.set_cons_zero, List.set_cons_succ]
          refine wpAnyH_ready (rs := [4]) (by kernel_rfl) (by simp) ?_
          refine AllReadyH.cons (o := _) rfl (fun K hK => ?_) AllReadyH.nil
          refine step_lookH rfl (.tmp 38) (.tmp 39) rfl b _ rfl HI xs (k : Int) rfl V hV ?_
          refine hK.out _ _ hHeld (fun _ => ?_)
          clear hK K
          try simp only [Act.put, List.getElem_toArray, List.getElem_cons_succ, List.getElem_cons_zero, List.setIfInBounds_toArray, List.set_cons_zero, List.set_cons_succ]
          refine wpAnyH_take (i := 7) (oi := _) (v := ?_) rfl (by kernel_rfl) (by kernel_rfl) (by kernel_rfl) (fun _ _ _ h => h) (Or.inl ⟨by rfl, ?_⟩) hHeld ?_
          rotate_left
          · intro w' hSw
            (go_simp <;> with_reducible rfl)
          try simp only [Act.put, List.getElem_toArray, List.getElem_cons_succ, List.getElem_cons_zero, List.setIfInBounds_toArray, List.set_cons_zero, List.set_cons_succ]
          refine wpAnyH_ready (rs := [8]) (by kernel_rfl) (by simp) ?_
          refine AllReadyH.cons (o := _) rfl (fun K hK => ?_) AllReadyH.nil
          refine step_putH rfl (.tmp 36) (.tmp 37) (.tmp 43) rfl b _ rfl HI xs (k : Int) _ rfl rfl ?_
          intro w9 HI9 k9
          have K9 : Kp b W3 w9 := hHeld.trans k9
          refine hK.out _ _ K9 (fun _ => ?_)
          clear hK K
          try simp only [Act.put, List.getElem_toArray, List.getElem_cons_succ, List.getElem_cons_zero]
          refine wpAnyH_done (by kernel_rfl) ?_ _
          have HI10 : IsH w9 b ((S.take (j + 1)).foldl (addE k) (hA SP k)) := by
            rw [HT.out, List.foldl_append, List.foldl_cons, List.foldl_nil, addE_is hV]
            exact HI9
          have hk10 := hk3.trans K9
          clear HI9 HI K9 k9 LX LK HI3 hk3 hV HT
          go_wp2
          go_roundw
          case rel => exact ⟨j + 1, by omega, by go_num, HI10, hk10⟩
          case measure => simp [intOf]; omega
        · obtain rfl : j = m := by omega
          have dj : decide ((j : Int) < (j : Int)) = false := by simp
          have HIk : IsH wx b (hA SP (k + 1)) := by
            have e : S.take j = S := List.take_of_length_le (by rw [HS.out]; exact Nat.le_refl _)
            rw [e] at HI
            rw [hA, HS9.out]
            exact HI
          have hBk : Below b w wx := bel_kp hB8 hkx (Nat.le_refl _) hb8
          clear HI
          go_wp2
          go_roundw
          case rel => exact ⟨k + 1, by omega, by go_num, HIk, hBk⟩
          case measure => simp [intOf]; omega
    · obtain rfl : k = n := by omega
      have dk : decide ((k : Int) < (k : Int)) = false := by simp
      go_wp2
      go_ret
      exact ⟨rfl, HI, hbw⟩
end Go.Proofs.Yteklpceikddggaa
