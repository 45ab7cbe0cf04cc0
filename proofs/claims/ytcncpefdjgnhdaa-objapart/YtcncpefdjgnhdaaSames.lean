/-
  Two things, two tables that are the same, held against each other by the document.
-/
import Derived.Test.YtcncpefdjgnhdaaModel
import Derived.Test.YtcncpefdjgnhdaaStorep
namespace Go.Proofs.Ytcncpefdjgnhdaa
open Go.ChangeShapes Go.WideShapes Go.ChangeAt Go.RowKit
attribute [local go_sem ↓] Go.wp_at_zero Go.wp_at_succ

set_option maxRecDepth 20000 in
set_option maxHeartbeats 4000000 in
theorem samething_lit (X : Tc) (t : Th) (lp : Option Addr) (lc : Nat) (wp : Option Addr) (wc : Nat) (fp : Option Addr) (fc : Nat) (w : World) (ho : Ok w X t) (h1 : Rd eI w lp lc t.L) (h2 : Rd eI w wp wc t.W) (h3 : Rd eW w fp fc t.F) :
    Calls Try.prog 30 #[.agg #[.int .i64 X.k, .int .i64 X.a, .int .i64 X.g, .int .i64 X.c, .int .i64 X.h, .slice X.lp X.ln X.lc, .slice X.wp X.wn X.wc, .int .u32 (X.b : Int), .slice X.fp X.fn X.fc, .int .u32 (X.s : Int)], .agg #[.int .i64 X.k, .int .i64 X.a, .int .i64 X.g, .int .i64 X.c, .int .i64 X.h, .slice lp X.ln lc, .slice wp X.wn wc, .int .u32 (X.b : Int), .slice fp X.fn fc, .int .u32 (X.s : Int)]] w fun e w' => e = .returned (.bool true) ∧ Below w.heap.size w w' := by
  obtain ⟨W, hW⟩ : ∃ W, W = (w.alloc (.cells #[.int .i64 X.k, .int .i64 X.a, .int .i64 X.g, .int .i64 X.c, .int .i64 X.h, .slice X.lp X.ln X.lc, .slice X.wp X.wn X.wc, .int .u32 (X.b : Int), .slice X.fp X.fn X.fc, .int .u32 (X.s : Int)] 56)).alloc (.cells #[.int .i64 X.k, .int .i64 X.a, .int .i64 X.g, .int .i64 X.c, .int .i64 X.h, .slice lp X.ln lc, .slice wp X.wn wc, .int .u32 (X.b : Int), .slice fp X.fn fc, .int .u32 (X.s : Int)] 56) := ⟨_, rfl⟩
  have bW : Below w.heap.size w W := by rw [hW]; exact ((Below.refl _ _).alloc (Nat.le_refl _) _).alloc (by simp) _
  have hX : Vt W w.heap.size X 56 := by rw [hW]; exact (Vt.new _ _ _).below (bel_self _ _)
  have hY : Vt W (w.heap.size + 1) ({ X with lp := lp, lc := lc, wp := wp, wc := wc, fp := fp, fc := fc } : Tc) 56 := by rw [hW]; exact heap_at (by simp)
  have HO := ho.below bW
  have hl9 := ho.l9
  have hw9 := ho.w9
  have hf9 := ho.f9
  have HLN : Hid (t.L.length = X.ln) := ho.ln
  have HWN : Hid (t.W.length = X.wn) := ho.wn
  have HFN : Hid (t.F.length = X.fn) := ho.fn
  have rL := HO.L
  have rW := HO.W
  have rF := HO.F
  have qL := h1.below bW
  have qW := h2.below bW
  have qF := h3.below bW
  clear ho HO h1 h2 h3
  go_enter Try.func30, Try.ntmps30
  go_wp2_with (first
    | (go_at_call 31; rw [← hW]; refine (samebox_yes _ _ _ _ _ _ _ _ t.L t.W _ rL rW qL qW _ _ HLN.out HWN.out (by omega) (by omega)).mono ?_; rintro e w1 ⟨rfl, b1⟩; obtain ⟨_, _, _, _, _, _, _, x7, x8, _⟩ := (hX.below b1).at; obtain ⟨_, _, _, _, _, _, _, y7, y8, _⟩ := (hY.below b1).at)
    | (go_at_call 32; refine (sameflag_yes _ _ _ _ _ t.F _ (rF.below b1) (qF.below b1) _ HFN.out (by omega)).mono ?_; rintro e w2 ⟨rfl, b2⟩))
  go_ret
  exact ⟨rfl, bel_call bW (Nat.le_refl _) (bel_call b1 (Nat.le_refl _) b2)⟩
theorem samething_yes (X Y : Tc) (t : Th) (w : World) (hx : Ok w X t) (hy : Ok w Y t) : Calls Try.prog 30 #[.agg #[.int .i64 X.k, .int .i64 X.a, .int .i64 X.g, .int .i64 X.c, .int .i64 X.h, .slice X.lp X.ln X.lc, .slice X.wp X.wn X.wc, .int .u32 (X.b : Int), .slice X.fp X.fn X.fc, .int .u32 (X.s : Int)], .agg #[.int .i64 Y.k, .int .i64 Y.a, .int .i64 Y.g, .int .i64 Y.c, .int .i64 Y.h, .slice Y.lp Y.ln Y.lc, .slice Y.wp Y.wn Y.wc, .int .u32 (Y.b : Int), .slice Y.fp Y.fn Y.fc, .int .u32 (Y.s : Int)]] w fun e w' => e = .returned (.bool true) ∧ Below w.heap.size w w' := by
  have h := samething_lit X t Y.lp Y.lc Y.wp Y.wc Y.fp Y.fc w hx hy.L hy.W hy.F
  have e1 := hx.k.trans hy.k.symm
  have e2 := hx.a.trans hy.a.symm
  have e3 := hx.g.trans hy.g.symm
  have e4 := hx.c.trans hy.c.symm
  have e5 := hx.h.trans hy.h.symm
  have e6 := hx.ln.symm.trans hy.ln
  have e7 := hx.wn.symm.trans hy.wn
  have e8 := hx.fn.symm.trans hy.fn
  have e9 := hx.b.trans hy.b.symm
  have e10 := hx.s.trans hy.s.symm
  rw [← e1, ← e2, ← e3, ← e4, ← e5, ← e6, ← e7, ← e8, ← e9, ← e10]
  exact h
set_option maxRecDepth 20000 in
set_option maxHeartbeats 4000000 in
theorem sametable_yes (x y : Tw) (T : Tb) (w : World) (hx : Tr w x T) (hy : Tr w y T) :
    Calls Try.prog 26 #[.agg #[.slice x.gp 12 x.gc, .slice x.ip 12 x.ic, .slice x.tp 12 x.tc], .agg #[.slice y.gp 12 y.gc, .slice y.ip 12 y.ic, .slice y.tp 12 y.tc]] w fun e w' => e = .returned (.bool true) ∧ Below w.heap.size w w' := by
  obtain ⟨gp, gc, ip, ic, tp, tc⟩ := x
  obtain ⟨hp, hc, jp, jc, up, uc⟩ := y
  obtain ⟨b, o, _, e9, _⟩ := hx.thing 0 (by decide)
  obtain ⟨b2, o2, _, e92, _⟩ := hy.thing 0 (by decide)
  dsimp only at e9 e92 ⊢
  subst e9 e92
  obtain ⟨W, hW⟩ : ∃ W, W = (w.alloc (.cells #[.slice gp 12 gc, .slice ip 12 ic, .slice (some ⟨b, o, none⟩) 12 tc] 35)).alloc (.cells #[.slice hp 12 hc, .slice jp 12 jc, .slice (some ⟨b2, o2, none⟩) 12 uc] 35) := ⟨_, rfl⟩
  have bW : Below w.heap.size w W := by rw [hW]; exact ((Below.refl _ _).alloc (Nat.le_refl _) _).alloc (by simp) _
  have hX : Vw W w.heap.size ⟨gp, gc, ip, ic, some ⟨b, o, none⟩, tc⟩ 35 := by rw [hW]; exact (Vw.new _ (⟨gp, gc, ip, ic, some ⟨b, o, none⟩, tc⟩ : Tw) _).below (bel_self _ _)
  have hY : Vw W (w.heap.size + 1) ⟨hp, hc, jp, jc, some ⟨b2, o2, none⟩, uc⟩ 35 := by rw [hW]; exact heap_at (by simp)
  have tX := hx.below bW
  have tY := hy.below bW
  have sl := Slo.sameSlots_eq gp ip hp jp gc ic hc jc T.G T.I W (slo_rdI tX.G) (slo_rdB tX.I) (slo_rdI tY.G) (slo_rdB tY.I) (by rw [hx.gl]; decide) (by rw [hx.il]; decide)
  rw [hx.gl, hx.il] at sl
  go_enter Try.func26, Try.ntmps26
  go_wp2_with (go_at_call 56; rw [← hW]; refine sl.mono ?_; rintro e w1 ⟨rfl, b1⟩)
  go_loopw [5] (fun i wr => ∃ k : Nat, k ≤ 12 ∧ i = .int .i64 k ∧ Below W.heap.size W wr) (fun i _ => 12 - (intOf i).toNat)
  case atStart => exact ⟨0, Nat.zero_le _, rfl, b1⟩
  case round =>
    obtain ⟨k, hk, rfl, hbw⟩ := hrel
    clear b1
    obtain ⟨c0, c1, c2⟩ := (hX.below hbw).at
    obtain ⟨e0, e1, e2⟩ := (hY.below hbw).at
    by_cases hlt : k < 12
    · have hkI : (k : Int) < 12 := by omega
      have hkZ : (0 : Int) ≤ (k : Int) := by omega
      obtain ⟨bx, ox, X, ex, hbx, hcx, hox⟩ := tX.thing k hlt
      obtain ⟨by_, oy, Y, ey, hby, hcy, hoy⟩ := tY.thing k hlt
      cases ex
      cases ey
      generalize T.T.getD k th0 = t at *
      go_wp2
      obtain ⟨wo, hwo⟩ : ∃ wo : World, wo = wr := ⟨_, rfl⟩
      subst hwo
      refine wp_region_held_drew (S := fun w' => Below wo.heap.size wo w') (by kernel_rfl) (Below.refl _ _).drew (fun hHeld => ?_)
      refine wpAnyH_take (i := 0) (oi := _) (v := ?_) rfl (by kernel_rfl) (by kernel_rfl) (by kernel_rfl) (fun _ _ _ h => h) (Or.inl ⟨by rfl, ?_⟩) hHeld ?_
      rotate_left
      · intro w' hSw
        (go_simp <;> with_reducible rfl)
      try simp only [Act.put, List.getElem_toArray, List.getElem_cons_zero, List.setIfInBounds_toArray, List.set_cons_zero, List.set_cons_succ]
      refine wpAnyH_take (i := 1) (oi := _) (v := ?_) rfl (by kernel_rfl) (by kernel_rfl) (by kernel_rfl) (fun _ _ _ h => h) (Or.inl ⟨by rfl, ?_⟩) hHeld ?_
      rotate_left
      · intro w' hSw
        have bq := bel_call hbw (Nat.le_refl _) hSw
        obtain ⟨c0, c1, c2⟩ := (hX.below bq).at
        obtain ⟨e0, e1, e2⟩ := (hY.below bq).at
        obtain ⟨f0, f1, f2, f3, f4, f5, f6, f7, f8, f9⟩ := hcx.below bq hbx
        obtain ⟨g0, g1, g2, g3, g4, g5, g6, g7, g8, g9⟩ := hcy.below bq hby
        (go_simp <;> with_reducible rfl)
      try simp only [Act.put, List.getElem_toArray, List.getElem_cons_succ, List.getElem_cons_zero, List.setIfInBounds_toArray, List.set_cons_zero, List.set_cons_succ]
      refine wpAnyH_take (i := 2) (oi := _) (v := ?_) rfl (by kernel_rfl) (by kernel_rfl) (by kernel_rfl) (fun _ _ _ h => h) (Or.inl ⟨by rfl, ?_⟩) hHeld ?_
      rotate_left
      · intro w' hSw
        (go_simp <;> with_reducible rfl)
      try simp only [Act.put, List.getElem_toArray, List.getElem_cons_succ, List.getElem_cons_zero, List.setIfInBounds_toArray, List.set_cons_zero, List.set_cons_succ]
      refine wpAnyH_take (i := 3) (oi := _) (v := ?_) rfl (by kernel_rfl) (by kernel_rfl) (by kernel_rfl) (fun _ _ _ h => h) (Or.inl ⟨by rfl, ?_⟩) hHeld ?_
      rotate_left
      · intro w' hSw
        (go_simp <;> with_reducible rfl)
      try simp only [Act.put, List.getElem_toArray, List.getElem_cons_succ, List.getElem_cons_zero, List.setIfInBounds_toArray, List.set_cons_zero, List.set_cons_succ]
      refine wpAnyH_take (i := 4) (oi := _) (v := ?_) rfl (by kernel_rfl) (by kernel_rfl) (by kernel_rfl) (fun _ _ _ h => h) (Or.inl ⟨by rfl, ?_⟩) hHeld ?_
      rotate_left
      · intro w' hSw
        have bq := bel_call hbw (Nat.le_refl _) hSw
        obtain ⟨c0, c1, c2⟩ := (hX.below bq).at
        obtain ⟨e0, e1, e2⟩ := (hY.below bq).at
        obtain ⟨f0, f1, f2, f3, f4, f5, f6, f7, f8, f9⟩ := hcx.below bq hbx
        obtain ⟨g0, g1, g2, g3, g4, g5, g6, g7, g8, g9⟩ := hcy.below bq hby
        (go_simp <;> with_reducible rfl)
      try simp only [Act.put, List.getElem_toArray, List.getElem_cons_succ, List.getElem_cons_zero, List.setIfInBounds_toArray, List.set_cons_zero, List.set_cons_succ]
      refine wpAnyH_take (i := 5) (oi := _) (v := ?_) rfl (by kernel_rfl) (by kernel_rfl) (by kernel_rfl) (fun _ _ _ h => h) (Or.inl ⟨by rfl, ?_⟩) hHeld ?_
      rotate_left
      · intro w' hSw
        (go_simp <;> with_reducible rfl)
      try simp only [Act.put, List.getElem_toArray, List.getElem_cons_succ, List.getElem_cons_zero, List.setIfInBounds_toArray, List.set_cons_zero, List.set_cons_succ]
      refine wpAnyH_take (i := 6) (oi := _) (v := ?_) rfl (by kernel_rfl) (by kernel_rfl) (by kernel_rfl) (fun _ _ _ h => h) (Or.inl ⟨by rfl, ?_⟩) hHeld ?_
      rotate_left
      · intro w' hSw
        have bq := bel_call hbw (Nat.le_refl _) hSw
        obtain ⟨c0, c1, c2⟩ := (hX.below bq).at
        obtain ⟨e0, e1, e2⟩ := (hY.below bq).at
        obtain ⟨f0, f1, f2, f3, f4, f5, f6, f7, f8, f9⟩ := hcx.below bq hbx
        obtain ⟨g0, g1, g2, g3, g4, g5, g6, g7, g8, g9⟩ := hcy.below bq hby
        (go_simp <;> with_reducible rfl)
      try simp only [Act.put, List.getElem_toArray, List.getElem_cons_succ, List.getElem_cons_zero, List.setIfInBounds_toArray, List.set_cons_zero, List.set_cons_succ]
      refine wpAnyH_take (i := 7) (oi := _) (v := ?_) rfl (by kernel_rfl) (by kernel_rfl) (by kernel_rfl) (fun _ _ _ h => h) (Or.inl ⟨by rfl, ?_⟩) hHeld ?_
      rotate_left
      · intro w' hSw
        (go_simp <;> with_reducible rfl)
      try simp only [Act.put, List.getElem_toArray, List.getElem_cons_succ, List.getElem_cons_zero, List.setIfInBounds_toArray, List.set_cons_zero, List.set_cons_succ]
      refine wpAnyH_take (i := 8) (oi := _) (v := ?_) rfl (by kernel_rfl) (by kernel_rfl) (by kernel_rfl) (fun _ _ _ h => h) (Or.inl ⟨by rfl, ?_⟩) hHeld ?_
      rotate_left
      · intro w' hSw
        (go_simp <;> with_reducible rfl)
      try simp only [Act.put, List.getElem_toArray, List.getElem_cons_succ, List.getElem_cons_zero, List.setIfInBounds_toArray, List.set_cons_zero, List.set_cons_succ]
      refine wpAnyH_take (i := 9) (oi := _) (v := ?_) rfl (by kernel_rfl) (by kernel_rfl) (by kernel_rfl) (fun _ _ _ h => h) (Or.inl ⟨by rfl, ?_⟩) hHeld ?_
      rotate_left
      · intro w' hSw
        have bq := bel_call hbw (Nat.le_refl _) hSw
        obtain ⟨c0, c1, c2⟩ := (hX.below bq).at
        obtain ⟨e0, e1, e2⟩ := (hY.below bq).at
        obtain ⟨f0, f1, f2, f3, f4, f5, f6, f7, f8, f9⟩ := hcx.below bq hbx
        obtain ⟨g0, g1, g2, g3, g4, g5, g6, g7, g8, g9⟩ := hcy.below bq hby
        (go_simp <;> with_reducible rfl)
      try simp only [Act.put, List.getElem_toArray, List.getElem_cons_succ, List.getElem_cons_zero, List.setIfInBounds_toArray, List.set_cons_zero, List.set_cons_succ]
      refine wpAnyH_ready (rs := [10]) (by kernel_rfl) (by simp) ?_
      refine AllReadyH.cons (o := _) rfl (fun K hK => ?_) AllReadyH.nil
      go_simp
      go_at_call 30; refine (samething_yes X Y t _ (hox.below (bel_call hbw (Nat.le_refl _) hHeld)) (hoy.below (bel_call hbw (Nat.le_refl _) hHeld))).mono ?_; rintro e w2 ⟨rfl, b2'⟩; have b2 : Below wo.heap.size wo w2 := bel_call hHeld (Nat.le_refl _) b2'
      refine hK.out _ _ b2 (fun _ => ?_)
      refine wpAnyH_weaken (S' := fun w' => Below w2.heap.size w2 w') (fun w' h => bel_call b2 (Nat.le_refl _) h) _ _ _ _ ?_
      clear hHeld hK K
      have hHeld : Below w2.heap.size w2 w2 := Below.refl _ _
      try simp only [Act.put, List.getElem_toArray, List.getElem_cons_succ, List.getElem_cons_zero, List.setIfInBounds_toArray, List.set_cons_zero, List.set_cons_succ]
      refine wpAnyH_take (i := 11) (oi := _) (v := ?_) rfl (by kernel_rfl) (by kernel_rfl) (by kernel_rfl) (fun _ _ _ h => h) (Or.inl ⟨by rfl, ?_⟩) hHeld ?_
      rotate_left
      · intro w' hSw
        (go_simp <;> with_reducible rfl)
      try simp only [Act.put, List.getElem_toArray, List.getElem_cons_succ, List.getElem_cons_zero, List.setIfInBounds_toArray, List.set_cons_zero, List.set_cons_succ]
      refine wpAnyH_done (by kernel_rfl) ?_ _
      go_wp2
      go_roundw
      case rel => exact ⟨k + 1, by omega, by go_num, bel_call hbw (Nat.le_refl _) b2⟩
      case measure => simp [intOf]; omega
    · have hk12 : k = 12 := by omega
      subst hk12
      go_wp2
      go_ret
      exact ⟨rfl, bel_call bW (Nat.le_refl _) hbw⟩
/-- A row of rows that is read. -/
def Lr (w : World) (p : Option Addr) (c : Nat) (l : List (List Int)) : Prop := ∃ ss : List (Option Addr × Nat × Nat), Rd eS w p c ss ∧ ss.length = l.length ∧ ∀ (i : Nat) (h1 : i < ss.length) (h2 : i < l.length), l[i].length = ss[i].2.1 ∧ ss[i].2.1 ≤ 1000 ∧ Rd eI w ss[i].1 ss[i].2.2 l[i]
theorem Lr.below {w w' : World} {p : Option Addr} {c : Nat} {l : List (List Int)} (h : Lr w p c l) (hb : Below w.heap.size w w') : Lr w' p c l := by
  obtain ⟨ss, h1, h2, h3⟩ := h
  exact ⟨ss, h1.below hb, h2, fun i a b => ⟨(h3 i a b).1, (h3 i a b).2.1, (h3 i a b).2.2.below hb⟩⟩
set_option maxRecDepth 20000 in
set_option maxHeartbeats 4000000 in
theorem lists_yes (p : Option Addr) (c : Nat) (q : Option Addr) (d : Nat) (l : List (List Int)) (w : World) (hp : Lr w p c l) (hq : Lr w q d l) (n : Nat) (hn : l.length = n) (hn9 : n ≤ 1000) :
    Calls Try.prog 21 #[.slice p n c, .slice q n d] w fun e w' => e = .returned (.bool true) ∧ Below w.heap.size w w' := by
  obtain ⟨ss, s1, s2, s3⟩ := hp
  obtain ⟨uu, u1, u2, u3⟩ := hq
  have HN : Hid (l.length = n) := hn
  have HS : Hid (ss.length = n) := s2.trans hn
  have HU : Hid (uu.length = n) := u2.trans hn
  clear hn s2 u2
  go_enter Try.func21, Try.ntmps21
  go_wp2
  go_loopw [5] (fun i wr => ∃ k : Nat, k ≤ n ∧ i = .int .i64 k ∧ Below w.heap.size w wr) (fun i _ => n - (intOf i).toNat)
  case atStart => exact ⟨0, Nat.zero_le _, rfl, Below.refl _ _⟩
  case round =>
    obtain ⟨k, hk, rfl, hbw⟩ := hrel
    by_cases hlt : k < n
    · have hkI : (k : Int) < (n : Int) := by omega
      have hkZ : (0 : Int) ≤ (k : Int) := by omega
      have hks : k < ss.length := by rw [HS.out]; exact hlt
      have hku : k < uu.length := by rw [HU.out]; exact hlt
      have hkl : k < l.length := by rw [HN.out]; exact hlt
      obtain ⟨b, o, rfl, hb, hc⟩ := s1.row k hks
      obtain ⟨b2, o2, rfl, hb2, hc2⟩ := u1.row k hku
      obtain ⟨a1, a2, a3⟩ := s3 k hks hkl
      obtain ⟨v1, v2, v3⟩ := u3 k hku hkl
      generalize ss[k] = S at *
      generalize uu[k] = U at *
      generalize l[k] = L at *
      obtain ⟨sp, sn, sc⟩ := S
      obtain ⟨up, un, uc⟩ := U
      dsimp only at a1 a2 a3 v1 v2 v3 hc hc2
      have eun : un = sn := v1.symm.trans a1
      subst eun
      have HL : Hid (L.length = un) := a1
      clear a1 v1 v2
      go_wp2
      obtain ⟨wo, hwo⟩ : ∃ wo : World, wo = wr := ⟨_, rfl⟩
      subst hwo
      refine wp_region_held_drew (S := fun w' => Below wo.heap.size wo w') (by kernel_rfl) (Below.refl _ _).drew (fun hHeld => ?_)
      refine wpAnyH_take (i := 0) (oi := _) (v := ?_) rfl (by kernel_rfl) (by kernel_rfl) (by kernel_rfl) (fun _ _ _ h => h) (Or.inl ⟨by rfl, ?_⟩) hHeld ?_
      rotate_left
      · intro w' hSw
        (go_simp <;> with_reducible rfl)
      try simp only [Act.put, List.getElem_toArray, List.getElem_cons_zero, List.setIfInBounds_toArray, List.set_cons_zero, List.set_cons_succ]
      refine wpAnyH_take (i := 1) (oi := _) (v := ?_) rfl (by kernel_rfl) (by kernel_rfl) (by kernel_rfl) (fun _ _ _ h => h) (Or.inl ⟨by rfl, ?_⟩) hHeld ?_
      rotate_left
      · intro w' hSw
        (go_simp <;> with_reducible rfl)
      try simp only [Act.put, List.getElem_toArray, List.getElem_cons_succ, List.getElem_cons_zero, List.setIfInBounds_toArray, List.set_cons_zero, List.set_cons_succ]
      refine wpAnyH_take (i := 2) (oi := _) (v := ?_) rfl (by kernel_rfl) (by kernel_rfl) (by kernel_rfl) (fun _ _ _ h => h) (Or.inl ⟨by rfl, ?_⟩) hHeld ?_
      rotate_left
      · intro w' hSw
        (go_simp <;> with_reducible rfl)
      try simp only [Act.put, List.getElem_toArray, List.getElem_cons_succ, List.getElem_cons_zero, List.setIfInBounds_toArray, List.set_cons_zero, List.set_cons_succ]
      refine wpAnyH_take (i := 3) (oi := _) (v := ?_) rfl (by kernel_rfl) (by kernel_rfl) (by kernel_rfl) (fun _ _ _ h => h) (Or.inl ⟨by rfl, ?_⟩) hHeld ?_
      rotate_left
      · intro w' hSw
        have bq := bel_call hbw (Nat.le_refl _) hSw
        have hx := (bq.cell (p := ⟨b, o + k, none⟩) hb).trans hc
        have hx2 := (bq.cell (p := ⟨b2, o2 + k, none⟩) hb2).trans hc2
        (go_simp <;> with_reducible rfl)
      try simp only [Act.put, List.getElem_toArray, List.getElem_cons_succ, List.getElem_cons_zero, List.setIfInBounds_toArray, List.set_cons_zero, List.set_cons_succ]
      refine wpAnyH_take (i := 4) (oi := _) (v := ?_) rfl (by kernel_rfl) (by kernel_rfl) (by kernel_rfl) (fun _ _ _ h => h) (Or.inl ⟨by rfl, ?_⟩) hHeld ?_
      rotate_left
      · intro w' hSw
        (go_simp <;> with_reducible rfl)
      try simp only [Act.put, List.getElem_toArray, List.getElem_cons_succ, List.getElem_cons_zero, List.setIfInBounds_toArray, List.set_cons_zero, List.set_cons_succ]
      refine wpAnyH_take (i := 5) (oi := _) (v := ?_) rfl (by kernel_rfl) (by kernel_rfl) (by kernel_rfl) (fun _ _ _ h => h) (Or.inl ⟨by rfl, ?_⟩) hHeld ?_
      rotate_left
      · intro w' hSw
        (go_simp <;> with_reducible rfl)
      try simp only [Act.put, List.getElem_toArray, List.getElem_cons_succ, List.getElem_cons_zero, List.setIfInBounds_toArray, List.set_cons_zero, List.set_cons_succ]
      refine wpAnyH_take (i := 6) (oi := _) (v := ?_) rfl (by kernel_rfl) (by kernel_rfl) (by kernel_rfl) (fun _ _ _ h => h) (Or.inl ⟨by rfl, ?_⟩) hHeld ?_
      rotate_left
      · intro w' hSw
        (go_simp <;> with_reducible rfl)
      try simp only [Act.put, List.getElem_toArray, List.getElem_cons_succ, List.getElem_cons_zero, List.setIfInBounds_toArray, List.set_cons_zero, List.set_cons_succ]
      refine wpAnyH_take (i := 7) (oi := _) (v := ?_) rfl (by kernel_rfl) (by kernel_rfl) (by kernel_rfl) (fun _ _ _ h => h) (Or.inl ⟨by rfl, ?_⟩) hHeld ?_
      rotate_left
      · intro w' hSw
        have bq := bel_call hbw (Nat.le_refl _) hSw
        have hx := (bq.cell (p := ⟨b, o + k, none⟩) hb).trans hc
        have hx2 := (bq.cell (p := ⟨b2, o2 + k, none⟩) hb2).trans hc2
        (go_simp <;> with_reducible rfl)
      try simp only [Act.put, List.getElem_toArray, List.getElem_cons_succ, List.getElem_cons_zero, List.setIfInBounds_toArray, List.set_cons_zero, List.set_cons_succ]
      refine wpAnyH_ready (rs := [8]) (by kernel_rfl) (by simp) ?_
      refine AllReadyH.cons (o := _) rfl (fun K hK => ?_) AllReadyH.nil
      go_simp
      go_at_call 13; refine (sameints_yes _ _ _ _ L _ (a3.below (bel_call hbw (Nat.le_refl _) hHeld)) (v3.below (bel_call hbw (Nat.le_refl _) hHeld)) un HL.out (by omega)).mono ?_; rintro e w2 ⟨rfl, b2'⟩; have b2w : Below wo.heap.size wo w2 := bel_call hHeld (Nat.le_refl _) b2'
      refine hK.out _ _ b2w (fun _ => ?_)
      refine wpAnyH_weaken (S' := fun w' => Below w2.heap.size w2 w') (fun w' h => bel_call b2w (Nat.le_refl _) h) _ _ _ _ ?_
      clear hHeld hK K
      have hHeld : Below w2.heap.size w2 w2 := Below.refl _ _
      try simp only [Act.put, List.getElem_toArray, List.getElem_cons_succ, List.getElem_cons_zero, List.setIfInBounds_toArray, List.set_cons_zero, List.set_cons_succ]
      refine wpAnyH_take (i := 9) (oi := _) (v := ?_) rfl (by kernel_rfl) (by kernel_rfl) (by kernel_rfl) (fun _ _ _ h => h) (Or.inl ⟨by rfl, ?_⟩) hHeld ?_
      rotate_left
      · intro w' hSw
        (go_simp <;> with_reducible rfl)
      try simp only [Act.put, List.getElem_toArray, List.getElem_cons_succ, List.getElem_cons_zero, List.setIfInBounds_toArray, List.set_cons_zero, List.set_cons_succ]
      refine wpAnyH_done (by kernel_rfl) ?_ _
      go_wp2
      go_roundw
      case rel => exact ⟨k + 1, by omega, by go_num, bel_call hbw (Nat.le_refl _) b2w⟩
      case measure => simp [intOf]; omega
    · have hk12 : k = n := by omega
      subst hk12
      go_wp2
      go_ret
      exact ⟨rfl, hbw⟩
end Go.Proofs.Ytcncpefdjgnhdaa
