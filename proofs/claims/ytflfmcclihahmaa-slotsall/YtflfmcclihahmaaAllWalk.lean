import Derived.Test.YtflfmcclihahmaaAllState
import Derived.Test.YtflfmcclihahmaaNews
import Derived.Deep.CutRange
/-! SlotsAll: the walk of the law's function: two tables, one by package slots and one by the law's own reckoning, and one list of handles, step by step. -/
namespace Go.Proofs.Ytflfmcclihahmaa
open Go.ChangeShapes Go.WideShapes Go.ChangeAt Go.RowKit Go.Maps
attribute [local go_sem ↓] Go.wp_at_zero Go.wp_at_succ

/-- The slice of triples of bytes that begins at p reads in w as l. -/
structure Rd3 (w : World) (p : Option Addr) (l : List (Int × Int × Int)) : Prop where
  at_ : l ≠ [] → ∃ b o, p = some ⟨b, o, none⟩ ∧ ∀ i (h : i < l.length), w.cell? ⟨b, o + i * 3, none⟩ = some (.int .u8 l[i].1) ∧ w.cell? ⟨b, o + i * 3 + 1, none⟩ = some (.int .u8 l[i].2.1) ∧ w.cell? ⟨b, o + i * 3 + 2, none⟩ = some (.int .u8 l[i].2.2)
  bd : ∀ x ∈ l, (0 ≤ x.1 ∧ x.1 ≤ 255) ∧ (0 ≤ x.2.1 ∧ x.2.1 ≤ 255) ∧ (0 ≤ x.2.2 ∧ x.2.2 ≤ 255)
theorem Rd3.below {w w' : World} {p : Option Addr} {l : List (Int × Int × Int)} (h : Rd3 w p l) (hb : Below w.heap.size w w') : Rd3 w' p l :=
  ⟨fun hl => by
    obtain ⟨b, o, e, hc⟩ := h.at_ hl
    exact ⟨b, o, e, fun i hi => ⟨(hb.cell (p := ⟨b, o + i * 3, none⟩) (lt_of_cell (hc i hi).1)).trans (hc i hi).1, (hb.cell (p := ⟨b, o + i * 3 + 1, none⟩) (lt_of_cell (hc i hi).2.1)).trans (hc i hi).2.1, (hb.cell (p := ⟨b, o + i * 3 + 2, none⟩) (lt_of_cell (hc i hi).2.2)).trans (hc i hi).2.2⟩⟩, h.bd⟩

theorem quad_far_drew {w' : World} {B0 B1 : Nat} {x y z t : Value} (h : w'.drew.cell? ⟨B0, 0, none⟩ = some x ∧ w'.drew.cell? ⟨B0, 1, none⟩ = some y ∧ w'.drew.cell? ⟨B1, 0, none⟩ = some z ∧ w'.drew.cell? ⟨B1, 1, none⟩ = some t) {B : Nat} (h0 : B ≠ B0) (h1 : B ≠ B1) (u v : Value) :
    ((w'.setCell ⟨B, 0, none⟩ u).setCell ⟨B, 1, none⟩ v).drew.cell? ⟨B0, 0, none⟩ = some x ∧ ((w'.setCell ⟨B, 0, none⟩ u).setCell ⟨B, 1, none⟩ v).drew.cell? ⟨B0, 1, none⟩ = some y ∧ ((w'.setCell ⟨B, 0, none⟩ u).setCell ⟨B, 1, none⟩ v).drew.cell? ⟨B1, 0, none⟩ = some z ∧ ((w'.setCell ⟨B, 0, none⟩ u).setCell ⟨B, 1, none⟩ v).drew.cell? ⟨B1, 1, none⟩ = some t :=
  have p := pair_far (w' := w') (o1 := 0) (o2 := 1) ⟨h.1, h.2.1⟩ h0 u v
  have q := pair_far (w' := w') (o1 := 0) (o2 := 1) ⟨h.2.2.1, h.2.2.2⟩ h1 u v
  ⟨p.1, p.2, q.1, q.2⟩
theorem wf_took {gs : List Int} {bs : List Bool} {k : Nat} (hk : k ≤ 60) (hl : gs.length ≤ 64) (h : ∀ g ∈ gs, 0 ≤ g ∧ g ≤ (k : Int)) : (Lit.int .i64 (tAt gs bs)).wf = true ∧ (Lit.int .i64 (tGen gs bs)).wf = true := by
  cases hf : freeIn gs bs with
  | none =>
    have e1 : tAt gs bs = 0 := by unfold tAt; rw [hf]
    have e2 : tGen gs bs = 0 := by unfold tGen; rw [hf]
    rw [e1, e2]; exact ⟨by decide, by decide⟩
  | some j =>
    have hj := (freeIn_lt hf).1
    have h2 := h gs[j] (List.getElem_mem hj)
    have e1 : tAt gs bs = j := by unfold tAt; rw [hf]
    have e2 : tGen gs bs = gs[j] + 1 := by unfold tGen; rw [hf]; simp [hj]
    rw [e1, e2]
    exact ⟨wf_nat (by omega), wf_of (by omega)⟩

set_option maxRecDepth 10000 in
set_option maxHeartbeats 4000000 in
theorem all_walk (x : Int) (p1 : Option Addr) (c1 n : Nat) (L : List (Int × Int × Int)) (a g : Int) (w : World) (hl : Rd3 w p1 L) (hn : n = L.length) (hnx : n ≤ 9223372036854775807) (ha : (Lit.int .i64 a).wf = true) (hgw : (Lit.int .i64 g).wf = true) :
    Calls Try.prog 3 #[.int .i64 x, .slice p1 n c1, .agg #[.int .i64 a, .int .i64 g]] w fun e w' => e = .returned (.bool true) ∧ Below w.heap.size w w' := by
  have HN : Hid (n = L.length) := hn
  clear hn
  by_cases h60 : 60 < n
  · have d : decide (60 < n) = true := by simpa using h60
    go_enter Try.func3, Try.ntmps3
    go_wp2_with (go_at_call 7; refine (begun_any _).mono ?_; rintro e w1 ⟨rfl, hb1⟩)
    go_ret
    exact ⟨rfl, bel_call (bel1 _ _) (Nat.le_refl _) hb1⟩
  have d60 : decide (60 < n) = false := by simpa using h60
  have hn60 : n ≤ 60 := by omega
  clear hnx h60
  obtain ⟨N, hN⟩ : ∃ N : Nat, newN x = N := ⟨_, rfl⟩
  have hN64 : N ≤ 64 := by rw [← hN]; exact newN_le x
  have HNN : Hid (newN x = N) := hN
  clear hN
  go_enter Try.func3, Try.ntmps3
  go_wp2_with (first
    | (go_at_call 7; refine (begun_any _).mono ?_; rintro e w1 ⟨rfl, hb1⟩)
    | (go_at_call 8; refine (new_n x N _ HNN.out).mono ?_; rintro e w2 ⟨gp0, gc0, ip0, ic0, rfl, hs0, hb2⟩)
    | (go_at_call 9; refine (newSlots_n x N _ HNN.out).mono ?_; rintro e w3 ⟨gq0, gd0, iq0, id0, rfl, hq0, hb3⟩))
  have hh3 : At2 w3 w.heap.size (.int .i64 a) (.int .i64 g) := (((At2.new w _ _ _).below hb1).below hb2).below hb3
  have hW3 : Below w.heap.size w w3 := bel_call (bel_call (bel_call (bel1 w _) (Nat.le_refl _) hb1) (Nat.le_refl _) hb2) (Nat.le_refl _) hb3
  have hst0 : St2 w ((w3.alloc (Obj.cells #[Value.slice gp0 N gc0, Value.slice ip0 N ic0] 29)).alloc (Obj.cells #[Value.slice gq0 N gd0, Value.slice iq0 N id0] 31)) w3.heap.size N 0 a g gp0 gc0 ip0 ic0 gq0 gd0 iq0 id0 (List.replicate N 0) (List.replicate N false) [] none 0 0 :=
    ⟨by simp [go_sem], by simp [go_sem], by simp [go_sem], by simp [go_sem], fun o => by simp [go_sem], fun o => by simp [go_sem], hh3.below (bel2 _ _ _), (hs0.sl.below hb3).below (bel2 _ _ _), hq0.sl.below (bel2 _ _ _), fun g hg => by simp at hg; omega, rfl, Nat.le_refl _, fun x hx => by simp at hx, World.ownsRow_nil _ _ _ _, bel_call hW3 (Nat.le_refl _) (bel2 _ _ _), hh3.lt⟩
  clear hs0 hq0 hb1 hb2 hb3 hh3 hW3 HNN
  generalize ((w3.alloc (Obj.cells #[Value.slice gp0 N gc0, Value.slice ip0 N ic0] 29)).alloc (Obj.cells #[Value.slice gq0 N gd0, Value.slice iq0 N id0] 31)) = W0 at *
  generalize w3.heap.size = S at *
  go_loopw [9, 10] (fun tv i wr => ∃ k : Nat, k ≤ n ∧ i = .int .i64 k ∧ ∃ gp gc ip ic gq gd iq id gs bs told tp tc T, tv = .slice tp T tc ∧ St2 w wr S N k a g gp gc ip ic gq gd iq id gs bs told tp tc T) (fun _ i _ => n - (intOf i).toNat)
  case atStart => exact ⟨0, Nat.zero_le _, rfl, _, _, _, _, _, _, _, _, _, _, _, _, _, _, rfl, hst0⟩
  case round =>
    obtain ⟨k, hk, rfl, gp, gc, ip, ic, gq, gd, iq, id, gs, bs, told, tp, tc, T, rfl, hst⟩ := hrel
    clear hst0
    by_cases hlt : k < n
    · have hkl : k < L.length := by rw [← HN.out]; exact hlt
      obtain ⟨b, o, rfl, hcc⟩ := (hl.below hst.bw).at_ (by intro e; simp [e] at hkl)
      have hck := hcc k hkl
      have hzb := hl.bd L[k] (List.getElem_mem hkl)
      obtain ⟨v0, hv0⟩ : ∃ z, L[k].1 = z := ⟨_, rfl⟩
      obtain ⟨v1, hv1⟩ : ∃ z, L[k].2.1 = z := ⟨_, rfl⟩
      obtain ⟨v2, hv2⟩ : ∃ z, L[k].2.2 = z := ⟨_, rfl⟩
      rw [hv0, hv1, hv2] at hck hzb
      obtain ⟨⟨i0, i1⟩, ⟨i2, i3⟩, ⟨i4, i5⟩⟩ := hzb
      obtain ⟨l0, l1, l2⟩ := hck
      clear hcc hv0 hv1 hv2
      have zk0 : (0 : Int) ≤ (k : Int) := by omega
      have zk : (k : Int) < (n : Int) := by omega
      have hT : T ≤ 60 := Nat.le_trans hst.tk (by omega)
      have ew1 : IntKind.i64.wrap (v1.tmod 9) = v1 % 9 := by rw [Int.tmod_eq_emod_of_nonneg i2, IntKind.wrap_i64]; omega
      have ew2 : IntKind.i64.wrap (v2.tmod 5) = v2 % 5 := by rw [Int.tmod_eq_emod_of_nonneg i4, IntKind.wrap_i64]; omega
      obtain ⟨xa0, hxa0⟩ : ∃ z, IntKind.i64.wrap (v1.tmod 9) = z := ⟨_, rfl⟩
      obtain ⟨xg0, hxg0⟩ : ∃ z, IntKind.i64.wrap (v2.tmod 5) = z := ⟨_, rfl⟩
      have wxa0 : (Lit.int .i64 xa0).wf = true := wf_of (by omega)
      have wxg0 : (Lit.int .i64 xg0).wf = true := wf_of (by omega)
      clear ew1 ew2
      go_wp2
      go_region_held3 (fun w' => w'.cell? ⟨b, o + k * 3 + 1, none⟩ = some (.int .u8 v1) ∧ w'.cell? ⟨b, o + k * 3 + 2, none⟩ = some (.int .u8 v2))
        ((first | with_reducible (exact ⟨((bel1 wr _).cell (p := ⟨b, o + k * 3 + 1, none⟩) (lt_of_cell l1)).trans l1, ((bel1 wr _).cell (p := ⟨b, o + k * 3 + 2, none⟩) (lt_of_cell l2)).trans l2⟩) | exact ⟨((bel1 wr _).drew.cell (p := ⟨b, o + k * 3 + 1, none⟩) (lt_of_cell l1)).trans l1, ((bel1 wr _).drew.cell (p := ⟨b, o + k * 3 + 2, none⟩) (lt_of_cell l2)).trans l2⟩ | exact ⟨l1, l2⟩))
        (fail)
      clear hxa0 hxg0
      have hX : At2 (wr.alloc (Obj.cells #[.int .i64 xa0, .int .i64 xg0] 24)).drew wr.heap.size (.int .i64 xa0) (.int .i64 xg0) := (At2.new wr (.int .i64 xa0) (.int .i64 xg0) 24).below (Below.refl _ _).drew
      have hB1 : Below wr.heap.size wr (wr.alloc (Obj.cells #[.int .i64 xa0, .int .i64 xg0] 24)).drew := (bel1 wr _).drew
      have fX : ∀ o, (wr.alloc (Obj.cells #[.int .i64 xa0, .int .i64 xg0] 24)).drew.frozen? ⟨wr.heap.size, o, none⟩ = false := fun o => by simp [go_sem]
      generalize (wr.alloc (Obj.cells #[.int .i64 xa0, .int .i64 xg0] 24)).drew = W1 at *
      have hst1 := hst.below hB1
      have l0' := (hB1.cell (p := ⟨b, o + k * 3, none⟩) (lt_of_cell l0)).trans l0
      have l1' := (hB1.cell (p := ⟨b, o + k * 3 + 1, none⟩) (lt_of_cell l1)).trans l1
      clear l1 l2
      obtain ⟨vm, hvm⟩ : ∃ z, v0 % 4 = z := ⟨_, rfl⟩
      have hvb : 0 ≤ vm ∧ vm ≤ 3 := by omega
      have hl0 : W1.cell? ⟨b, o + k * 3, none⟩ = some (.int .u8 v0) := l0'
      refine ‹∀ (a : Act) (w : World), Code.wp Try.prog _ _ a w → _› _ _ ?_
      refine wp_seq_k ?_
      intro K2 hK2
      go_cut [] from 33 to 170 (fun wx => ∃ xa xg : Int, (Lit.int .i64 xa).wf = true ∧ (Lit.int .i64 xg).wf = true ∧ At2 wx wr.heap.size (.int .i64 xa) (.int .i64 xg) ∧ Below wr.heap.size wr wx)
      case first =>
        by_cases hT0 : 0 < T
        · have dT : decide (0 < T) = true := by simpa using hT0
          by_cases hv2 : vm = 2
          · have dv : (vm == 2) = true := by simpa using hv2
            obtain ⟨kk, hkk⟩ : ∃ kk : Nat, v1 % (T : Int) = kk := ⟨(v1 % (T : Int)).toNat, by have := Int.emod_nonneg v1 (show (T : Int) ≠ 0 by omega); omega⟩
            have hkT : kk < T := by have := Int.emod_lt_of_pos v1 (show (0 : Int) < (T : Int) by omega); omega
            obtain ⟨tb0, etp, htb0, htl0, _, htc0⟩ := owns_cells hst1.ot hT0
            cases etp
            have hkt : kk < told.length := by rw [← hst.tl]; exact hkT
            have hfl := flat_at told kk hkt
            have e0 := htc0 _ _ hfl.1
            have e1 := htc0 _ _ hfl.2
            have htw := hst.tw told[kk] (List.getElem_mem hkt)
            have z0' : (kk : Int) < (T : Int) := by omega
            have z1' : (0 : Int) ≤ (kk : Int) := by omega
            generalize told[kk].1 = ya at *
            generalize told[kk].2 = yg at *
            have hXx := hX.1
            have hXy := hX.2
            clear htc0 hfl hv2
            go_wp2
            go_meet
            case rel => exact ⟨ya, yg, htw.1, htw.2, ⟨by simp [go_sem, hXx], by simp [go_sem, hXy]⟩, (hB1.setCell (p := ⟨wr.heap.size, 0, none⟩) (Nat.le_refl _) _).setCell (p := ⟨wr.heap.size, 1, none⟩) (Nat.le_refl _) _⟩
          · have dv : (vm == 2) = false := by simpa using hv2
            clear hv2
            go_wp2
            go_meet
            case rel => exact ⟨xa0, xg0, wxa0, wxg0, hX, hB1⟩
        · have dT : decide (0 < T) = false := by simpa using hT0
          go_wp2
          go_meet
          case rel => exact ⟨xa0, xg0, wxa0, wxg0, hX, hB1⟩
      case rest =>
        obtain ⟨xa, xg, wxa, wxg, hXc, hBc⟩ := hcut
        clear hst1 hX fX l0' l1' hl0 hB1
        have hstc := hst.below hBc
        have lc0 := (hBc.cell (p := ⟨b, o + k * 3, none⟩) (lt_of_cell l0)).trans l0
        have hSl : S < wr.heap.size := lt_of_cell hst.a0
        have hSl1 : S + 1 < wr.heap.size := lt_of_cell hst.b0
        have q0 := hstc.a0
        have q1 := hstc.a1
        have q2 := hstc.b0
        have q3 := hstc.b1
        have hsc := hBc.size
        have lS : S < wc.heap.size := by omega
        have lS1 : S + 1 < wc.heap.size := by omega
        obtain ⟨i24, hi24, hz24, hs24, hy24⟩ := info_parts Try.info24
        have rt : ∀ b, (Value.slice tp T tc).ownBlock = some b → S + 2 ≤ b ∧ b < wr.heap.size := fun b h => hst.ot.lt b h
        refine hK2 _ _ ?_
        refine wp_seq_k ?_
        intro K3 hK3
        go_cut [9, 12, 13, 14, 15, 16, 17, 18, 19, 20, 21] from 33 to 170 (fun tv _ _ _ _ _ _ _ _ _ _ wx => ∃ gp' gc' ip' ic' gq' gd' iq' id' gs' bs' told' tp' tc' T', tv = .slice tp' T' tc' ∧ St2 w wx S N (k + 1) a g gp' gc' ip' ic' gq' gd' iq' id' gs' bs' told' tp' tc' T' ∧ At2 wx wr.heap.size (.int .i64 xa) (.int .i64 xg) ∧ wr.heap.size ≤ wx.heap.size)
        case first =>
          by_cases hv2 : vm < 2
          · have dv2 : decide (vm < 2) = true := by simpa using hv2
            obtain ⟨at_, hat⟩ : ∃ z, tAt gs bs = z := ⟨_, rfl⟩
            obtain ⟨gen, hgen⟩ : ∃ z, tGen gs bs = z := ⟨_, rfl⟩
            have HAT : Hid (tAt gs bs = at_) := hat
            have HGEN : Hid (tGen gs bs = gen) := hgen
            clear hat hgen
            cases hfr : freeIn gs bs with
            | some kf =>
              have HOK : Hid (tOk gs bs = true) := (by unfold tOk; rw [hfr]; rfl : tOk gs bs = true)
              clear hfr
              go_wp2_with (first
                | (go_at_call 10; refine (take_n gp ip gc ic N N gs bs (tg gs bs) (tb gs bs) at_ gen true _ hstc.sa rfl rfl HAT.out HGEN.out HOK.out (small_bd (by omega) (tg_bd hst.bd bs))).mono ?_; rintro e w3 ⟨gp3, gc3, ip3, ic3, rfl, hs3, hb3⟩; have r0 := (hb3.cell (p := ⟨S + 1, 0, none⟩) lS1).trans q2; have r1 := (hb3.cell (p := ⟨S + 1, 1, none⟩) lS1).trans q3; have m1 : S + 1 < w3.heap.size := Nat.lt_of_lt_of_le lS1 hb3.size; have m2 : S + 1 < w3.heap.size + 1 := Nat.lt_succ_of_lt m1)
                | (go_at_call 11; refine (takeSlot_n gq iq gd id N N gs bs (tg gs bs) (tb gs bs) at_ gen true _ ((hstc.sb.below hb3).below (bel2 _ _ _)) rfl rfl HAT.out HGEN.out HOK.out (small_bd (by omega) (tg_bd hst.bd bs))).mono ?_; rintro e w4 ⟨gp4, gc4, ip4, ic4, rfl, hs4, hb4⟩; have u4 := (At2.new1 w3 (.slice gp3 N gc3) (.slice ip3 N ic3) 29 (Obj.cells #[.int .i64 at_, .int .i64 gen] 24)).below hb4; have g4 := (At2.new2 w3 (Obj.cells #[Value.slice gp3 N gc3, Value.slice ip3 N ic3] 29) (.int .i64 at_) (.int .i64 gen) 24).below hb4; have g4x := g4.1; have g4y := g4.2; have u4x := u4.1; have u4y := u4.2; have g4l := g4.lt; have g4m := g4.lt1; have u4l := u4.lt; have u4m := u4.lt1))
              have hVb : Below wr.heap.size wr ((w4.alloc (Obj.cells #[Value.slice gp4 N gc4, Value.slice ip4 N ic4] 31)).alloc (Obj.cells #[.int .i64 at_, .int .i64 gen] 24)) := bel_call (bel_call (bel_call (bel_call hBc (Nat.le_refl _) hb3) (Nat.le_refl _) (bel2 w3 _ _)) (Nat.le_refl _) hb4) (Nat.le_refl _) (bel2 w4 _ _)
              have su : SlO ((w4.alloc (Obj.cells #[Value.slice gp4 N gc4, Value.slice ip4 N ic4] 31)).alloc (Obj.cells #[.int .i64 at_, .int .i64 gen] 24)) wr.heap.size gp3 gc3 ip3 ic3 N N (tg gs bs) (tb gs bs) := ((((hs3.below (bel2 w3 _ _)).below hb4).below (bel2 w4 _ _)).mono hsc)
              have sv : SlO ((w4.alloc (Obj.cells #[Value.slice gp4 N gc4, Value.slice ip4 N ic4] 31)).alloc (Obj.cells #[.int .i64 at_, .int .i64 gen] 24)) wr.heap.size gp4 gc4 ip4 ic4 N N (tg gs bs) (tb gs bs) := ((hs4.below (bel2 w4 _ _)).mono (by simp; have := hb3.size; omega))
              have uV : At2 ((w4.alloc (Obj.cells #[Value.slice gp4 N gc4, Value.slice ip4 N ic4] 31)).alloc (Obj.cells #[.int .i64 at_, .int .i64 gen] 24)) w3.heap.size (.slice gp3 N gc3) (.slice ip3 N ic3) := u4.below (bel2 w4 _ _)
              have vV : At2 ((w4.alloc (Obj.cells #[Value.slice gp4 N gc4, Value.slice ip4 N ic4] 31)).alloc (Obj.cells #[.int .i64 at_, .int .i64 gen] 24)) w4.heap.size (.slice gp4 N gc4) (.slice ip4 N ic4) := At2.new1 w4 _ _ _ _
              have xV : At2 ((w4.alloc (Obj.cells #[Value.slice gp4 N gc4, Value.slice ip4 N ic4] 31)).alloc (Obj.cells #[.int .i64 at_, .int .i64 gen] 24)) wr.heap.size (.int .i64 xa) (.int .i64 xg) := (((hXc.below hb3).below (bel2 w3 _ _)).below hb4).below (bel2 w4 _ _)
              have kV : At2 ((w4.alloc (Obj.cells #[Value.slice gp4 N gc4, Value.slice ip4 N ic4] 31)).alloc (Obj.cells #[.int .i64 at_, .int .i64 gen] 24)) (w4.heap.size + 1) (.int .i64 at_) (.int .i64 gen) := At2.new2 w4 _ _ _ _
              have hz3 := hb3.size
              have hz4 := hb4.size
              have nz : wc.heap.size ≤ w3.heap.size ∧ w3.heap.size + 1 ≤ w4.heap.size := by simp at hz4; omega
              have p0 : S ≠ w3.heap.size := by omega
              have p1 : S ≠ w4.heap.size := by omega
              have p2 : S + 1 ≠ w3.heap.size := by omega
              have p3 : S + 1 ≠ w4.heap.size := by omega
              have p4 : S ≠ wr.heap.size := by omega
              have p5 : S + 1 ≠ wr.heap.size := by omega
              have p6 : S ≠ w4.heap.size + 1 := by omega
              have p7 : S + 1 ≠ w4.heap.size + 1 := by omega
              clear hs3 hs4 u4 g4 g4x g4y u4x u4y g4l g4m u4l u4m r0 r1 m1 m2 q0 q1 q2 q3 lc0 lS lS1
              generalize ((w4.alloc (Obj.cells #[Value.slice gp4 N gc4, Value.slice ip4 N ic4] 31)).alloc (Obj.cells #[.int .i64 at_, .int .i64 gen] 24)) = V at *
              generalize w3.heap.size = U at *
              generalize w4.heap.size = Q at *
              have hstV := hst.below hVb
              have c0 := hstV.a0
              have c1' := hstV.a1
              have c2 := hstV.b0
              have c3 := hstV.b1
              have cf := hstV.fa
              have cg := hstV.fb
              have u0 := uV.1
              have u1 := uV.2
              have v0' := vV.1
              have v1' := vV.2
              go_region_held3 (fun w' => w'.cell? ⟨U, 0, none⟩ = some (.slice gp3 N gc3) ∧ w'.cell? ⟨U, 1, none⟩ = some (.slice ip3 N ic3) ∧ w'.cell? ⟨Q, 0, none⟩ = some (.slice gp4 N gc4) ∧ w'.cell? ⟨Q, 1, none⟩ = some (.slice ip4 N ic4))
                ((first | with_reducible (exact quad_far_drew ‹World.cell? _ _ = _ ∧ World.cell? _ _ = _ ∧ World.cell? _ _ = _ ∧ World.cell? _ _ = _› p0 p1 _ _) | with_reducible (exact quad_far_drew ‹World.cell? _ _ = _ ∧ World.cell? _ _ = _ ∧ World.cell? _ _ = _ ∧ World.cell? _ _ = _› p2 p3 _ _) | exact ⟨u0, u1, v0', v1'⟩))
                (fail)
              have hmv := st2_move hst hVb su sv (tg_bd hst.bd bs)
              have hs2 := hmv.1.below (Below.refl _ _).drew
              have su2 := hmv.2.1.below (Below.refl _ _).drew
              have sv2 := hmv.2.2.below (Below.refl _ _).drew
              have x2 := (at2_set (at2_set xV p4 0 1 (.slice gp3 N gc3) (.slice ip3 N ic3)) p5 0 1 (.slice gp4 N gc4) (.slice ip4 N ic4)).below (Below.refl _ _).drew
              have k2 := (at2_set (at2_set kV p6 0 1 (.slice gp3 N gc3) (.slice ip3 N ic3)) p7 0 1 (.slice gp4 N gc4) (.slice ip4 N ic4)).below (Below.refl _ _).drew
              have k2x := k2.1
              have k2y := k2.2
              have k2l := k2.lt
              clear kV
              have hzV : wr.heap.size ≤ ((((V.setCell ⟨S, 0, none⟩ (Value.slice gp3 N gc3)).setCell ⟨S, 1, none⟩ (Value.slice ip3 N ic3)).setCell ⟨S + 1, 0, none⟩ (Value.slice gp4 N gc4)).setCell ⟨S + 1, 1, none⟩ (Value.slice ip4 N ic4)).drew.heap.size := by have := hVb.size; simpa [World.setCell] using this
              clear hmv su sv uV vV xV hstV c0 c1' c2 c3 cf cg u0 u1 v0' v1'
              generalize ((((V.setCell ⟨S, 0, none⟩ (Value.slice gp3 N gc3)).setCell ⟨S, 1, none⟩ (Value.slice ip3 N ic3)).setCell ⟨S + 1, 0, none⟩ (Value.slice gp4 N gc4)).setCell ⟨S + 1, 1, none⟩ (Value.slice ip4 N ic4)).drew = V2 at *
              go_wp2_with (at_builtin; refine wpList_append_lies _ rfl (.tmp 108) (.tmp 110) 33 rfl (S + 2) 24 i24 (.agg #[.int .i64 0, .int .i64 0]) 2 16 Try.underlying33 hi24 hz24 hs24 hy24 rfl (by decide) (.slice tp T tc) T (flat told) rfl (hs2.ot.alloc _) ⟨V2.heap.size, 0, none⟩ 1 1 [.int .i64 at_, .int .i64 gen] rfl rfl (news2 _ _ _ _ _ rfl) (two_ints _ _) (by decide) (by unfold maxLen; omega) (by omega) (by have := lt_of_cell hs2.b0; simp; omega) (V2.heap.size + 1) (by simp) ?_; intro tbk tc5 w5 hot5 hgr5 hat5 hlt5)
              go_meet
              case rel =>
                have hw := wf_took (gs := gs) (bs := bs) (k := k) (by omega) (by rw [← hst.sa.gl]; exact hN64) hst.bd
                rw [HAT.out, HGEN.out] at hw
                refine ⟨gp3, gc3, ip3, ic3, gp4, gc4, ip4, ic4, tg gs bs, tb gs bs, told ++ [(at_, gen)], some ⟨tbk, 0, none⟩, tc5, T + 1, rfl, st2_app hs2 hst.tk su2 sv2 (fun b h => (rt b h).2) hgr5 hot5 hw.1 hw.2, at2_grown (x2.below (bel1 _ _)) hgr5 (fun e => by have := rt _ e.symm; omega), ?_⟩
                have := hgr5.size
                simp at this
                omega
            | none =>
              have HOK : Hid (tOk gs bs = false) := (by unfold tOk; rw [hfr]; rfl : tOk gs bs = false)
              clear hfr
              go_wp2_with (first
                | (go_at_call 10; refine (take_n gp ip gc ic N N gs bs (tg gs bs) (tb gs bs) at_ gen false _ hstc.sa rfl rfl HAT.out HGEN.out HOK.out (small_bd (by omega) (tg_bd hst.bd bs))).mono ?_; rintro e w3 ⟨gp3, gc3, ip3, ic3, rfl, hs3, hb3⟩; have r0 := (hb3.cell (p := ⟨S + 1, 0, none⟩) lS1).trans q2; have r1 := (hb3.cell (p := ⟨S + 1, 1, none⟩) lS1).trans q3; have m1 : S + 1 < w3.heap.size := Nat.lt_of_lt_of_le lS1 hb3.size; have m2 : S + 1 < w3.heap.size + 1 := Nat.lt_succ_of_lt m1)
                | (go_at_call 11; refine (takeSlot_n gq iq gd id N N gs bs (tg gs bs) (tb gs bs) at_ gen false _ ((hstc.sb.below hb3).below (bel2 _ _ _)) rfl rfl HAT.out HGEN.out HOK.out (small_bd (by omega) (tg_bd hst.bd bs))).mono ?_; rintro e w4 ⟨gp4, gc4, ip4, ic4, rfl, hs4, hb4⟩; have u4 := (At2.new1 w3 (.slice gp3 N gc3) (.slice ip3 N ic3) 29 (Obj.cells #[.int .i64 at_, .int .i64 gen] 24)).below hb4; have g4 := (At2.new2 w3 (Obj.cells #[Value.slice gp3 N gc3, Value.slice ip3 N ic3] 29) (.int .i64 at_) (.int .i64 gen) 24).below hb4; have g4x := g4.1; have g4y := g4.2; have u4x := u4.1; have u4y := u4.2; have g4l := g4.lt; have g4m := g4.lt1; have u4l := u4.lt; have u4m := u4.lt1))
              have hVb : Below wr.heap.size wr ((w4.alloc (Obj.cells #[Value.slice gp4 N gc4, Value.slice ip4 N ic4] 31)).alloc (Obj.cells #[.int .i64 at_, .int .i64 gen] 24)) := bel_call (bel_call (bel_call (bel_call hBc (Nat.le_refl _) hb3) (Nat.le_refl _) (bel2 w3 _ _)) (Nat.le_refl _) hb4) (Nat.le_refl _) (bel2 w4 _ _)
              have su : SlO ((w4.alloc (Obj.cells #[Value.slice gp4 N gc4, Value.slice ip4 N ic4] 31)).alloc (Obj.cells #[.int .i64 at_, .int .i64 gen] 24)) wr.heap.size gp3 gc3 ip3 ic3 N N (tg gs bs) (tb gs bs) := ((((hs3.below (bel2 w3 _ _)).below hb4).below (bel2 w4 _ _)).mono hsc)
              have sv : SlO ((w4.alloc (Obj.cells #[Value.slice gp4 N gc4, Value.slice ip4 N ic4] 31)).alloc (Obj.cells #[.int .i64 at_, .int .i64 gen] 24)) wr.heap.size gp4 gc4 ip4 ic4 N N (tg gs bs) (tb gs bs) := ((hs4.below (bel2 w4 _ _)).mono (by simp; have := hb3.size; omega))
              have uV : At2 ((w4.alloc (Obj.cells #[Value.slice gp4 N gc4, Value.slice ip4 N ic4] 31)).alloc (Obj.cells #[.int .i64 at_, .int .i64 gen] 24)) w3.heap.size (.slice gp3 N gc3) (.slice ip3 N ic3) := u4.below (bel2 w4 _ _)
              have vV : At2 ((w4.alloc (Obj.cells #[Value.slice gp4 N gc4, Value.slice ip4 N ic4] 31)).alloc (Obj.cells #[.int .i64 at_, .int .i64 gen] 24)) w4.heap.size (.slice gp4 N gc4) (.slice ip4 N ic4) := At2.new1 w4 _ _ _ _
              have xV : At2 ((w4.alloc (Obj.cells #[Value.slice gp4 N gc4, Value.slice ip4 N ic4] 31)).alloc (Obj.cells #[.int .i64 at_, .int .i64 gen] 24)) wr.heap.size (.int .i64 xa) (.int .i64 xg) := (((hXc.below hb3).below (bel2 w3 _ _)).below hb4).below (bel2 w4 _ _)
              have kV : At2 ((w4.alloc (Obj.cells #[Value.slice gp4 N gc4, Value.slice ip4 N ic4] 31)).alloc (Obj.cells #[.int .i64 at_, .int .i64 gen] 24)) (w4.heap.size + 1) (.int .i64 at_) (.int .i64 gen) := At2.new2 w4 _ _ _ _
              have hz3 := hb3.size
              have hz4 := hb4.size
              have nz : wc.heap.size ≤ w3.heap.size ∧ w3.heap.size + 1 ≤ w4.heap.size := by simp at hz4; omega
              have p0 : S ≠ w3.heap.size := by omega
              have p1 : S ≠ w4.heap.size := by omega
              have p2 : S + 1 ≠ w3.heap.size := by omega
              have p3 : S + 1 ≠ w4.heap.size := by omega
              have p4 : S ≠ wr.heap.size := by omega
              have p5 : S + 1 ≠ wr.heap.size := by omega
              have p6 : S ≠ w4.heap.size + 1 := by omega
              have p7 : S + 1 ≠ w4.heap.size + 1 := by omega
              clear hs3 hs4 u4 g4 g4x g4y u4x u4y g4l g4m u4l u4m r0 r1 m1 m2 q0 q1 q2 q3 lc0 lS lS1
              generalize ((w4.alloc (Obj.cells #[Value.slice gp4 N gc4, Value.slice ip4 N ic4] 31)).alloc (Obj.cells #[.int .i64 at_, .int .i64 gen] 24)) = V at *
              generalize w3.heap.size = U at *
              generalize w4.heap.size = Q at *
              have hstV := hst.below hVb
              have c0 := hstV.a0
              have c1' := hstV.a1
              have c2 := hstV.b0
              have c3 := hstV.b1
              have cf := hstV.fa
              have cg := hstV.fb
              have u0 := uV.1
              have u1 := uV.2
              have v0' := vV.1
              have v1' := vV.2
              go_region_held3 (fun w' => w'.cell? ⟨U, 0, none⟩ = some (.slice gp3 N gc3) ∧ w'.cell? ⟨U, 1, none⟩ = some (.slice ip3 N ic3) ∧ w'.cell? ⟨Q, 0, none⟩ = some (.slice gp4 N gc4) ∧ w'.cell? ⟨Q, 1, none⟩ = some (.slice ip4 N ic4))
                ((first | with_reducible (exact quad_far_drew ‹World.cell? _ _ = _ ∧ World.cell? _ _ = _ ∧ World.cell? _ _ = _ ∧ World.cell? _ _ = _› p0 p1 _ _) | with_reducible (exact quad_far_drew ‹World.cell? _ _ = _ ∧ World.cell? _ _ = _ ∧ World.cell? _ _ = _ ∧ World.cell? _ _ = _› p2 p3 _ _) | exact ⟨u0, u1, v0', v1'⟩))
                (fail)
              have hmv := st2_move hst hVb su sv (tg_bd hst.bd bs)
              have hs2 := hmv.1.below (Below.refl _ _).drew
              have su2 := hmv.2.1.below (Below.refl _ _).drew
              have sv2 := hmv.2.2.below (Below.refl _ _).drew
              have x2 := (at2_set (at2_set xV p4 0 1 (.slice gp3 N gc3) (.slice ip3 N ic3)) p5 0 1 (.slice gp4 N gc4) (.slice ip4 N ic4)).below (Below.refl _ _).drew
              have k2 := (at2_set (at2_set kV p6 0 1 (.slice gp3 N gc3) (.slice ip3 N ic3)) p7 0 1 (.slice gp4 N gc4) (.slice ip4 N ic4)).below (Below.refl _ _).drew
              have k2x := k2.1
              have k2y := k2.2
              have k2l := k2.lt
              clear kV
              have hzV : wr.heap.size ≤ ((((V.setCell ⟨S, 0, none⟩ (Value.slice gp3 N gc3)).setCell ⟨S, 1, none⟩ (Value.slice ip3 N ic3)).setCell ⟨S + 1, 0, none⟩ (Value.slice gp4 N gc4)).setCell ⟨S + 1, 1, none⟩ (Value.slice ip4 N ic4)).drew.heap.size := by have := hVb.size; simpa [World.setCell] using this
              clear hmv su sv uV vV xV hstV c0 c1' c2 c3 cf cg u0 u1 v0' v1'
              generalize ((((V.setCell ⟨S, 0, none⟩ (Value.slice gp3 N gc3)).setCell ⟨S, 1, none⟩ (Value.slice ip3 N ic3)).setCell ⟨S + 1, 0, none⟩ (Value.slice gp4 N gc4)).setCell ⟨S + 1, 1, none⟩ (Value.slice ip4 N ic4)).drew = V2 at *
              go_wp2
              go_meet
              case rel => exact ⟨gp3, gc3, ip3, ic3, gp4, gc4, ip4, ic4, tg gs bs, tb gs bs, told, tp, tc, T, rfl, hs2, x2, hzV⟩
          · have dv2 : decide (vm < 2) = false := by simpa using hv2
            have xx := hXc.1
            have xy := hXc.2
            go_wp2_with (first
              | (go_at_call 12; refine (free_n gp ip gc ic N N gs bs (fb gs bs xa xg) xa xg (hasM gs bs xa xg) _ hstc.sa wxa wxg rfl rfl).mono ?_; rintro e w3 ⟨gp3, gc3, ip3, ic3, rfl, hs3, hb3⟩; have r0 := (hb3.cell (p := ⟨S + 1, 0, none⟩) lS1).trans q2; have r1 := (hb3.cell (p := ⟨S + 1, 1, none⟩) lS1).trans q3; have m1 : S + 1 < w3.heap.size := Nat.lt_of_lt_of_le lS1 hb3.size; have xc0 := (hXc.below hb3).1; have xc1 := (hXc.below hb3).2; have xl := (hXc.below hb3).lt)
              | (go_at_call 13; refine (freeSlot_n gq iq gd id N N gs bs (fb gs bs xa xg) xa xg (hasM gs bs xa xg) _ ((hstc.sb.below hb3).below (bel1 _ _)) rfl rfl).mono ?_; rintro e w4 ⟨gp4, gc4, ip4, ic4, rfl, hs4, hb4⟩; have u4 := (At2.new w3 (.slice gp3 N gc3) (.slice ip3 N ic3) 29).below hb4; have u4x := u4.1; have u4y := u4.2; have u4l := u4.lt))
            have hVb : Below wr.heap.size wr (w4.alloc (Obj.cells #[Value.slice gp4 N gc4, Value.slice ip4 N ic4] 31)) := bel_call (bel_call (bel_call (bel_call hBc (Nat.le_refl _) hb3) (Nat.le_refl _) (bel1 w3 _)) (Nat.le_refl _) hb4) (Nat.le_refl _) (bel1 w4 _)
            have su : SlO (w4.alloc (Obj.cells #[Value.slice gp4 N gc4, Value.slice ip4 N ic4] 31)) wr.heap.size gp3 gc3 ip3 ic3 N N gs (fb gs bs xa xg) := ((((hs3.below (bel1 w3 _)).below hb4).below (bel1 w4 _)).mono hsc)
            have sv : SlO (w4.alloc (Obj.cells #[Value.slice gp4 N gc4, Value.slice ip4 N ic4] 31)) wr.heap.size gp4 gc4 ip4 ic4 N N gs (fb gs bs xa xg) := ((hs4.below (bel1 w4 _)).mono (by simp; have := hb3.size; omega))
            have uV : At2 (w4.alloc (Obj.cells #[Value.slice gp4 N gc4, Value.slice ip4 N ic4] 31)) w3.heap.size (.slice gp3 N gc3) (.slice ip3 N ic3) := u4.below (bel1 w4 _)
            have vV : At2 (w4.alloc (Obj.cells #[Value.slice gp4 N gc4, Value.slice ip4 N ic4] 31)) w4.heap.size (.slice gp4 N gc4) (.slice ip4 N ic4) := At2.new w4 _ _ _
            have xV : At2 (w4.alloc (Obj.cells #[Value.slice gp4 N gc4, Value.slice ip4 N ic4] 31)) wr.heap.size (.int .i64 xa) (.int .i64 xg) := (((hXc.below hb3).below (bel1 w3 _)).below hb4).below (bel1 w4 _)
            have hz3 := hb3.size
            have hz4 := hb4.size
            have nz : wc.heap.size ≤ w3.heap.size ∧ w3.heap.size + 1 ≤ w4.heap.size := by simp at hz4; omega
            have p0 : S ≠ w3.heap.size := by omega
            have p1 : S ≠ w4.heap.size := by omega
            have p2 : S + 1 ≠ w3.heap.size := by omega
            have p3 : S + 1 ≠ w4.heap.size := by omega
            have p4 : S ≠ wr.heap.size := by omega
            have p5 : S + 1 ≠ wr.heap.size := by omega
            clear hs3 hs4 u4 u4x u4y u4l r0 r1 m1 xc0 xc1 xl q0 q1 q2 q3 lc0 lS lS1
            generalize (w4.alloc (Obj.cells #[Value.slice gp4 N gc4, Value.slice ip4 N ic4] 31)) = V at *
            generalize w3.heap.size = U at *
            generalize w4.heap.size = Q at *
            have hstV := hst.below hVb
            have c0 := hstV.a0
            have c1' := hstV.a1
            have c2 := hstV.b0
            have c3 := hstV.b1
            have cf := hstV.fa
            have cg := hstV.fb
            have u0 := uV.1
            have u1 := uV.2
            have v0' := vV.1
            have v1' := vV.2
            go_region_held3 (fun w' => w'.cell? ⟨U, 0, none⟩ = some (.slice gp3 N gc3) ∧ w'.cell? ⟨U, 1, none⟩ = some (.slice ip3 N ic3) ∧ w'.cell? ⟨Q, 0, none⟩ = some (.slice gp4 N gc4) ∧ w'.cell? ⟨Q, 1, none⟩ = some (.slice ip4 N ic4))
              ((first | with_reducible (exact quad_far_drew ‹World.cell? _ _ = _ ∧ World.cell? _ _ = _ ∧ World.cell? _ _ = _ ∧ World.cell? _ _ = _› p0 p1 _ _) | with_reducible (exact quad_far_drew ‹World.cell? _ _ = _ ∧ World.cell? _ _ = _ ∧ World.cell? _ _ = _ ∧ World.cell? _ _ = _› p2 p3 _ _) | exact ⟨u0, u1, v0', v1'⟩))
              (fail)
            have hmv := st2_move hst hVb su sv (fun g hg => by have := hst.bd g hg; omega)
            have hs2 := hmv.1.below (Below.refl _ _).drew
            have su2 := hmv.2.1.below (Below.refl _ _).drew
            have sv2 := hmv.2.2.below (Below.refl _ _).drew
            have x2 := (at2_set (at2_set xV p4 0 1 (.slice gp3 N gc3) (.slice ip3 N ic3)) p5 0 1 (.slice gp4 N gc4) (.slice ip4 N ic4)).below (Below.refl _ _).drew
            have hzV : wr.heap.size ≤ ((((V.setCell ⟨S, 0, none⟩ (Value.slice gp3 N gc3)).setCell ⟨S, 1, none⟩ (Value.slice ip3 N ic3)).setCell ⟨S + 1, 0, none⟩ (Value.slice gp4 N gc4)).setCell ⟨S + 1, 1, none⟩ (Value.slice ip4 N ic4)).drew.heap.size := by have := hVb.size; simpa [World.setCell] using this
            clear hmv su sv uV vV xV hstV c0 c1' c2 c3 cf cg u0 u1 v0' v1'
            generalize ((((V.setCell ⟨S, 0, none⟩ (Value.slice gp3 N gc3)).setCell ⟨S, 1, none⟩ (Value.slice ip3 N ic3)).setCell ⟨S + 1, 0, none⟩ (Value.slice gp4 N gc4)).setCell ⟨S + 1, 1, none⟩ (Value.slice ip4 N ic4)).drew = V2 at *
            go_wp2
            go_meet
            case rel => exact ⟨gp3, gc3, ip3, ic3, gp4, gc4, ip4, ic4, gs, fb gs bs xa xg, told, tp, tc, T, rfl, hs2, x2, hzV⟩
        case rest =>
          obtain ⟨gp', gc', ip', ic', gq', gd', iq', id', gs', bs', told', tp', tc', T', rfl, hst', hX', hsz'⟩ := hcut
          clear hstc hst rt hXc hBc q0 q1 q2 q3 lc0 lS lS1 hSl hSl1 hsc
          have hT' : T' ≤ 61 := Nat.le_trans hst'.tk (by omega)
          have sS : At2 wc S (.slice gp' N gc') (.slice ip' N ic') := ⟨hst'.a0, hst'.a1⟩
          have sB : At2 wc (S + 1) (.slice gq' N gd') (.slice iq' N id') := ⟨hst'.b0, hst'.b1⟩
          have kS : ∀ w', Below wc.heap.size wc w' → w'.cell? ⟨S, 0, none⟩ = some (.slice gp' N gc') ∧ w'.cell? ⟨S, 1, none⟩ = some (.slice ip' N ic') ∧ w'.cell? ⟨S + 1, 0, none⟩ = some (.slice gq' N gd') ∧ w'.cell? ⟨S + 1, 1, none⟩ = some (.slice iq' N id') ∧ w'.cell? ⟨wr.heap.size, 0, none⟩ = some (.int .i64 xa) ∧ w'.cell? ⟨wr.heap.size, 1, none⟩ = some (.int .i64 xg) ∧ w'.cell? ⟨w.heap.size, 0, none⟩ = some (.int .i64 a) ∧ w'.cell? ⟨w.heap.size, 1, none⟩ = some (.int .i64 g) := fun w' hb => ⟨(sS.below hb).1, (sS.below hb).2, (sB.below hb).1, (sB.below hb).2, (hX'.below hb).1, (hX'.below hb).2, (hst'.h.below hb).1, (hst'.h.below hb).2⟩
          have b1' := hst'.b1
          have hbl := hst'.sb.il
          have hgl := hst'.sb.gl
          have HC : Hid (∀ j (hj : j < bs'.length), (bs'.take (j + 1)).count true = (bs'.take j).count true + (if bs'[j] = true then 1 else 0)) := fun j hj => by
            rw [List.take_succ_eq_append_getElem hj, List.count_append]
            cases bs'[j] <;> simp
          have HCL : Hid (∀ j, (bs'.take j).count true ≤ 64) := fun j => Nat.le_trans (Nat.le_trans List.count_le_length (List.length_take_le' _ _)) (by rw [← hbl]; exact hN64)
          have HBL : Hid (N = bs'.length) := hbl
          have HGL : Hid (N = gs'.length) := hgl
          clear hbl hgl sS sB
          refine hK3 _ _ ?_
          go_wp2
          go_loop [22, 23] (fun m i => ∃ j cc : Nat, j ≤ N ∧ i = .int .i64 j ∧ m = .int .i64 cc ∧ (bs'.take j).count true = cc) (fun _ i => N - (intOf i).toNat)
          case atStart => exact ⟨0, 0, Nat.zero_le _, rfl, rfl, by simp⟩
          case round =>
            obtain ⟨j, cc, hj, rfl, rfl, hcc⟩ := hrel
            have hcl : cc ≤ 64 := by rw [← hcc]; exact HCL.out j
            have HCC : Hid ((bs'.take j).count true = cc) := hcc
            clear hcc
            by_cases hlt : j < N
            · have hjb : j < bs'.length := by rw [← HBL.out]; exact hlt
              obtain ⟨b', o', eiq, _, hbc⟩ := hst'.sb.i.some (by omega)
              cases eiq
              have hck := hbc j hjb
              clear hbc
              have hcs := HC.out j hjb
              have z0 : (j : Int) < (N : Int) := by omega
              rw [HCC.out] at hcs
              cases hx : bs'[j] with
              | false =>
                rw [hx] at hck hcs
                have HCS : Hid ((bs'.take (j + 1)).count true = cc) := (by simpa using hcs : (bs'.take (j + 1)).count true = cc)
                clear hx hcs kS
                go_wp2
                go_round
                case rel => exact ⟨j + 1, cc, by omega, by go_num, rfl, HCS.out⟩
                case measure => simp [intOf]; omega
              | true =>
                rw [hx] at hck hcs
                have HCS : Hid ((bs'.take (j + 1)).count true = cc + 1) := (by simpa using hcs : (bs'.take (j + 1)).count true = cc + 1)
                clear hx hcs kS
                go_wp2
                go_round
                case rel => exact ⟨j + 1, cc + 1, by omega, by go_num, by go_num, HCS.out⟩
                case measure => simp [intOf]; omega
            · have hjN : j = N := by omega
              have HL : Hid (lenM gs' bs' = cc) := by
                show lenM gs' bs' = cc
                unfold lenM
                rw [← HGL.out, ← HBL.out, Nat.min_self, ← hjN]; exact HCC.out
              have dj : decide ((j : Int) < (N : Int)) = false := by simp; omega
              clear hjN
              go_wp2
              go_region_held3 (fun w' => w'.cell? ⟨S, 0, none⟩ = some (.slice gp' N gc') ∧ w'.cell? ⟨S, 1, none⟩ = some (.slice ip' N ic') ∧ w'.cell? ⟨S + 1, 0, none⟩ = some (.slice gq' N gd') ∧ w'.cell? ⟨S + 1, 1, none⟩ = some (.slice iq' N id') ∧ w'.cell? ⟨wr.heap.size, 0, none⟩ = some (.int .i64 xa) ∧ w'.cell? ⟨wr.heap.size, 1, none⟩ = some (.int .i64 xg) ∧ w'.cell? ⟨w.heap.size, 0, none⟩ = some (.int .i64 a) ∧ w'.cell? ⟨w.heap.size, 1, none⟩ = some (.int .i64 g))
                ((first | with_reducible (exact kS _ hB12) | with_reducible (exact kS _ hB11) | with_reducible (exact kS _ hB10) | with_reducible (exact kS _ hB9) | with_reducible (exact kS _ hB8) | with_reducible (exact kS _ hB7) | exact kS _ (Below.refl _ _).drew))
                ((first
                  | (go_at_call 14; refine (same_n gp' ip' gq' iq' gc' ic' gd' id' _ _ gs' bs' _ (hst'.sa.below (Below.refl _ _).drew) (hst'.sb.below (Below.refl _ _).drew)).mono ?_; rintro e w7 ⟨rfl, hb7⟩; have hB7 : Below wc.heap.size wc w7 := (Below.refl _ _).drew.trans hb7)
                  | (go_at_call_of 15 xa; refine (has_n gp' ip' gc' ic' _ _ gs' bs' xa xg (hasM gs' bs' xa xg) _ (hst'.sa.below hB7) wxa wxg rfl).mono ?_; rintro e w8 ⟨rfl, hb8⟩; have hB8 := bel_call hB7 (Nat.le_refl _) hb8)
                  | (go_at_call_of 16 xa; refine (hasSlot_n gq' iq' gd' id' _ _ gs' bs' xa xg (hasM gs' bs' xa xg) _ (hst'.sb.below hB8) rfl).mono ?_; rintro e w9 ⟨rfl, hb9⟩; have hB9 := bel_call hB8 (Nat.le_refl _) hb9)
                  | (go_at_call_of 15 a; refine (has_n gp' ip' gc' ic' _ _ gs' bs' a g (hasM gs' bs' a g) _ (hst'.sa.below hB9) ha hgw rfl).mono ?_; rintro e w10 ⟨rfl, hb10⟩; have hB10 := bel_call hB9 (Nat.le_refl _) hb10)
                  | (go_at_call_of 16 a; refine (hasSlot_n gq' iq' gd' id' _ _ gs' bs' a g (hasM gs' bs' a g) _ (hst'.sb.below hB10) rfl).mono ?_; rintro e w11 ⟨rfl, hb11⟩; have hB11 := bel_call hB10 (Nat.le_refl _) hb11)
                  | (go_at_call 17; refine (len_n gp' ip' gc' ic' _ _ gs' bs' cc _ (hst'.sa.below hB11) HL.out).mono ?_; rintro e w12 ⟨rfl, hb12⟩; have hB12 := bel_call hB11 (Nat.le_refl _) hb12)))
              go_wp2
              go_roundw
              case rel => exact ⟨k + 1, by omega, by go_num, gp', gc', ip', ic', gq', gd', iq', id', gs', bs', told', tp', tc', T', rfl, hst'.below hB12⟩
              case measure => simp [intOf]; omega
    · have e0 := hst.a0
      have e1 := hst.a1
      have e2 := hst.b0
      have e3 := hst.b1
      go_wp2_with (go_at_call 14; refine (same_n gp ip gq iq gc ic gd id N N gs bs _ hst.sa hst.sb).mono ?_; rintro e w7 ⟨rfl, hb7⟩)
      go_ret
      exact ⟨rfl, bel_call hst.bw (Nat.le_refl _) hb7⟩
end Go.Proofs.Ytflfmcclihahmaa
