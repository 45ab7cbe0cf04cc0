/-
  Places of package slots and of the document, in the words of a table; handles, Find, New.
-/
import Derived.Test.YtcncpefdjgnhdaaModel
namespace Go.Proofs.Ytcncpefdjgnhdaa
open Go.ChangeShapes Go.WideShapes Go.ChangeAt Go.RowKit
attribute [local go_sem ↓] Go.wp_at_zero Go.wp_at_succ

theorem take_t (x : Tw) (T : Tb) (N : Nat) (w : World) (h : Tr w x T) (hw : Wf N T) (hN : N ≤ 1000) (A G : Int) (ok : Bool) (hA : Slo.tAt T.G T.I = A) (hG : Slo.tGen T.G T.I = G) (hok : Slo.tOk T.G T.I = ok) :
    Calls Try.prog 49 #[.agg #[.slice x.gp 12 x.gc, .slice x.ip 12 x.ic]] w fun e w' => ∃ (gp : Option Addr) (gc : Nat) (ip : Option Addr) (ic : Nat), e = .returned (.tuple #[.agg #[.slice gp 12 gc, .slice ip 12 ic], .agg #[.int .i64 A, .int .i64 G], .bool ok]) ∧ Rd eI w' gp gc (Slo.tg T.G T.I) ∧ Rd eB w' ip ic (Slo.tb T.G T.I) ∧ Nw w.heap.size gp ∧ Nw w.heap.size ip ∧ Below w.heap.size w w' := by
  refine (Slo.take_n _ _ _ _ 12 12 T.G T.I _ _ A G ok w (h.sl (hw.small (by omega))) rfl rfl hA hG hok (small_tg hw hN)).mono ?_
  rintro e w' ⟨gp, gc, ip, ic, rfl, h1, h2⟩
  exact ⟨gp, gc, ip, ic, rfl, rdI_slo h1.sl.g, rdB_slo h1.sl.i, Nw.slo h1.g (by rw [Slo.tg_len, h.gl]; decide), Nw.slo h1.i (by rw [Slo.tb_len, h.il]; decide), h2⟩
theorem rtake_t (x : Tw) (T : Tb) (N : Nat) (w : World) (h : Tr w x T) (hw : Wf N T) (hN : N ≤ 1000) (A G : Int) (ok : Bool) (hA : Slo.tAt T.G T.I = A) (hG : Slo.tGen T.G T.I = G) (hok : Slo.tOk T.G T.I = ok) :
    Calls Try.prog 52 #[.agg #[.slice x.gp 12 x.gc, .slice x.ip 12 x.ic]] w fun e w' => ∃ (gp : Option Addr) (gc : Nat) (ip : Option Addr) (ic : Nat), e = .returned (.tuple #[.agg #[.slice gp 12 gc, .slice ip 12 ic], .agg #[.int .i64 A, .int .i64 G], .bool ok]) ∧ Rd eI w' gp gc (Slo.tg T.G T.I) ∧ Rd eB w' ip ic (Slo.tb T.G T.I) ∧ Nw w.heap.size gp ∧ Nw w.heap.size ip ∧ Below w.heap.size w w' := by
  refine (Slo.takeSlot_n _ _ _ _ 12 12 T.G T.I _ _ A G ok w (h.sl (hw.small (by omega))) rfl rfl hA hG hok (small_tg hw hN)).mono ?_
  rintro e w' ⟨gp, gc, ip, ic, rfl, h1, h2⟩
  exact ⟨gp, gc, ip, ic, rfl, rdI_slo h1.sl.g, rdB_slo h1.sl.i, Nw.slo h1.g (by rw [Slo.tg_len, h.gl]; decide), Nw.slo h1.i (by rw [Slo.tb_len, h.il]; decide), h2⟩
theorem free_t (x : Tw) (T : Tb) (N : Nat) (w : World) (h : Tr w x T) (hw : Wf N T) (hN : N ≤ 1000) (a g : Int) (ha : (Lit.int .i64 a).wf = true) (hgw : (Lit.int .i64 g).wf = true) (ok : Bool) (hok : Slo.hasM T.G T.I a g = ok) :
    Calls Try.prog 36 #[.agg #[.slice x.gp 12 x.gc, .slice x.ip 12 x.ic], .agg #[.int .i64 a, .int .i64 g]] w fun e w' => ∃ (gp : Option Addr) (gc : Nat) (ip : Option Addr) (ic : Nat), e = .returned (.tuple #[.agg #[.slice gp 12 gc, .slice ip 12 ic], .bool ok]) ∧ Rd eI w' gp gc T.G ∧ Rd eB w' ip ic (Slo.fb T.G T.I a g) ∧ Nw w.heap.size gp ∧ Nw w.heap.size ip ∧ Below w.heap.size w w' := by
  refine (Slo.free_n _ _ _ _ 12 12 T.G T.I _ a g ok w (h.sl (hw.small (by omega))) ha hgw rfl hok).mono ?_
  rintro e w' ⟨gp, gc, ip, ic, rfl, h1, h2⟩
  exact ⟨gp, gc, ip, ic, rfl, rdI_slo h1.sl.g, rdB_slo h1.sl.i, Nw.slo h1.g (by rw [h.gl]; decide), Nw.slo h1.i (by rw [Slo.fb_len, h.il]; decide), h2⟩
theorem rfree_t (x : Tw) (T : Tb) (N : Nat) (w : World) (h : Tr w x T) (hw : Wf N T) (hN : N ≤ 1000) (a g : Int) (ok : Bool) (hok : Slo.hasM T.G T.I a g = ok) :
    Calls Try.prog 40 #[.agg #[.slice x.gp 12 x.gc, .slice x.ip 12 x.ic], .agg #[.int .i64 a, .int .i64 g]] w fun e w' => ∃ (gp : Option Addr) (gc : Nat) (ip : Option Addr) (ic : Nat), e = .returned (.tuple #[.agg #[.slice gp 12 gc, .slice ip 12 ic], .bool ok]) ∧ Rd eI w' gp gc T.G ∧ Rd eB w' ip ic (Slo.fb T.G T.I a g) ∧ Nw w.heap.size gp ∧ Nw w.heap.size ip ∧ Below w.heap.size w w' := by
  refine (Slo.freeSlot_n _ _ _ _ 12 12 T.G T.I _ a g ok w (h.sl (hw.small (by omega))) rfl hok).mono ?_
  rintro e w' ⟨gp, gc, ip, ic, rfl, h1, h2⟩
  exact ⟨gp, gc, ip, ic, rfl, rdI_slo h1.sl.g, rdB_slo h1.sl.i, Nw.slo h1.g (by rw [h.gl]; decide), Nw.slo h1.i (by rw [Slo.fb_len, h.il]; decide), h2⟩
theorem has_t (x : Tw) (T : Tb) (N : Nat) (w : World) (h : Tr w x T) (hw : Wf N T) (hN : N ≤ 1000) (a g : Int) (ha : (Lit.int .i64 a).wf = true) (hgw : (Lit.int .i64 g).wf = true) (ok : Bool) (hok : Slo.hasM T.G T.I a g = ok) :
    Calls Try.prog 54 #[.agg #[.slice x.gp 12 x.gc, .slice x.ip 12 x.ic], .agg #[.int .i64 a, .int .i64 g]] w fun e w' => e = .returned (.bool ok) ∧ Below w.heap.size w w' :=
  Slo.has_n _ _ _ _ 12 12 T.G T.I a g ok w (h.sl (hw.small (by omega))) ha hgw hok
theorem rhas_t (x : Tw) (T : Tb) (N : Nat) (w : World) (h : Tr w x T) (hw : Wf N T) (hN : N ≤ 1000) (a g : Int) (ok : Bool) (hok : Slo.hasM T.G T.I a g = ok) :
    Calls Try.prog 55 #[.agg #[.slice x.gp 12 x.gc, .slice x.ip 12 x.ic], .agg #[.int .i64 a, .int .i64 g]] w fun e w' => e = .returned (.bool ok) ∧ Below w.heap.size w w' :=
  Slo.hasSlot_n _ _ _ _ 12 12 T.G T.I a g ok w (h.sl (hw.small (by omega))) hok
theorem news_t (w : World) : Calls Try.prog 33 #[.int .i64 12] w fun e w' => ∃ (gp : Option Addr) (gc : Nat) (ip : Option Addr) (ic : Nat), e = .returned (.agg #[.slice gp 12 gc, .slice ip 12 ic]) ∧ Rd eI w' gp gc newT.G ∧ Rd eB w' ip ic newT.I ∧ Nw w.heap.size gp ∧ Nw w.heap.size ip ∧ Below w.heap.size w w' := by
  refine (Slo.new_n 12 12 w rfl).mono ?_
  rintro e w' ⟨gp, gc, ip, ic, rfl, h1, h2⟩
  exact ⟨gp, gc, ip, ic, rfl, rdI_slo h1.sl.g, rdB_slo h1.sl.i, Nw.slo h1.g (by decide), Nw.slo h1.i (by decide), h2⟩
theorem rnews_t (w : World) : Calls Try.prog 34 #[.int .i64 12] w fun e w' => ∃ (gp : Option Addr) (gc : Nat) (ip : Option Addr) (ic : Nat), e = .returned (.agg #[.slice gp 12 gc, .slice ip 12 ic]) ∧ Rd eI w' gp gc newT.G ∧ Rd eB w' ip ic newT.I ∧ Nw w.heap.size gp ∧ Nw w.heap.size ip ∧ Below w.heap.size w w' := by
  refine (Slo.newSlots_n 12 12 w rfl).mono ?_
  rintro e w' ⟨gp, gc, ip, ic, rfl, h1, h2⟩
  exact ⟨gp, gc, ip, ic, rfl, rdI_slo h1.sl.g, rdB_slo h1.sl.i, Nw.slo h1.g (by decide), Nw.slo h1.i (by decide), h2⟩
open Go.Maps in
set_option maxRecDepth 20000 in
set_option maxHeartbeats 2000000 in
theorem handles_any (x : Tw) (T : Tb) (N : Nat) (w : World) (ht : Tr w x T) (hw : Wf N T) (hN : N ≤ 1000) :
    Calls Try.prog 53 #[.agg #[.slice x.gp 12 x.gc, .slice x.ip 12 x.ic, .slice x.tp 12 x.tc]] w fun e w' => ∃ B, e = .returned (.map (some B)) ∧ w'.ownsMap Try.prog 38 (plainElem Try.prog 3) B 12 (Slo.tk T.G T.I 12) ∧ Below w.heap.size w w' := by
  have hmm : ∀ w : World, (Instr.makeMap 116 (some (.int .i64 12))).run Try.prog w = .ok (.map (some w.heap.size)) (w.alloc (.map #[] 0)) := fun w => by
    simp [Instr.makeMap, run_underlying Try.underlying116, asInt, asIntOf]
  obtain ⟨W, hW⟩ : ∃ W, W = w.alloc (.cells #[.slice x.gp 12 x.gc, .slice x.ip 12 x.ic, .slice x.tp 12 x.tc] 30) := ⟨_, rfl⟩
  have bW : Below w.heap.size w W := by rw [hW]; exact bel_self _ _
  have hsz : W.heap.size = w.heap.size + 1 := by rw [hW]; simp
  have hV : Vw W w.heap.size x 30 := by rw [hW]; exact Vw.new _ _ _
  have hT := ht.below bW
  have hown0 := World.ownsMap_made (H := Unit) W Try.prog 38 (plainElem Try.prog 3)
  have hS := hw.small (by omega : N ≤ 2199023255552)
  obtain ⟨c0, c1, c2⟩ := hV.at
  go_enter Try.func53, Try.ntmps53
  go_wp2
  rw [← hW]
  clear hW
  have HS : Hid (W.heap.size = w.heap.size + 1) := hsz
  rw [hsz] at hown0
  have hM : Below W.heap.size W (W.alloc (Obj.map #[] 0)) := bel_self _ _
  have hMs : w.heap.size + 1 < (W.alloc (Obj.map #[] 0)).heap.size := by simp [hsz]
  generalize W.alloc (Obj.map #[] 0) = W2 at *
  clear hsz c0 c1 c2
  go_loopw [4, 13] (fun _ i wr => ∃ n : Nat, n ≤ 12 ∧ i = .int .i64 n ∧ wr.ownsMap Try.prog 38 (plainElem Try.prog 3) (w.heap.size + 1) n (Slo.tk T.G T.I n) ∧ Below W.heap.size W wr ∧ w.heap.size + 1 < wr.heap.size) (fun _ i _ => 12 - (intOf i).toNat)
  case atStart => exact ⟨0, Nat.zero_le _, rfl, hown0, hM, hMs⟩
  case round =>
    obtain ⟨n, hn, rfl, hown, hbw, hz⟩ := hrel
    clear hown0 hM hMs
    have V1 := hV.below hbw
    obtain ⟨c0, c1, c2⟩ := V1.at
    by_cases hlt : n < 12
    · obtain ⟨b, o, X, e9, hb, hc, ho⟩ := (hT.below hbw).thing n hlt
      have HTP : Hid (x.tp = some ⟨b, o, none⟩) := e9
      obtain ⟨d0, d1, d2, d3, d4, d5, d6, d7, d8, d9⟩ := hc
      have hth := there_is hw n hlt
      have s1 := bel_self wr (.cells #[.int .i64 X.k, .int .i64 X.a, .int .i64 X.g, .int .i64 X.c, .int .i64 X.h, .slice X.lp X.ln X.lc, .slice X.wp X.wn X.wc, .int .u32 (X.b : Int), .slice X.fp X.fn X.fc, .int .u32 (X.s : Int)] 58)
      have V2 := V1.below s1
      have X2 : Vt (wr.alloc (.cells #[.int .i64 X.k, .int .i64 X.a, .int .i64 X.g, .int .i64 X.c, .int .i64 X.h, .slice X.lp X.ln X.lc, .slice X.wp X.wn X.wc, .int .u32 (X.b : Int), .slice X.fp X.fn X.fc, .int .u32 (X.s : Int)] 58)) wr.heap.size X 58 := Vt.new _ _ _
      have bA : Below W.heap.size W (wr.alloc (.cells #[.int .i64 X.k, .int .i64 X.a, .int .i64 X.g, .int .i64 X.c, .int .i64 X.h, .slice X.lp X.ln X.lc, .slice X.wp X.wn X.wc, .int .u32 (X.b : Int), .slice X.fp X.fn X.fc, .int .u32 (X.s : Int)] 58)) := hbw.alloc hbw.size _
      obtain ⟨e0, e1, e2⟩ := V2.at
      have hownA := hown.kept (Slo.grown_of_below s1 none) (by simp)
      rw [e9]
      clear e9
      by_cases hx : T.I.getD n false = true
      · rw [hx] at hth
        obtain ⟨hxa, hxg⟩ := hw.ha n hlt ((hw.it n hlt).1 hx)
        have hkey := Slo.keyOf_handle (n : Int) (T.G.getD n 0) (Slo.wf_nat (by omega)) (Slo.wf_small hS n)
        rw [← hxa, ← hxg, ← ho.a, ← ho.g] at hkey
        have HXA : Hid (X.a = (n : Int) ∧ X.g = T.G.getD n 0) := ⟨ho.a.trans hxa, ho.g.trans hxg⟩
        have HX : Hid (T.I.getD n false = true) := hx
        clear hx hxa hxg ho
        go_wp2_with (first
          | (go_at_call 41; refine (there_any x T _ ((hT.below hbw).below s1) n true hth).mono ?_; rintro e w3 ⟨rfl, b3⟩; have V3 := V2.below b3; have X3 := X2.below b3; obtain ⟨_, f1, f2, _, _, _, _, _, _, _⟩ := X3.at; have hown3 := hownA.kept (Slo.grown_of_below b3 none) (by simp))
          | (at_mapUpdate; refine wpList_mapUpdate_own _ rfl _ _ _ 116 rfl 38 3 Slo.Try.law24 Try.underlying116 _ (w.heap.size + 1) n _ rfl hown3 (by unfold maxLen; omega) _ _ _ rfl rfl hkey _ [] (plainElem_int Try.underlying3 (Slo.wf_nat (by omega))) ?_; intro w4 hown4 hgrow4)
          | go_in)
        have hs3 := b3.size
        have hs4 := hgrow4.size
        have hs1 := s1.size
        have hbs := hbw.size
        have hW1 : W.heap.size ≤ w.heap.size + 1 := Nat.le_of_eq HS.out
        go_roundw
        case rel => exact ⟨n + 1, by omega, by go_num, by rw [Slo.tk_yes HX.out]; have h9 := hown4; rw [HXA.out.1, HXA.out.2] at h9; exact h9, (bel_call bA (Nat.le_refl _) b3).grown hgrow4 (by omega) (fun j hj => by cases hj; exact hW1), by omega⟩
        case measure => simp [intOf]; omega
      · have hx' : T.I.getD n false = false := by simpa using hx
        rw [hx'] at hth
        have HX : Hid (T.I.getD n false = false) := hx'
        clear hx hx' ho
        go_wp2_with (go_at_call 41; refine (there_any x T _ ((hT.below hbw).below s1) n false hth).mono ?_; rintro e w3 ⟨rfl, b3⟩; have hown3 := hownA.kept (Slo.grown_of_below b3 none) (by simp))
        have hs3 := b3.size
        have hs1 := s1.size
        go_roundw
        case rel => exact ⟨n + 1, by omega, by go_num, by rw [Slo.tk_no HX.out]; exact hown3.mono (by omega), bel_call bA (Nat.le_refl _) b3, by omega⟩
        case measure => simp [intOf]; omega
    · have hn12 : n = 12 := by omega
      subst hn12
      go_wp2
      go_ret
      exact ⟨_, rfl, hown, bel_call bW (Nat.le_refl _) hbw⟩
open Go.Maps in
theorem handles_look (x : Tw) (T : Tb) (N : Nat) (w : World) (ht : Tr w x T) (hw : Wf N T) (hN : N ≤ 1000) (a g : Int) (ha : (Lit.int .i64 a).wf = true) (hgw : (Lit.int .i64 g).wf = true) :
    Calls Try.prog 53 #[.agg #[.slice x.gp 12 x.gc, .slice x.ip 12 x.ic, .slice x.tp 12 x.tc]] w fun e w' => ∃ B c, e = .returned (.map (some B)) ∧ Below w.heap.size w w' ∧ (Instr.lookup 116 (.map (some B)) (.agg #[.int .i64 a, .int .i64 g]) true).run Try.prog w' = .ok (.tuple #[.int .i64 c, .bool (Slo.hasM T.G T.I a g)]) w' ∧ (Slo.hasM T.G T.I a g = true → c = a) := by
  refine (handles_any x T N w ht hw hN).mono ?_
  rintro e w' ⟨B, rfl, hown, hb⟩
  have hS := hw.small (by omega : N ≤ 2199023255552)
  have hw0 : (Lit.int .i64 0).wf = true := by decide
  have hm : min T.G.length T.I.length = 12 := by rw [hw.gl, hw.il]; rfl
  obtain ⟨v, ps, hrun, hv⟩ := hown.look_ok Slo.Try.law24 Try.underlying116 (Slo.zero3 w') (plainElem_int Try.underlying3 hw0) (Slo.keyOf_handle a g ha hgw)
  obtain ⟨c, rfl, hc, _⟩ := plainElem_int_inv Try.underlying3 hv
  rw [Slo.tk_has hS ha hgw _ (by omega)] at hrun
  refine ⟨B, c, rfl, hb, by unfold Slo.hasM; rw [hm]; exact hrun, fun h => ?_⟩
  have := Slo.tk_at hS ha hgw (.lit (.int .i64 0)) 12 (by omega) (by unfold Slo.hasM at h; rw [hm] at h; exact h)
  simp only [Prod.mk.injEq] at hc
  rw [this] at hc
  simpa using hc.1.symm
set_option maxHeartbeats 2000000 in
theorem find_any (x : Tw) (T : Tb) (N : Nat) (w : World) (ht : Tr w x T) (hw : Wf N T) (hN : N ≤ 1000) (a g : Int) (ha : (Lit.int .i64 a).wf = true) (hgw : (Lit.int .i64 g).wf = true) (p : Int) (hp : fnA T a g = p) (B : Bool) (hB : Slo.hasM T.G T.I a g = B) :
    Calls Try.prog 24 #[.agg #[.slice x.gp 12 x.gc, .slice x.ip 12 x.ic, .slice x.tp 12 x.tc], .agg #[.int .i64 a, .int .i64 g]] w fun e w' => e = .returned (.tuple #[.int .i64 p, .bool B]) ∧ Below w.heap.size w w' := by
  obtain ⟨W, hW⟩ : ∃ W, W = (w.alloc (.cells #[.slice x.gp 12 x.gc, .slice x.ip 12 x.ic, .slice x.tp 12 x.tc] 30)).alloc (.cells #[.int .i64 a, .int .i64 g] 38) := ⟨_, rfl⟩
  have bW : Below w.heap.size w W := by rw [hW]; exact ((Below.refl _ _).alloc (Nat.le_refl _) _).alloc (by simp) _
  have hV : Vw W w.heap.size x 30 := by rw [hW]; exact (Vw.new _ _ _).below (bel_self _ _)
  have hH : Lv W (w.heap.size + 1) #[.int .i64 a, .int .i64 g] 38 := by rw [hW]; exact heap_at (by simp)
  have hT := ht.below bW
  have HP : Hid (fnA T a g = p) := hp
  clear hp
  go_enter Try.func24, Try.ntmps24
  go_wp2
  rw [← hW]
  clear hW
  refine wp_region_held_drew (S := fun w' => Below W.heap.size W w') (by kernel_rfl) (Below.refl _ _).drew (fun hHeld => ?_)
  refine wpAnyH_take (i := 0) (oi := _) (v := ?_) rfl (by kernel_rfl) (by kernel_rfl) (by kernel_rfl) (fun _ _ _ h => h) (Or.inl ⟨by rfl, ?_⟩) hHeld ?_
  rotate_left
  · intro w' hSw
    obtain ⟨c0, c1, c2⟩ := (hV.below hSw).at
    have h0 := (hH.below hSw).c 0 rfl
    have h1 := (hH.below hSw).c 1 rfl
    (go_simp <;> with_reducible rfl)
  try simp only [Act.put, List.getElem_toArray, List.getElem_cons_zero, List.setIfInBounds_toArray, List.set_cons_zero, List.set_cons_succ]
  refine wpAnyH_take (i := 2) (oi := _) (v := ?_) rfl (by kernel_rfl) (by kernel_rfl) (by kernel_rfl) (fun _ _ _ h => h) (Or.inl ⟨by rfl, ?_⟩) hHeld ?_
  rotate_left
  · intro w' hSw
    obtain ⟨c0, c1, c2⟩ := (hV.below hSw).at
    have h0 := (hH.below hSw).c 0 rfl
    have h1 := (hH.below hSw).c 1 rfl
    (go_simp <;> with_reducible rfl)
  try simp only [Act.put, List.getElem_toArray, List.getElem_cons_succ, List.getElem_cons_zero, List.setIfInBounds_toArray, List.set_cons_zero, List.set_cons_succ]
  refine wpAnyH_ready (rs := [1]) (by kernel_rfl) (by simp) ?_
  refine AllReadyH.cons (o := _) rfl (fun K hK => ?_) (AllReadyH.nil)
  go_simp
  go_at_call 53; refine (handles_look x T N _ (hT.below (Below.refl _ _).drew) hw hN a g ha hgw).mono ?_
  rintro e w1 ⟨M, C, rfl, b1', hrun, hca⟩
  have b1 : Below W.heap.size W w1 := (Below.refl _ _).drew.trans b1'
  rw [hB] at hrun hca
  refine hK.out _ _ b1 (fun hHeld => ?_)
  clear hK K
  try simp only [Act.put, List.getElem_toArray, List.getElem_cons_succ, List.getElem_cons_zero, List.setIfInBounds_toArray, List.set_cons_zero, List.set_cons_succ]
  refine wpAnyH_ready (rs := [3]) (by kernel_rfl) (by simp) ?_
  refine AllReadyH.cons (o := _) rfl (fun K hK => ?_) (AllReadyH.nil)
  go_simp
  refine hK.out _ _ b1 (fun hHeld => ?_)
  clear hK K
  try simp only [Act.put, List.getElem_toArray, List.getElem_cons_succ, List.getElem_cons_zero, List.setIfInBounds_toArray, List.set_cons_zero, List.set_cons_succ]
  refine wpAnyH_take (i := 4) (oi := _) (v := ?_) rfl (by kernel_rfl) (by kernel_rfl) (by kernel_rfl) (fun _ _ _ h => h) (Or.inl ⟨by rfl, ?_⟩) hHeld ?_
  rotate_left
  · intro w' hSw
    (go_simp <;> with_reducible rfl)
  try simp only [Act.put, List.getElem_toArray, List.getElem_cons_succ, List.getElem_cons_zero, List.setIfInBounds_toArray, List.set_cons_zero, List.set_cons_succ]
  refine wpAnyH_take (i := 5) (oi := _) (v := ?_) rfl (by kernel_rfl) (by kernel_rfl) (by kernel_rfl) (fun _ _ _ h => h) (Or.inl ⟨by rfl, ?_⟩) hHeld ?_
  rotate_left
  · intro w' hSw
    (go_simp <;> with_reducible rfl)
  try simp only [Act.put, List.getElem_toArray, List.getElem_cons_succ, List.getElem_cons_zero, List.setIfInBounds_toArray, List.set_cons_zero, List.set_cons_succ]
  refine wpAnyH_take (i := 6) (oi := _) (v := ?_) rfl (by kernel_rfl) (by kernel_rfl) (by kernel_rfl) (fun _ _ _ h => h) (Or.inl ⟨by rfl, ?_⟩) hHeld ?_
  rotate_left
  · intro w' hSw
    (go_simp <;> with_reducible rfl)
  try simp only [Act.put, List.getElem_toArray, List.getElem_cons_succ, List.getElem_cons_zero, List.setIfInBounds_toArray, List.set_cons_zero, List.set_cons_succ]
  refine wpAnyH_take (i := 7) (oi := _) (v := ?_) rfl (by kernel_rfl) (by kernel_rfl) (by kernel_rfl) (fun _ _ _ h => h) (Or.inl ⟨by rfl, ?_⟩) hHeld ?_
  rotate_left
  · intro w' hSw
    (go_simp <;> with_reducible rfl)
  try simp only [Act.put, List.getElem_toArray, List.getElem_cons_succ, List.getElem_cons_zero, List.setIfInBounds_toArray, List.set_cons_zero, List.set_cons_succ]
  refine wpAnyH_take (i := 8) (oi := _) (v := ?_) rfl (by kernel_rfl) (by kernel_rfl) (by kernel_rfl) (fun _ _ _ h => h) (Or.inl ⟨by rfl, ?_⟩) hHeld ?_
  rotate_left
  · intro w' hSw
    (go_simp <;> with_reducible rfl)
  try simp only [Act.put, List.getElem_toArray, List.getElem_cons_succ, List.getElem_cons_zero, List.setIfInBounds_toArray, List.set_cons_zero, List.set_cons_succ]
  refine wpAnyH_done (by kernel_rfl) ?_ _
  clear hrun hHeld b1'
  have V1 := hV.below b1
  have H1 := hH.below b1
  obtain ⟨c0, c1, c2⟩ := V1.at
  have h0 := H1.c 0 rfl
  have h1 := H1.c 1 rfl
  cases B with
  | false =>
    have HP2 : Hid ((0 : Int) = p) := by show _ = _; rw [← HP.out]; unfold fnA; rw [hB]; rfl
    clear hB hca
    go_wp2
    refine bodyPost_ret (v := .tuple #[.int .i64 0, .bool false]) (by simp [results, Try.results24]) rfl ⟨by rw [HP2.out], bel_call bW (Nat.le_refl _) b1⟩
  | true =>
    have hC := hca rfl
    subst hC
    have HP2 : Hid (C = p) := by show _ = _; rw [← HP.out]; unfold fnA; rw [hB]; rfl
    clear hca
    have HBB : Hid (Slo.hasM T.G T.I C g = true) := hB
    clear hB
    go_wp2_with (go_at_call 54; refine (has_t x T N _ (hT.below b1) hw hN C g ha hgw true HBB.out).mono ?_; rintro e w2 ⟨rfl, b2⟩)
    refine bodyPost_ret (v := .tuple #[.int .i64 C, .bool true]) (by simp [results, Try.results24]) rfl ⟨by rw [HP2.out], bel_call bW (Nat.le_refl _) (bel_call b1 (Nat.le_refl _) b2)⟩
set_option maxHeartbeats 2000000 in
theorem rfind_any (x : Tw) (T : Tb) (N : Nat) (w : World) (ht : Tr w x T) (hw : Wf N T) (hN : N ≤ 1000) (a g : Int) (p : Int) (hp : fnA T a g = p) (B : Bool) (hB : Slo.hasM T.G T.I a g = B) :
    Calls Try.prog 25 #[.agg #[.slice x.gp 12 x.gc, .slice x.ip 12 x.ic, .slice x.tp 12 x.tc], .agg #[.int .i64 a, .int .i64 g]] w fun e w' => e = .returned (.tuple #[.int .i64 p, .bool B]) ∧ Below w.heap.size w w' := by
  obtain ⟨W, hW⟩ : ∃ W, W = (w.alloc (.cells #[.slice x.gp 12 x.gc, .slice x.ip 12 x.ic, .slice x.tp 12 x.tc] 35)).alloc (.cells #[.int .i64 a, .int .i64 g] 38) := ⟨_, rfl⟩
  have bW : Below w.heap.size w W := by rw [hW]; exact ((Below.refl _ _).alloc (Nat.le_refl _) _).alloc (by simp) _
  have hV : Vw W w.heap.size x 35 := by rw [hW]; exact (Vw.new _ _ _).below (bel_self _ _)
  have hH : Lv W (w.heap.size + 1) #[.int .i64 a, .int .i64 g] 38 := by rw [hW]; exact heap_at (by simp)
  have hT := ht.below bW
  have HP : Hid (fnA T a g = p) := hp
  clear hp
  cases B with
  | false =>
    have HP2 : Hid ((0 : Int) = p) := by show _ = _; rw [← HP.out]; unfold fnA; rw [hB]; rfl
    go_enter Try.func25, Try.ntmps25
    go_wp2_with (go_at_call 55; rw [← hW]; refine (rhas_t x T N _ hT hw hN a g false hB).mono ?_; rintro e w1 ⟨rfl, b1⟩; obtain ⟨c0, c1, c2⟩ := (hV.below b1).at; have h0 := (hH.below b1).c 0 rfl; have h1 := (hH.below b1).c 1 rfl)
    refine bodyPost_ret (v := .tuple #[.int .i64 0, .bool false]) (by simp [results, Try.results25]) rfl ⟨by rw [HP2.out], bel_call bW (Nat.le_refl _) b1⟩
  | true =>
    have HP2 : Hid (a = p) := by show _ = _; rw [← HP.out]; unfold fnA; rw [hB]; rfl
    obtain ⟨ha0, ha12, hk, _, _⟩ := has_lt hw hB
    obtain ⟨k, rfl⟩ := Int.eq_ofNat_of_zero_le ha0
    have hk12 : k < 12 := by omega
    have dg : decide ((12 : Int) ≤ (k : Int)) = false := by simp; omega
    go_enter Try.func25, Try.ntmps25
    go_wp2_with (go_at_call 55; (rw [← hW]; refine (rhas_t x T N _ hT hw hN (k : Int) g true hB).mono ?_; rintro e w1 ⟨rfl, b1⟩; obtain ⟨c0, c1, c2⟩ := (hV.below b1).at; have h0 := (hH.below b1).c 0 rfl; have h1 := (hH.below b1).c 1 rfl; obtain ⟨bb, o, X, e9, hb, hc, ho⟩ := (hT.below b1).thing k hk12; rw [e9] at c2; have d0 := hc.c0; have hk1 : X.k ≠ 0 := fun h => hk (ho.k.symm.trans h); have hx0 : (X.k == 0) = false := beq_eq_false_iff_ne.2 hk1; have hx1 : decide (X.k = 0) = false := decide_eq_false hk1; clear hk1))
    refine bodyPost_ret (v := .tuple #[.int .i64 (k : Int), .bool true]) (by simp [results, Try.results25]) rfl ⟨by rw [HP2.out], bel_call bW (Nat.le_refl _) b1⟩
theorem make30 (w : World) (base : Nat) (hb : base ≤ w.heap.size) : ∃ w', (Instr.makeSlice 28 (.int .i64 12) (.int .i64 12)).run Try.prog w = .ok (.slice (some ⟨w.heap.size, 0, none⟩) 12 12) w' ∧ Own eT w' base 58 (some ⟨w.heap.size, 0, none⟩) 12 (List.replicate 12 tc0) ∧ Below w.heap.size w w' := by
  obtain ⟨i, hi, h0, h1, h2⟩ := info_parts Try.info58
  obtain ⟨w', h3, h4, h5⟩ := run_make_full (P := Try.prog) (w := w) base 28 58 i _ 10 Try.underlying28 hi h0 h1 .i64 .i64 12 (by rw [h2]; decide) (by decide) hb
  have e : (madeCells (Value.agg #[.int .i64 0, .int .i64 0, .int .i64 0, .int .i64 0, .int .i64 0, .slice none 0 0, .slice none 0 0, .int .u32 0, .slice none 0 0, .int .u32 0]).cells (12 * 10)).toList = fl eT (List.replicate 12 tc0) := by kernel_rfl
  refine ⟨w', h3, ?_, (Below.refl _ _).grown h5 (Nat.le_refl _) (fun k hk => by cases hk)⟩
  unfold Own
  rw [← e]
  exact h4
set_option maxRecDepth 20000 in
set_option maxHeartbeats 2000000 in
theorem new_any (w : World) : Calls Try.prog 9 #[] w fun e w' => ∃ y : Tw, e = .returned (.agg #[.slice y.gp 12 y.gc, .slice y.ip 12 y.ic, .slice y.tp 12 y.tc]) ∧ Tr w' y newT ∧ Below w.heap.size w w' := by
  obtain ⟨W, hW⟩ : ∃ W, W = w.alloc (.cells #[.slice none 0 0, .slice none 0 0, .slice none 0 0] 30) := ⟨_, rfl⟩
  have bW : Below w.heap.size w W := by rw [hW]; exact bel_self _ _
  have hsz : W.heap.size = w.heap.size + 1 := by rw [hW]; simp
  have hR : Lv W w.heap.size #[.slice none 0 0, .slice none 0 0, .slice none 0 0] 30 := by rw [hW]; exact Lv.new _ _ _
  have hts : ∀ w : World, Ts w (List.replicate 12 tc0) newT.T := fun w => ⟨rfl, fun i h1 h2 => by
    have e1 : (List.replicate 12 tc0)[i]'h1 = tc0 := List.getElem_replicate ..
    have e2 : newT.T[i]'h2 = th0 := List.getElem_replicate ..
    rw [e1, e2]
    exact Ok.zero w⟩
  have hzd : W.drew.heap.size = W.heap.size := rfl
  go_enter Try.func9, Try.ntmps9
  go_wp2
  rw [← hW]
  clear hW
  refine wp_region_held_drew (S := fun w' => Below w.heap.size w w') (by kernel_rfl) bW.drew (fun hHeld => ?_)
  refine wpAnyH_ready (rs := [0, 1]) (by kernel_rfl) (by simp) ?_
  refine AllReadyH.cons (o := _) rfl (fun K hK => ?_) (AllReadyH.cons (o := _) rfl (fun K hK => ?_) (AllReadyH.nil))
  · go_simp
    go_at_call 33; refine (news_t _).mono ?_
    rintro e w1 ⟨gp, gc, ip, ic, rfl, r1, r2, n1, n2, b1'⟩
    have hz1 := b1'.size
    have b1 : Below W.heap.size W w1 := bel_call (Below.refl W.heap.size W).drew (Nat.le_refl _) b1'
    refine hK.out _ _ (bel_call bW (Nat.le_refl _) b1) (fun hHeld => ?_)
    clear hK K
    try simp only [Act.put, List.getElem_toArray, List.getElem_cons_zero, List.setIfInBounds_toArray, List.set_cons_zero, List.set_cons_succ]
    refine wpAnyH_ready (rs := [1]) (by kernel_rfl) (by simp) ?_
    refine AllReadyH.cons (o := _) rfl (fun K hK => ?_) (AllReadyH.nil)
    obtain ⟨wm, hrm, om, bm'⟩ := make30 w1 W.heap.size b1.size
    go_simp
    have hzm := bm'.size
    have bm : Below W.heap.size W wm := bel_call b1 (Nat.le_refl _) bm'
    have r1 := r1.below bm'
    have r2 := r2.below bm'
    refine hK.out _ _ (bel_call bW (Nat.le_refl _) bm) (fun hHeld => ?_)
    clear hK K
    try simp only [Act.put, List.getElem_toArray, List.getElem_cons_succ, List.getElem_cons_zero, List.setIfInBounds_toArray, List.set_cons_zero, List.set_cons_succ]
    refine wpAnyH_take (i := 2) (oi := _) (v := ?_) rfl (by kernel_rfl) (by kernel_rfl) (by kernel_rfl) (fun _ _ _ h => h) (Or.inl ⟨by rfl, ?_⟩) hHeld ?_
    rotate_left
    · intro w' hSw
      (go_simp <;> with_reducible rfl)
    try simp only [Act.put, List.getElem_toArray, List.getElem_cons_succ, List.getElem_cons_zero, List.setIfInBounds_toArray, List.set_cons_zero, List.set_cons_succ]
    refine wpAnyH_ready (rs := [3]) (by kernel_rfl) (by simp) ?_
    refine AllReadyH.cons (o := _) rfl (fun K hK => ?_) (AllReadyH.nil)
    have R1 := hR.below bm
    refine step_stV (E := eTb) rfl 30 _ _ rfl size30 w.heap.size _ R1 rfl (⟨gp, gc, ip, ic, _, _⟩ : Tw) rfl rfl ?_
    intro w5 L5 k5
    have b5 : Below w.heap.size w w5 := bel_kp (bel_call bW (Nat.le_refl _) bm) k5 (Nat.le_refl _) (bel_call bW (Nat.le_refl _) bm).size
    have o5 := own_kp om k5 (by omega)
    have g5 := rd_kpF r1 k5 (Nw.far n1 (by omega))
    have g6 := rd_kpF r2 k5 (Nw.far n2 (by omega))
    refine hK.out _ _ b5 (fun hHeld => ?_)
    clear hK K
    try simp only [Act.put, List.getElem_toArray, List.getElem_cons_succ, List.getElem_cons_zero]
    refine wpAnyH_done (by kernel_rfl) ?_ _
    go_wp2
    have e9 := load30 L5
    refine bodyPost_ret (v := .agg #[.slice gp 12 gc, .slice ip 12 ic, .slice (some ⟨_, 0, none⟩) 12 12]) (by simp [results, Try.results9, asAddr, e9]) rfl ⟨⟨gp, gc, ip, ic, _, _⟩, rfl, ⟨g5, g6, ⟨_, own_rd o5, hts _⟩, rfl, rfl, rfl⟩, b5⟩
  · obtain ⟨wm, hrm, om, bm'⟩ := make30 W.drew W.heap.size (Below.refl W.heap.size W).drew.size
    go_simp
    have hzm := bm'.size
    have bm : Below W.heap.size W wm := bel_call (Below.refl W.heap.size W).drew (Nat.le_refl _) bm'
    refine hK.out _ _ (bel_call bW (Nat.le_refl _) bm) (fun hHeld => ?_)
    clear hK K
    try simp only [Act.put, List.getElem_toArray, List.getElem_cons_succ, List.getElem_cons_zero, List.setIfInBounds_toArray, List.set_cons_zero, List.set_cons_succ]
    refine wpAnyH_ready (rs := [0]) (by kernel_rfl) (by simp) ?_
    refine AllReadyH.cons (o := _) rfl (fun K hK => ?_) (AllReadyH.nil)
    go_simp
    go_at_call 33; refine (news_t _).mono ?_
    rintro e w1 ⟨gp, gc, ip, ic, rfl, r1, r2, n1, n2, b1'⟩
    have hz1 := b1'.size
    have b1 : Below W.heap.size W w1 := bel_call bm (Nat.le_refl _) b1'
    have om := own_below om b1'
    refine hK.out _ _ (bel_call bW (Nat.le_refl _) b1) (fun hHeld => ?_)
    clear hK K
    try simp only [Act.put, List.getElem_toArray, List.getElem_cons_zero, List.setIfInBounds_toArray, List.set_cons_zero, List.set_cons_succ]
    refine wpAnyH_take (i := 2) (oi := _) (v := ?_) rfl (by kernel_rfl) (by kernel_rfl) (by kernel_rfl) (fun _ _ _ h => h) (Or.inl ⟨by rfl, ?_⟩) hHeld ?_
    rotate_left
    · intro w' hSw
      (go_simp <;> with_reducible rfl)
    try simp only [Act.put, List.getElem_toArray, List.getElem_cons_succ, List.getElem_cons_zero, List.setIfInBounds_toArray, List.set_cons_zero, List.set_cons_succ]
    refine wpAnyH_ready (rs := [3]) (by kernel_rfl) (by simp) ?_
    refine AllReadyH.cons (o := _) rfl (fun K hK => ?_) (AllReadyH.nil)
    have R1 := hR.below b1
    refine step_stV (E := eTb) rfl 30 _ _ rfl size30 w.heap.size _ R1 rfl (⟨gp, gc, ip, ic, _, _⟩ : Tw) rfl rfl ?_
    intro w5 L5 k5
    have b5 : Below w.heap.size w w5 := bel_kp (bel_call bW (Nat.le_refl _) b1) k5 (Nat.le_refl _) (bel_call bW (Nat.le_refl _) b1).size
    have o5 := own_kp om k5 (by omega)
    have g5 := rd_kpF r1 k5 (Nw.far n1 (by omega))
    have g6 := rd_kpF r2 k5 (Nw.far n2 (by omega))
    refine hK.out _ _ b5 (fun hHeld => ?_)
    clear hK K
    try simp only [Act.put, List.getElem_toArray, List.getElem_cons_succ, List.getElem_cons_zero]
    refine wpAnyH_done (by kernel_rfl) ?_ _
    go_wp2
    have e9 := load30 L5
    refine bodyPost_ret (v := .agg #[.slice gp 12 gc, .slice ip 12 ic, .slice (some ⟨_, 0, none⟩) 12 12]) (by simp [results, Try.results9, asAddr, e9]) rfl ⟨⟨gp, gc, ip, ic, _, _⟩, rfl, ⟨g5, g6, ⟨_, own_rd o5, hts _⟩, rfl, rfl, rfl⟩, b5⟩
theorem make35 (w : World) (base : Nat) (hb : base ≤ w.heap.size) : ∃ w', (Instr.makeSlice 33 (.int .i64 12) (.int .i64 12)).run Try.prog w = .ok (.slice (some ⟨w.heap.size, 0, none⟩) 12 12) w' ∧ Own eT w' base 56 (some ⟨w.heap.size, 0, none⟩) 12 (List.replicate 12 tc0) ∧ Below w.heap.size w w' := by
  obtain ⟨i, hi, h0, h1, h2⟩ := info_parts Try.info56
  obtain ⟨w', h3, h4, h5⟩ := run_make_full (P := Try.prog) (w := w) base 33 56 i _ 10 Try.underlying33 hi h0 h1 .i64 .i64 12 (by rw [h2]; decide) (by decide) hb
  have e : (madeCells (Value.agg #[.int .i64 0, .int .i64 0, .int .i64 0, .int .i64 0, .int .i64 0, .slice none 0 0, .slice none 0 0, .int .u32 0, .slice none 0 0, .int .u32 0]).cells (12 * 10)).toList = fl eT (List.replicate 12 tc0) := by kernel_rfl
  refine ⟨w', h3, ?_, (Below.refl _ _).grown h5 (Nat.le_refl _) (fun k hk => by cases hk)⟩
  unfold Own
  rw [← e]
  exact h4
set_option maxRecDepth 20000 in
set_option maxHeartbeats 2000000 in
theorem newtable_any (w : World) : Calls Try.prog 10 #[] w fun e w' => ∃ y : Tw, e = .returned (.agg #[.slice y.gp 12 y.gc, .slice y.ip 12 y.ic, .slice y.tp 12 y.tc]) ∧ Tr w' y newT ∧ Below w.heap.size w w' := by
  obtain ⟨W, hW⟩ : ∃ W, W = w.alloc (.cells #[.slice none 0 0, .slice none 0 0, .slice none 0 0] 35) := ⟨_, rfl⟩
  have bW : Below w.heap.size w W := by rw [hW]; exact bel_self _ _
  have hsz : W.heap.size = w.heap.size + 1 := by rw [hW]; simp
  have hR : Lv W w.heap.size #[.slice none 0 0, .slice none 0 0, .slice none 0 0] 35 := by rw [hW]; exact Lv.new _ _ _
  have hts : ∀ w : World, Ts w (List.replicate 12 tc0) newT.T := fun w => ⟨rfl, fun i h1 h2 => by
    have e1 : (List.replicate 12 tc0)[i]'h1 = tc0 := List.getElem_replicate ..
    have e2 : newT.T[i]'h2 = th0 := List.getElem_replicate ..
    rw [e1, e2]
    exact Ok.zero w⟩
  have hzd : W.drew.heap.size = W.heap.size := rfl
  go_enter Try.func10, Try.ntmps10
  go_wp2
  rw [← hW]
  clear hW
  refine wp_region_held_drew (S := fun w' => Below w.heap.size w w') (by kernel_rfl) bW.drew (fun hHeld => ?_)
  refine wpAnyH_ready (rs := [0, 1]) (by kernel_rfl) (by simp) ?_
  refine AllReadyH.cons (o := _) rfl (fun K hK => ?_) (AllReadyH.cons (o := _) rfl (fun K hK => ?_) (AllReadyH.nil))
  · go_simp
    go_at_call 34; refine (rnews_t _).mono ?_
    rintro e w1 ⟨gp, gc, ip, ic, rfl, r1, r2, n1, n2, b1'⟩
    have hz1 := b1'.size
    have b1 : Below W.heap.size W w1 := bel_call (Below.refl W.heap.size W).drew (Nat.le_refl _) b1'
    refine hK.out _ _ (bel_call bW (Nat.le_refl _) b1) (fun hHeld => ?_)
    clear hK K
    try simp only [Act.put, List.getElem_toArray, List.getElem_cons_zero, List.setIfInBounds_toArray, List.set_cons_zero, List.set_cons_succ]
    refine wpAnyH_ready (rs := [1]) (by kernel_rfl) (by simp) ?_
    refine AllReadyH.cons (o := _) rfl (fun K hK => ?_) (AllReadyH.nil)
    obtain ⟨wm, hrm, om, bm'⟩ := make35 w1 W.heap.size b1.size
    go_simp
    have hzm := bm'.size
    have bm : Below W.heap.size W wm := bel_call b1 (Nat.le_refl _) bm'
    have r1 := r1.below bm'
    have r2 := r2.below bm'
    refine hK.out _ _ (bel_call bW (Nat.le_refl _) bm) (fun hHeld => ?_)
    clear hK K
    try simp only [Act.put, List.getElem_toArray, List.getElem_cons_succ, List.getElem_cons_zero, List.setIfInBounds_toArray, List.set_cons_zero, List.set_cons_succ]
    refine wpAnyH_take (i := 2) (oi := _) (v := ?_) rfl (by kernel_rfl) (by kernel_rfl) (by kernel_rfl) (fun _ _ _ h => h) (Or.inl ⟨by rfl, ?_⟩) hHeld ?_
    rotate_left
    · intro w' hSw
      (go_simp <;> with_reducible rfl)
    try simp only [Act.put, List.getElem_toArray, List.getElem_cons_succ, List.getElem_cons_zero, List.setIfInBounds_toArray, List.set_cons_zero, List.set_cons_succ]
    refine wpAnyH_ready (rs := [3]) (by kernel_rfl) (by simp) ?_
    refine AllReadyH.cons (o := _) rfl (fun K hK => ?_) (AllReadyH.nil)
    have R1 := hR.below bm
    refine step_stV (E := eTb) rfl 35 _ _ rfl size35 w.heap.size _ R1 rfl (⟨gp, gc, ip, ic, _, _⟩ : Tw) rfl rfl ?_
    intro w5 L5 k5
    have b5 : Below w.heap.size w w5 := bel_kp (bel_call bW (Nat.le_refl _) bm) k5 (Nat.le_refl _) (bel_call bW (Nat.le_refl _) bm).size
    have o5 := own_kp om k5 (by omega)
    have g5 := rd_kpF r1 k5 (Nw.far n1 (by omega))
    have g6 := rd_kpF r2 k5 (Nw.far n2 (by omega))
    refine hK.out _ _ b5 (fun hHeld => ?_)
    clear hK K
    try simp only [Act.put, List.getElem_toArray, List.getElem_cons_succ, List.getElem_cons_zero]
    refine wpAnyH_done (by kernel_rfl) ?_ _
    go_wp2
    have e9 := load35 L5
    refine bodyPost_ret (v := .agg #[.slice gp 12 gc, .slice ip 12 ic, .slice (some ⟨_, 0, none⟩) 12 12]) (by simp [results, Try.results10, asAddr, e9]) rfl ⟨⟨gp, gc, ip, ic, _, _⟩, rfl, ⟨g5, g6, ⟨_, own_rd o5, hts _⟩, rfl, rfl, rfl⟩, b5⟩
  · obtain ⟨wm, hrm, om, bm'⟩ := make35 W.drew W.heap.size (Below.refl W.heap.size W).drew.size
    go_simp
    have hzm := bm'.size
    have bm : Below W.heap.size W wm := bel_call (Below.refl W.heap.size W).drew (Nat.le_refl _) bm'
    refine hK.out _ _ (bel_call bW (Nat.le_refl _) bm) (fun hHeld => ?_)
    clear hK K
    try simp only [Act.put, List.getElem_toArray, List.getElem_cons_succ, List.getElem_cons_zero, List.setIfInBounds_toArray, List.set_cons_zero, List.set_cons_succ]
    refine wpAnyH_ready (rs := [0]) (by kernel_rfl) (by simp) ?_
    refine AllReadyH.cons (o := _) rfl (fun K hK => ?_) (AllReadyH.nil)
    go_simp
    go_at_call 34; refine (rnews_t _).mono ?_
    rintro e w1 ⟨gp, gc, ip, ic, rfl, r1, r2, n1, n2, b1'⟩
    have hz1 := b1'.size
    have b1 : Below W.heap.size W w1 := bel_call bm (Nat.le_refl _) b1'
    have om := own_below om b1'
    refine hK.out _ _ (bel_call bW (Nat.le_refl _) b1) (fun hHeld => ?_)
    clear hK K
    try simp only [Act.put, List.getElem_toArray, List.getElem_cons_zero, List.setIfInBounds_toArray, List.set_cons_zero, List.set_cons_succ]
    refine wpAnyH_take (i := 2) (oi := _) (v := ?_) rfl (by kernel_rfl) (by kernel_rfl) (by kernel_rfl) (fun _ _ _ h => h) (Or.inl ⟨by rfl, ?_⟩) hHeld ?_
    rotate_left
    · intro w' hSw
      (go_simp <;> with_reducible rfl)
    try simp only [Act.put, List.getElem_toArray, List.getElem_cons_succ, List.getElem_cons_zero, List.setIfInBounds_toArray, List.set_cons_zero, List.set_cons_succ]
    refine wpAnyH_ready (rs := [3]) (by kernel_rfl) (by simp) ?_
    refine AllReadyH.cons (o := _) rfl (fun K hK => ?_) (AllReadyH.nil)
    have R1 := hR.below b1
    refine step_stV (E := eTb) rfl 35 _ _ rfl size35 w.heap.size _ R1 rfl (⟨gp, gc, ip, ic, _, _⟩ : Tw) rfl rfl ?_
    intro w5 L5 k5
    have b5 : Below w.heap.size w w5 := bel_kp (bel_call bW (Nat.le_refl _) b1) k5 (Nat.le_refl _) (bel_call bW (Nat.le_refl _) b1).size
    have o5 := own_kp om k5 (by omega)
    have g5 := rd_kpF r1 k5 (Nw.far n1 (by omega))
    have g6 := rd_kpF r2 k5 (Nw.far n2 (by omega))
    refine hK.out _ _ b5 (fun hHeld => ?_)
    clear hK K
    try simp only [Act.put, List.getElem_toArray, List.getElem_cons_succ, List.getElem_cons_zero]
    refine wpAnyH_done (by kernel_rfl) ?_ _
    go_wp2
    have e9 := load35 L5
    refine bodyPost_ret (v := .agg #[.slice gp 12 gc, .slice ip 12 ic, .slice (some ⟨_, 0, none⟩) 12 12]) (by simp [results, Try.results10, asAddr, e9]) rfl ⟨⟨gp, gc, ip, ic, _, _⟩, rfl, ⟨g5, g6, ⟨_, own_rd o5, hts _⟩, rfl, rfl, rfl⟩, b5⟩
end Go.Proofs.Ytcncpefdjgnhdaa
