/-
  The law SlotsOnce returns true, by its own Go text; nothing that was there has turned.
-/
import Derived.Test.YtflfmcclihahmaaOnceState
namespace Go.Proofs.Ytflfmcclihahmaa
open Go.ChangeShapes Go.WideShapes Go.ChangeAt Go.RowKit Go.Maps
attribute [local go_sem ↓] Go.wp_at_zero Go.wp_at_succ

set_option maxRecDepth 10000 in
set_option maxHeartbeats 2000000 in
theorem once_walk (z0 : Int) (p1 : Option Addr) (c1 n : Nat) (ls : List Int) (w : World) (hz : 0 ≤ z0 ∧ z0 ≤ 255) (hl : Rd w (Value.int .u8) p1 c1 ls) (hn : n = ls.length) (hb : ∀ x ∈ ls, 0 ≤ x ∧ x ≤ 255) (hnx : n ≤ 9223372036854775807) :
    Calls Try.prog 4 #[.int .u8 z0, .slice p1 n c1] w fun e w' => e = .returned (.bool true) ∧ Below w.heap.size w w' := by
  have HN : Hid (n = ls.length) := hn
  clear hn
  by_cases h60 : 60 < n
  · have d : decide (60 < n) = true := by simpa using h60
    go_enter Try.func4, Try.ntmps4
    go_wp2_with (go_at_call 7; refine (begun_any _).mono ?_; rintro e w1 ⟨rfl, hb1⟩)
    go_ret
    exact ⟨rfl, hb1⟩
  have d60 : decide (60 < n) = false := by simpa using h60
  have hn60 : n ≤ 60 := by omega
  clear hnx h60
  obtain ⟨N, hN⟩ : ∃ N : Nat, z0 % 9 = N := ⟨(z0 % 9).toNat, by omega⟩
  have hN8 : N ≤ 8 := by omega
  have hNN : newN N = N := by unfold newN; omega
  go_enter Try.func4, Try.ntmps4
  go_wp2_with (first
    | (go_at_call 7; refine (begun_any _).mono ?_; rintro e w1 ⟨rfl, hb1⟩)
    | (go_at_call 8; refine (new_n N N _ hNN).mono ?_; rintro e w2 ⟨gp0, gc0, ip0, ic0, rfl, hs0, hb2⟩))
  have hS : w.heap.size ≤ w2.heap.size := Nat.le_trans hb1.size hb2.size
  have hW : Below w.heap.size w (w2.alloc (Obj.cells #[Value.slice gp0 N gc0, Value.slice ip0 N ic0] 29)) := bel_call (bel_call hb1 (Nat.le_refl _) hb2) (Nat.le_refl _) (bel1 _ _)
  have hst0 : St w (w2.alloc (Obj.cells #[Value.slice gp0 N gc0, Value.slice ip0 N ic0] 29)) w2.heap.size N 0 gp0 gc0 ip0 ic0 (List.replicate N 0) (List.replicate N false) [] [] none 0 none 0 0 :=
    ⟨by simp [go_sem], by simp [go_sem], fun o => by simp [go_sem], hs0.sl.below (bel1 _ _), fun g hg => by simp at hg; omega, inv_zero N, rfl, Nat.le_refl _, World.ownsRow_nil _ _ _ _, World.ownsRow_nil _ _ _ _, .inl rfl, hW, hS, fun x hx => by simp at hx⟩
  have HNR : Hid (z0 % 9 = (N : Int)) := hN
  clear hs0 hb1 hb2 hW hNN
  generalize (w2.alloc (Obj.cells #[Value.slice gp0 N gc0, Value.slice ip0 N ic0] 29)) = W0 at *
  generalize w2.heap.size = S at *
  go_loopw [6, 7, 8] (fun tv hv i wr => ∃ k : Nat, k ≤ n ∧ i = .int .i64 k ∧ ∃ gp gc ip ic gs bs told has tp tc hp hc T, tv = .slice tp T tc ∧ hv = .slice hp T hc ∧ St w wr S N k gp gc ip ic gs bs told has tp tc hp hc T) (fun _ _ i _ => n - (intOf i).toNat)
  case atStart => exact ⟨0, Nat.zero_le _, rfl, _, _, _, _, _, _, _, _, _, _, _, _, _, rfl, rfl, hst0⟩
  case round =>
    obtain ⟨k, hk, rfl, gp, gc, ip, ic, gs, bs, told, has, tp, tc, hp, hc, T, rfl, rfl, hst⟩ := hrel
    clear hst0
    by_cases hlt : k < n
    · have hkl : k < ls.length := by rw [← HN.out]; exact hlt
      obtain ⟨b, o, rfl, hbb, hcc⟩ := (hl.below hst.bw).some (by omega)
      have hck := hcc k hkl
      have hzb := hb ls[k] (List.getElem_mem hkl)
      generalize ls[k] = z at *
      clear hcc
      have zk : (k : Int) < (n : Int) := by omega
      have hT : T ≤ 60 := Nat.le_trans hst.tk (by omega)
      have c0 := hst.c0
      have c1' := hst.c1
      have f0 := hst.f
      have hSl : S < wr.heap.size := lt_of_cell c0
      obtain ⟨i24, hi24, hz24, hs24, hy24⟩ := info_parts Try.info24
      obtain ⟨i4, hi4, hz4, hs4, hy4⟩ := info_parts Try.info4
      by_cases hA : z % 2 = 0 ∨ T = 0
      · cases hfr : freeIn gs bs with
        | some kf =>
          have hok : tOk gs bs = true := by unfold tOk; rw [hfr]; rfl
          have hL : lenM gs bs < N := by have := ok_len hst.inv.gl hst.inv.bl; rw [hok] at this; simpa using this.symm
          have HF : Hid (freeIn gs bs = some kf) := hfr
          have HOK : Hid (tOk gs bs = true) := hok
          obtain ⟨L, hLe⟩ : ∃ L, lenM gs bs = L := ⟨_, rfl⟩
          rw [hLe] at hL
          have HL : Hid (lenM gs bs = L) := hLe
          have zL : decide ((L : Int) < (N : Int)) = true := by simpa using hL
          clear hfr hok hLe
          obtain ⟨at_, hat⟩ : ∃ x, tAt gs bs = x := ⟨_, rfl⟩
          obtain ⟨gen, hgen⟩ : ∃ x, tGen gs bs = x := ⟨_, rfl⟩
          have HAT : Hid (tAt gs bs = at_) := hat
          have HGEN : Hid (tGen gs bs = gen) := hgen
          clear hat hgen
          by_cases hz2 : z % 2 = 0
          · have dz : (z % 2 == 0) = true := by simpa using hz2
            clear hA hz2
            go_wp2_with (first
              | (go_at_call 10; refine (take_n gp ip gc ic N N gs bs (tg gs bs) (tb gs bs) at_ gen true _ hst.sl rfl rfl HAT.out HGEN.out HOK.out (small_bd (by omega) (tg_bd hst.bd bs))).mono ?_; rintro e w3 ⟨gp3, gc3, ip3, ic3, rfl, hs3, hb3⟩; have d0 := (hb3.cell (p := ⟨S, 0, none⟩) hSl).trans c0; have d1 := (hb3.cell (p := ⟨S, 1, none⟩) hSl).trans c1'; have hS3 : S < w3.heap.size := Nat.lt_of_lt_of_le hSl hb3.size; have hS3' : S < w3.heap.size + 1 := Nat.lt_succ_of_lt hS3)
              | (go_at_call 17; refine (len_n gp ip gc ic N N gs bs L _ ((hst.sl.below hb3).below (bel2 _ _ _)) HL.out).mono ?_; rintro e w4 ⟨rfl, hb4⟩; have t4 := (At2.new1 w3 (.slice gp3 N gc3) (.slice ip3 N ic3) 29 (Obj.cells #[.int .i64 at_, .int .i64 gen] 24)).below hb4; have h4 := (At2.new2 w3 (Obj.cells #[Value.slice gp3 N gc3, Value.slice ip3 N ic3] 29) (.int .i64 at_) (.int .i64 gen) 24).below hb4; have t4x := t4.1; have t4y := t4.2; have h4x := h4.1; have h4y := h4.2; have hB4 : Below w3.heap.size w3 w4 := bel_call (bel2 _ _ _) (Nat.le_refl _) hb4; have g0 := (hB4.cell (p := ⟨S, 0, none⟩) hS3).trans d0; have g1 := (hB4.cell (p := ⟨S, 1, none⟩) hS3).trans d1; have f4 : ∀ o, w4.frozen? ⟨S, o, none⟩ = false := (fun o => (hB4.frozen (p := ⟨S, o, none⟩) hS3).trans ((hb3.frozen (p := ⟨S, o, none⟩) hSl).trans (f0 o))); have n1 : S ≠ w3.heap.size := (by omega); have n2 : S ≠ w3.heap.size + 1 := (by omega); have OT6 := (ownsRow_setCell_below (ownsRow_setCell_below (owns_below (owns_below hst.ot hb3) hB4) (a := ⟨S, 0, none⟩) (Nat.lt_succ_self S) (.slice gp3 N gc3)) (a := ⟨S, 1, none⟩) (Nat.lt_succ_self S) (.slice ip3 N ic3)).alloc (Obj.cells #[.int .i64 at_, .int .i64 gen] 24); have OH6 := (ownsRow_setCell_below (ownsRow_setCell_below (owns_below (owns_below hst.oh hb3) hB4) (a := ⟨S, 0, none⟩) (Nat.lt_succ_self S) (.slice gp3 N gc3)) (a := ⟨S, 1, none⟩) (Nat.lt_succ_self S) (.slice ip3 N ic3)).alloc (Obj.cells #[.int .i64 at_, .int .i64 gen] 24); have hS4 : S < w4.heap.size := Nat.lt_of_lt_of_le hS3 hB4.size)
              | (at_builtin; refine wpList_append_lies _ rfl (.tmp 59) (.tmp 61) 33 rfl (S + 1) 24 i24 (.agg #[.int .i64 0, .int .i64 0]) 2 16 Try.underlying33 hi24 hz24 hs24 hy24 rfl (by decide) (.slice tp T tc) T (flat told) rfl OT6 ⟨w4.heap.size, 0, none⟩ 1 1 [.int .i64 at_, .int .i64 gen] rfl rfl (news2 _ _ _ _ _ (by simp [World.setCell])) (two_ints _ _) (by decide) (by unfold maxLen; omega) (by omega) (by simp [World.setCell]; omega) (w4.heap.size + 1) (by simp [World.setCell]) ?_; intro tbk tc5 w5 hot5 hgr5 hat5 hlt5; have oh5 := OH6.kept hgr5 (ap_symm hst.ap); have hs5 : w4.heap.size + 1 ≤ w5.heap.size := (by have := hgr5.size; simpa [World.setCell] using this))
              | (at_builtin; refine wpList_append_lies _ rfl (.tmp 63) (.tmp 64) 27 rfl (S + 1) 4 i4 (.bool false) 1 1 Try.underlying27 hi4 hz4 hs4 hy4 rfl (by decide) (.slice hp T hc) T (has.map Value.bool) rfl (oh5.alloc _) ⟨w5.heap.size, 0, none⟩ 1 1 [.bool true] rfl rfl (news1 _ _ _ _ rfl) (one_bool _) (by decide) (by unfold maxLen; omega) (by omega) (by simp; omega) (w5.heap.size + 1) (by simp) ?_; intro hb' hc6 w6 hoh6 hgr6 hat6 hlt6))
            have hst' : St w w6 S N (k + 1) gp3 gc3 ip3 ic3 (tg gs bs) (tb gs bs) (told ++ [(at_, gen)]) (has ++ [true]) (some ⟨tbk, 0, none⟩) tc5 (some ⟨hb', 0, none⟩) hc6 (T + 1) := by
              have e1 := HAT.out
              have e2 := HGEN.out
              rw [← e1, ← e2] at hgr5 hot5 ⊢
              exact st_took hst HF.out hs3 hb3 hB4 hgr5 hot5 hat5 hgr6 hoh6 hat6
            clear hgr5 hgr6 hat5 hat6 OT6 OH6 hot5 hoh6 oh5 hs3 hst f4 g0 g1 t4 h4 t4x t4y h4x h4y d0 d1 hb4 hB4 hb3 hck c0 c1' f0 zL hL HF HOK HL HAT HGEN
            generalize htd : told ++ [(at_, gen)] = told' at *
            generalize hhs : has ++ [true] = has' at *
            clear htd hhs
            generalize hTT : T + 1 = T' at *
            have hT' : T' ≤ 61 := by omega
            clear hTT
            generalize tg gs bs = gs' at *
            generalize tb gs bs = bs' at *
            go_loopw [15] (fun j wx => ∃ jj : Nat, jj ≤ T' ∧ j = .int .i64 jj ∧ Below w6.heap.size w6 wx) (fun j _ => T' - (intOf j).toNat)
            case atStart => exact ⟨0, Nat.zero_le _, rfl, Below.refl _ _⟩
            case round =>
              obtain ⟨jj, hjj, rfl, hbx⟩ := hrel
              by_cases hjl : jj < T'
              · obtain ⟨tbb, etp, htb, htl', _, htc⟩ := owns_cells hst'.ot (by omega)
                obtain ⟨hbb', ehp, hhb, hhl', _, hhc⟩ := owns_cells hst'.oh (by omega)
                have hjt : jj < told'.length := by rw [← hst'.tl]; exact hjl
                have hjh : jj < has'.length := by rw [hst'.inv.hl]; exact hjt
                have hfl := flat_at told' jj hjt
                have e0 := (hbx.cell (p := ⟨tbb, jj * 2, none⟩) htl').trans (htc _ _ hfl.1)
                have e1 := (hbx.cell (p := ⟨tbb, jj * 2 + 1, none⟩) htl').trans (htc _ _ hfl.2)
                have e2 := (hbx.cell (p := ⟨hbb', jj, none⟩) hhl').trans (hhc jj (.bool has'[jj]) (by simp [hjh]))
                have hSw : S < w6.heap.size := lt_of_cell hst'.c0
                have e3 := (hbx.cell (p := ⟨S, 0, none⟩) hSw).trans hst'.c0
                have e4 := (hbx.cell (p := ⟨S, 1, none⟩) hSw).trans hst'.c1
                have hsl' := hst'.sl.below hbx
                have hat' := hst'.inv.at_ jj hjt hjh
                obtain ⟨ao, ha1, hao, hgo⟩ := hst'.inv.old told'[jj] (List.getElem_mem hjt)
                have hao64 : ao < 64 := by have := hst'.inv.gl; omega
                have hwf1 : (Lit.int .i64 told'[jj].1).wf = true := by rw [hao]; exact wf_nat (by omega)
                have HAP : Hid (∀ m (hm : m < jj), told'[m]'(Nat.lt_trans hm hjt) ≠ told'[jj]) := fun m hm => hst'.inv.ap m jj hm hjt
                have hwf2 : (Lit.int .i64 told'[jj].2).wf = true := by
                  have h1 := hst'.lo told'[jj] (List.getElem_mem hjt)
                  have h2 := hst'.bd gs'[ao] (List.getElem_mem ha1)
                  exact wf_of (by omega)
                cases etp
                cases ehp
                have HTC : Hid (∀ i v, (flat told')[i]? = some v → w6.cell? ⟨tbk, i, none⟩ = some v) := htc
                have z0 : (jj : Int) < (T' : Int) := by omega
                obtain ⟨xa, hxa⟩ : ∃ x, told'[jj].1 = x := ⟨_, rfl⟩
                obtain ⟨xg, hxg⟩ : ∃ x, told'[jj].2 = x := ⟨_, rfl⟩
                obtain ⟨xh, hxh⟩ : ∃ x, has'[jj] = x := ⟨_, rfl⟩
                rw [hxa] at e0 hwf1 hat'
                rw [hxg] at e1 hwf2 hat'
                rw [hxh] at e2 hat'
                have HXA : Hid (told'[jj].1 = xa) := hxa
                have HXG : Hid (told'[jj].2 = xg) := hxg
                have HAT : Hid (hasM gs' bs' xa xg = xh) := hat'.symm
                clear hxa hxg hxh hat' hfl htc hhc hao hgo ha1
                go_wp2
                go_region_held3 (fun w' => w'.cell? ⟨S, 0, none⟩ = some (.slice gp3 N gc3) ∧ w'.cell? ⟨S, 1, none⟩ = some (.slice ip3 N ic3) ∧ w'.cell? ⟨tbk, jj * 2, none⟩ = some (.int .i64 xa) ∧ w'.cell? ⟨tbk, jj * 2 + 1, none⟩ = some (.int .i64 xg) ∧ w'.cell? ⟨hb', jj, none⟩ = some (.bool xh))
                  ((first | with_reducible (exact ⟨(hb8.cell (p := ⟨S, 0, none⟩) (lt_of_cell e3)).trans e3, (hb8.cell (p := ⟨S, 1, none⟩) (lt_of_cell e4)).trans e4, (hb8.cell (p := ⟨tbk, jj * 2, none⟩) (lt_of_cell e0)).trans e0, (hb8.cell (p := ⟨tbk, jj * 2 + 1, none⟩) (lt_of_cell e1)).trans e1, (hb8.cell (p := ⟨hb', jj, none⟩) (lt_of_cell e2)).trans e2⟩) | exact ⟨e3, e4, e0, e1, e2⟩))
                  ((go_at_call 15; refine (has_n gp3 ip3 gc3 ic3 N N gs' bs' xa xg xh _ (hsl'.below (Below.refl _ _).drew) hwf1 hwf2 HAT.out).mono ?_; rintro e w8 ⟨rfl, hb8'⟩; have hb8 : Below wr.heap.size wr w8 := (Below.refl _ _).drew.trans hb8'))
                go_wp2
                have p0 := (hb8.cell (p := ⟨tbk, jj * 2, none⟩) (lt_of_cell e0)).trans e0
                have p1 := (hb8.cell (p := ⟨tbk, jj * 2 + 1, none⟩) (lt_of_cell e1)).trans e1
                have hB8 := bel_call hbx (Nat.le_refl _) hb8
                clear e0 e1 e2 e3 e4
                go_loopw [16] (fun m wy => ∃ mm : Nat, mm ≤ jj ∧ m = .int .i64 mm ∧ ∃ nq, wy = w8.drewN nq) (fun m _ => jj - (intOf m).toNat)
                case atStart => exact ⟨0, Nat.zero_le _, rfl, 0, rfl⟩
                case round =>
                  obtain ⟨mm, hmm, rfl, nq, rfl⟩ := hrel
                  by_cases hml : mm < jj
                  · have hmt : mm < told'.length := Nat.lt_trans hml hjt
                    have hfl := flat_at told' mm hmt
                    have q0 := (hB8.cell (p := ⟨tbk, mm * 2, none⟩) htl').trans (HTC.out _ _ hfl.1)
                    have q1 := (hB8.cell (p := ⟨tbk, mm * 2 + 1, none⟩) htl').trans (HTC.out _ _ hfl.2)
                    have hne := HAP.out mm hml
                    obtain ⟨ya, hya⟩ : ∃ x, told'[mm].1 = x := ⟨_, rfl⟩
                    obtain ⟨yg, hyg⟩ : ∃ x, told'[mm].2 = x := ⟨_, rfl⟩
                    have hne' : ¬ (ya = xa ∧ yg = xg) := fun h => hne (Prod.ext (by rw [hya, HXA.out, h.1]) (by rw [hyg, HXG.out, h.2]))
                    rw [hya] at q0
                    rw [hyg] at q1
                    have m0 : (mm : Int) < (T' : Int) := by omega
                    have m1 : (mm : Int) < (jj : Int) := by omega
                    clear hfl hne hya hyg
                    by_cases hy1 : ya = xa
                    · subst hy1
                      have deq : (yg == xg) = false := by simpa using fun h => hne' ⟨rfl, h⟩
                      go_wp2
                      go_quiet (fail)
                      go_wp2
                      go_roundw
                      case rel => exact ⟨mm + 1, by omega, by go_num, _, rfl⟩
                      case measure => simp [intOf]; omega
                    · have deq : (ya == xa) = false := by simpa using hy1
                      go_wp2
                      go_quiet (fail)
                      go_wp2
                      go_roundw
                      case rel => exact ⟨mm + 1, by omega, by go_num, _, rfl⟩
                      case measure => simp [intOf]; omega
                  · go_wp2
                    go_roundw
                    case rel => exact ⟨jj + 1, by omega, by go_num, below_drewN hB8⟩
                    case measure => simp [intOf]; omega
              · go_wp2
                go_roundw
                case rel => exact ⟨k + 1, by omega, by go_num, gp3, gc3, ip3, ic3, gs', bs', told', has', _, tc5, _, hc6, T', rfl, rfl, hst'.below hbx⟩
                case measure => simp [intOf]; omega
          · have dz : (z % 2 == 0) = false := by simpa using hz2
            have dT : ((T : Int) == 0) = true := by simp [hA.resolve_left hz2]
            clear hA hz2
            go_wp2_with (first
              | (go_at_call 10; refine (take_n gp ip gc ic N N gs bs (tg gs bs) (tb gs bs) at_ gen true _ hst.sl rfl rfl HAT.out HGEN.out HOK.out (small_bd (by omega) (tg_bd hst.bd bs))).mono ?_; rintro e w3 ⟨gp3, gc3, ip3, ic3, rfl, hs3, hb3⟩; have d0 := (hb3.cell (p := ⟨S, 0, none⟩) hSl).trans c0; have d1 := (hb3.cell (p := ⟨S, 1, none⟩) hSl).trans c1'; have hS3 : S < w3.heap.size := Nat.lt_of_lt_of_le hSl hb3.size; have hS3' : S < w3.heap.size + 1 := Nat.lt_succ_of_lt hS3)
              | (go_at_call 17; refine (len_n gp ip gc ic N N gs bs L _ ((hst.sl.below hb3).below (bel2 _ _ _)) HL.out).mono ?_; rintro e w4 ⟨rfl, hb4⟩; have t4 := (At2.new1 w3 (.slice gp3 N gc3) (.slice ip3 N ic3) 29 (Obj.cells #[.int .i64 at_, .int .i64 gen] 24)).below hb4; have h4 := (At2.new2 w3 (Obj.cells #[Value.slice gp3 N gc3, Value.slice ip3 N ic3] 29) (.int .i64 at_) (.int .i64 gen) 24).below hb4; have t4x := t4.1; have t4y := t4.2; have h4x := h4.1; have h4y := h4.2; have hB4 : Below w3.heap.size w3 w4 := bel_call (bel2 _ _ _) (Nat.le_refl _) hb4; have g0 := (hB4.cell (p := ⟨S, 0, none⟩) hS3).trans d0; have g1 := (hB4.cell (p := ⟨S, 1, none⟩) hS3).trans d1; have f4 : ∀ o, w4.frozen? ⟨S, o, none⟩ = false := (fun o => (hB4.frozen (p := ⟨S, o, none⟩) hS3).trans ((hb3.frozen (p := ⟨S, o, none⟩) hSl).trans (f0 o))); have n1 : S ≠ w3.heap.size := (by omega); have n2 : S ≠ w3.heap.size + 1 := (by omega); have OT6 := (ownsRow_setCell_below (ownsRow_setCell_below (owns_below (owns_below hst.ot hb3) hB4) (a := ⟨S, 0, none⟩) (Nat.lt_succ_self S) (.slice gp3 N gc3)) (a := ⟨S, 1, none⟩) (Nat.lt_succ_self S) (.slice ip3 N ic3)).alloc (Obj.cells #[.int .i64 at_, .int .i64 gen] 24); have OH6 := (ownsRow_setCell_below (ownsRow_setCell_below (owns_below (owns_below hst.oh hb3) hB4) (a := ⟨S, 0, none⟩) (Nat.lt_succ_self S) (.slice gp3 N gc3)) (a := ⟨S, 1, none⟩) (Nat.lt_succ_self S) (.slice ip3 N ic3)).alloc (Obj.cells #[.int .i64 at_, .int .i64 gen] 24); have hS4 : S < w4.heap.size := Nat.lt_of_lt_of_le hS3 hB4.size)
              | (at_builtin; refine wpList_append_lies _ rfl (.tmp 59) (.tmp 61) 33 rfl (S + 1) 24 i24 (.agg #[.int .i64 0, .int .i64 0]) 2 16 Try.underlying33 hi24 hz24 hs24 hy24 rfl (by decide) (.slice tp T tc) T (flat told) rfl OT6 ⟨w4.heap.size, 0, none⟩ 1 1 [.int .i64 at_, .int .i64 gen] rfl rfl (news2 _ _ _ _ _ (by simp [World.setCell])) (two_ints _ _) (by decide) (by unfold maxLen; omega) (by omega) (by simp [World.setCell]; omega) (w4.heap.size + 1) (by simp [World.setCell]) ?_; intro tbk tc5 w5 hot5 hgr5 hat5 hlt5; have oh5 := OH6.kept hgr5 (ap_symm hst.ap); have hs5 : w4.heap.size + 1 ≤ w5.heap.size := (by have := hgr5.size; simpa [World.setCell] using this))
              | (at_builtin; refine wpList_append_lies _ rfl (.tmp 63) (.tmp 64) 27 rfl (S + 1) 4 i4 (.bool false) 1 1 Try.underlying27 hi4 hz4 hs4 hy4 rfl (by decide) (.slice hp T hc) T (has.map Value.bool) rfl (oh5.alloc _) ⟨w5.heap.size, 0, none⟩ 1 1 [.bool true] rfl rfl (news1 _ _ _ _ rfl) (one_bool _) (by decide) (by unfold maxLen; omega) (by omega) (by simp; omega) (w5.heap.size + 1) (by simp) ?_; intro hb' hc6 w6 hoh6 hgr6 hat6 hlt6))
            have hst' : St w w6 S N (k + 1) gp3 gc3 ip3 ic3 (tg gs bs) (tb gs bs) (told ++ [(at_, gen)]) (has ++ [true]) (some ⟨tbk, 0, none⟩) tc5 (some ⟨hb', 0, none⟩) hc6 (T + 1) := by
              have e1 := HAT.out
              have e2 := HGEN.out
              rw [← e1, ← e2] at hgr5 hot5 ⊢
              exact st_took hst HF.out hs3 hb3 hB4 hgr5 hot5 hat5 hgr6 hoh6 hat6
            clear hgr5 hgr6 hat5 hat6 OT6 OH6 hot5 hoh6 oh5 hs3 hst f4 g0 g1 t4 h4 t4x t4y h4x h4y d0 d1 hb4 hB4 hb3 hck c0 c1' f0 zL hL HF HOK HL HAT HGEN
            generalize htd : told ++ [(at_, gen)] = told' at *
            generalize hhs : has ++ [true] = has' at *
            clear htd hhs
            generalize hTT : T + 1 = T' at *
            have hT' : T' ≤ 61 := by omega
            clear hTT
            generalize tg gs bs = gs' at *
            generalize tb gs bs = bs' at *
            go_loopw [15] (fun j wx => ∃ jj : Nat, jj ≤ T' ∧ j = .int .i64 jj ∧ Below w6.heap.size w6 wx) (fun j _ => T' - (intOf j).toNat)
            case atStart => exact ⟨0, Nat.zero_le _, rfl, Below.refl _ _⟩
            case round =>
              obtain ⟨jj, hjj, rfl, hbx⟩ := hrel
              by_cases hjl : jj < T'
              · obtain ⟨tbb, etp, htb, htl', _, htc⟩ := owns_cells hst'.ot (by omega)
                obtain ⟨hbb', ehp, hhb, hhl', _, hhc⟩ := owns_cells hst'.oh (by omega)
                have hjt : jj < told'.length := by rw [← hst'.tl]; exact hjl
                have hjh : jj < has'.length := by rw [hst'.inv.hl]; exact hjt
                have hfl := flat_at told' jj hjt
                have e0 := (hbx.cell (p := ⟨tbb, jj * 2, none⟩) htl').trans (htc _ _ hfl.1)
                have e1 := (hbx.cell (p := ⟨tbb, jj * 2 + 1, none⟩) htl').trans (htc _ _ hfl.2)
                have e2 := (hbx.cell (p := ⟨hbb', jj, none⟩) hhl').trans (hhc jj (.bool has'[jj]) (by simp [hjh]))
                have hSw : S < w6.heap.size := lt_of_cell hst'.c0
                have e3 := (hbx.cell (p := ⟨S, 0, none⟩) hSw).trans hst'.c0
                have e4 := (hbx.cell (p := ⟨S, 1, none⟩) hSw).trans hst'.c1
                have hsl' := hst'.sl.below hbx
                have hat' := hst'.inv.at_ jj hjt hjh
                obtain ⟨ao, ha1, hao, hgo⟩ := hst'.inv.old told'[jj] (List.getElem_mem hjt)
                have hao64 : ao < 64 := by have := hst'.inv.gl; omega
                have hwf1 : (Lit.int .i64 told'[jj].1).wf = true := by rw [hao]; exact wf_nat (by omega)
                have HAP : Hid (∀ m (hm : m < jj), told'[m]'(Nat.lt_trans hm hjt) ≠ told'[jj]) := fun m hm => hst'.inv.ap m jj hm hjt
                have hwf2 : (Lit.int .i64 told'[jj].2).wf = true := by
                  have h1 := hst'.lo told'[jj] (List.getElem_mem hjt)
                  have h2 := hst'.bd gs'[ao] (List.getElem_mem ha1)
                  exact wf_of (by omega)
                cases etp
                cases ehp
                have HTC : Hid (∀ i v, (flat told')[i]? = some v → w6.cell? ⟨tbk, i, none⟩ = some v) := htc
                have z0 : (jj : Int) < (T' : Int) := by omega
                obtain ⟨xa, hxa⟩ : ∃ x, told'[jj].1 = x := ⟨_, rfl⟩
                obtain ⟨xg, hxg⟩ : ∃ x, told'[jj].2 = x := ⟨_, rfl⟩
                obtain ⟨xh, hxh⟩ : ∃ x, has'[jj] = x := ⟨_, rfl⟩
                rw [hxa] at e0 hwf1 hat'
                rw [hxg] at e1 hwf2 hat'
                rw [hxh] at e2 hat'
                have HXA : Hid (told'[jj].1 = xa) := hxa
                have HXG : Hid (told'[jj].2 = xg) := hxg
                have HAT : Hid (hasM gs' bs' xa xg = xh) := hat'.symm
                clear hxa hxg hxh hat' hfl htc hhc hao hgo ha1
                go_wp2
                go_region_held3 (fun w' => w'.cell? ⟨S, 0, none⟩ = some (.slice gp3 N gc3) ∧ w'.cell? ⟨S, 1, none⟩ = some (.slice ip3 N ic3) ∧ w'.cell? ⟨tbk, jj * 2, none⟩ = some (.int .i64 xa) ∧ w'.cell? ⟨tbk, jj * 2 + 1, none⟩ = some (.int .i64 xg) ∧ w'.cell? ⟨hb', jj, none⟩ = some (.bool xh))
                  ((first | with_reducible (exact ⟨(hb8.cell (p := ⟨S, 0, none⟩) (lt_of_cell e3)).trans e3, (hb8.cell (p := ⟨S, 1, none⟩) (lt_of_cell e4)).trans e4, (hb8.cell (p := ⟨tbk, jj * 2, none⟩) (lt_of_cell e0)).trans e0, (hb8.cell (p := ⟨tbk, jj * 2 + 1, none⟩) (lt_of_cell e1)).trans e1, (hb8.cell (p := ⟨hb', jj, none⟩) (lt_of_cell e2)).trans e2⟩) | exact ⟨e3, e4, e0, e1, e2⟩))
                  ((go_at_call 15; refine (has_n gp3 ip3 gc3 ic3 N N gs' bs' xa xg xh _ (hsl'.below (Below.refl _ _).drew) hwf1 hwf2 HAT.out).mono ?_; rintro e w8 ⟨rfl, hb8'⟩; have hb8 : Below wr.heap.size wr w8 := (Below.refl _ _).drew.trans hb8'))
                go_wp2
                have p0 := (hb8.cell (p := ⟨tbk, jj * 2, none⟩) (lt_of_cell e0)).trans e0
                have p1 := (hb8.cell (p := ⟨tbk, jj * 2 + 1, none⟩) (lt_of_cell e1)).trans e1
                have hB8 := bel_call hbx (Nat.le_refl _) hb8
                clear e0 e1 e2 e3 e4
                go_loopw [16] (fun m wy => ∃ mm : Nat, mm ≤ jj ∧ m = .int .i64 mm ∧ ∃ nq, wy = w8.drewN nq) (fun m _ => jj - (intOf m).toNat)
                case atStart => exact ⟨0, Nat.zero_le _, rfl, 0, rfl⟩
                case round =>
                  obtain ⟨mm, hmm, rfl, nq, rfl⟩ := hrel
                  by_cases hml : mm < jj
                  · have hmt : mm < told'.length := Nat.lt_trans hml hjt
                    have hfl := flat_at told' mm hmt
                    have q0 := (hB8.cell (p := ⟨tbk, mm * 2, none⟩) htl').trans (HTC.out _ _ hfl.1)
                    have q1 := (hB8.cell (p := ⟨tbk, mm * 2 + 1, none⟩) htl').trans (HTC.out _ _ hfl.2)
                    have hne := HAP.out mm hml
                    obtain ⟨ya, hya⟩ : ∃ x, told'[mm].1 = x := ⟨_, rfl⟩
                    obtain ⟨yg, hyg⟩ : ∃ x, told'[mm].2 = x := ⟨_, rfl⟩
                    have hne' : ¬ (ya = xa ∧ yg = xg) := fun h => hne (Prod.ext (by rw [hya, HXA.out, h.1]) (by rw [hyg, HXG.out, h.2]))
                    rw [hya] at q0
                    rw [hyg] at q1
                    have m0 : (mm : Int) < (T' : Int) := by omega
                    have m1 : (mm : Int) < (jj : Int) := by omega
                    clear hfl hne hya hyg
                    by_cases hy1 : ya = xa
                    · subst hy1
                      have deq : (yg == xg) = false := by simpa using fun h => hne' ⟨rfl, h⟩
                      go_wp2
                      go_quiet (fail)
                      go_wp2
                      go_roundw
                      case rel => exact ⟨mm + 1, by omega, by go_num, _, rfl⟩
                      case measure => simp [intOf]; omega
                    · have deq : (ya == xa) = false := by simpa using hy1
                      go_wp2
                      go_quiet (fail)
                      go_wp2
                      go_roundw
                      case rel => exact ⟨mm + 1, by omega, by go_num, _, rfl⟩
                      case measure => simp [intOf]; omega
                  · go_wp2
                    go_roundw
                    case rel => exact ⟨jj + 1, by omega, by go_num, below_drewN hB8⟩
                    case measure => simp [intOf]; omega
              · go_wp2
                go_roundw
                case rel => exact ⟨k + 1, by omega, by go_num, gp3, gc3, ip3, ic3, gs', bs', told', has', _, tc5, _, hc6, T', rfl, rfl, hst'.below hbx⟩
                case measure => simp [intOf]; omega
        | none =>
          have hok : tOk gs bs = false := by unfold tOk; rw [hfr]; rfl
          have hL : ¬ lenM gs bs < N := by have := ok_len hst.inv.gl hst.inv.bl; rw [hok] at this; simpa using this.symm
          have HF : Hid (freeIn gs bs = none) := hfr
          have HOK : Hid (tOk gs bs = false) := hok
          obtain ⟨L, hLe⟩ : ∃ L, lenM gs bs = L := ⟨_, rfl⟩
          rw [hLe] at hL
          have HL : Hid (lenM gs bs = L) := hLe
          have zL : decide ((L : Int) < (N : Int)) = false := by simpa using hL
          clear hfr hok hLe
          obtain ⟨at_, hat⟩ : ∃ x, tAt gs bs = x := ⟨_, rfl⟩
          obtain ⟨gen, hgen⟩ : ∃ x, tGen gs bs = x := ⟨_, rfl⟩
          have HAT : Hid (tAt gs bs = at_) := hat
          have HGEN : Hid (tGen gs bs = gen) := hgen
          clear hat hgen
          by_cases hz2 : z % 2 = 0
          · have dz : (z % 2 == 0) = true := by simpa using hz2
            clear hA hz2
            go_wp2_with (first
              | (go_at_call 10; refine (take_n gp ip gc ic N N gs bs (tg gs bs) (tb gs bs) at_ gen false _ hst.sl rfl rfl HAT.out HGEN.out HOK.out (small_bd (by omega) (tg_bd hst.bd bs))).mono ?_; rintro e w3 ⟨gp3, gc3, ip3, ic3, rfl, hs3, hb3⟩; have d0 := (hb3.cell (p := ⟨S, 0, none⟩) hSl).trans c0; have d1 := (hb3.cell (p := ⟨S, 1, none⟩) hSl).trans c1'; have hS3 : S < w3.heap.size := Nat.lt_of_lt_of_le hSl hb3.size; have hS3' : S < w3.heap.size + 1 := Nat.lt_succ_of_lt hS3)
              | (go_at_call 17; refine (len_n gp ip gc ic N N gs bs L _ ((hst.sl.below hb3).below (bel2 _ _ _)) HL.out).mono ?_; rintro e w4 ⟨rfl, hb4⟩; have t4 := (At2.new1 w3 (.slice gp3 N gc3) (.slice ip3 N ic3) 29 (Obj.cells #[.int .i64 at_, .int .i64 gen] 24)).below hb4; have h4 := (At2.new2 w3 (Obj.cells #[Value.slice gp3 N gc3, Value.slice ip3 N ic3] 29) (.int .i64 at_) (.int .i64 gen) 24).below hb4; have t4x := t4.1; have t4y := t4.2; have h4x := h4.1; have h4y := h4.2; have hB4 : Below w3.heap.size w3 w4 := bel_call (bel2 _ _ _) (Nat.le_refl _) hb4; have g0 := (hB4.cell (p := ⟨S, 0, none⟩) hS3).trans d0; have g1 := (hB4.cell (p := ⟨S, 1, none⟩) hS3).trans d1; have f4 : ∀ o, w4.frozen? ⟨S, o, none⟩ = false := (fun o => (hB4.frozen (p := ⟨S, o, none⟩) hS3).trans ((hb3.frozen (p := ⟨S, o, none⟩) hSl).trans (f0 o))); have n1 : S ≠ w3.heap.size := (by omega); have n2 : S ≠ w3.heap.size + 1 := (by omega); have OT6 := (ownsRow_setCell_below (ownsRow_setCell_below (owns_below (owns_below hst.ot hb3) hB4) (a := ⟨S, 0, none⟩) (Nat.lt_succ_self S) (.slice gp3 N gc3)) (a := ⟨S, 1, none⟩) (Nat.lt_succ_self S) (.slice ip3 N ic3)).alloc (Obj.cells #[.int .i64 at_, .int .i64 gen] 24); have OH6 := (ownsRow_setCell_below (ownsRow_setCell_below (owns_below (owns_below hst.oh hb3) hB4) (a := ⟨S, 0, none⟩) (Nat.lt_succ_self S) (.slice gp3 N gc3)) (a := ⟨S, 1, none⟩) (Nat.lt_succ_self S) (.slice ip3 N ic3)).alloc (Obj.cells #[.int .i64 at_, .int .i64 gen] 24); have hS4 : S < w4.heap.size := Nat.lt_of_lt_of_le hS3 hB4.size))
            try rw [hN]
            have hst' := st_full hst HF.out hs3 hb3 hB4
            clear OT6 OH6 hs3 hst f4 g0 g1 t4 h4 t4x t4y h4x h4y d0 d1 hb4 hB4 hb3 hck c0 c1' f0 zL hL HF HOK HL HAT HGEN
            generalize ((w4.setCell ⟨S, 0, none⟩ (Value.slice gp3 N gc3)).setCell ⟨S, 1, none⟩ (Value.slice ip3 N ic3)) = w6 at *
            generalize tg gs bs = gs' at *
            generalize tb gs bs = bs' at *
            go_loopw [15] (fun j wx => ∃ jj : Nat, jj ≤ T ∧ j = .int .i64 jj ∧ Below w6.heap.size w6 wx) (fun j _ => T - (intOf j).toNat)
            case atStart => exact ⟨0, Nat.zero_le _, rfl, Below.refl _ _⟩
            case round =>
              obtain ⟨jj, hjj, rfl, hbx⟩ := hrel
              by_cases hjl : jj < T
              · obtain ⟨tbb, etp, htb, htl', _, htc⟩ := owns_cells hst'.ot (by omega)
                obtain ⟨hbb', ehp, hhb, hhl', _, hhc⟩ := owns_cells hst'.oh (by omega)
                have hjt : jj < told.length := by rw [← hst'.tl]; exact hjl
                have hjh : jj < has.length := by rw [hst'.inv.hl]; exact hjt
                have hfl := flat_at told jj hjt
                have e0 := (hbx.cell (p := ⟨tbb, jj * 2, none⟩) htl').trans (htc _ _ hfl.1)
                have e1 := (hbx.cell (p := ⟨tbb, jj * 2 + 1, none⟩) htl').trans (htc _ _ hfl.2)
                have e2 := (hbx.cell (p := ⟨hbb', jj, none⟩) hhl').trans (hhc jj (.bool has[jj]) (by simp [hjh]))
                have hSw : S < w6.heap.size := lt_of_cell hst'.c0
                have e3 := (hbx.cell (p := ⟨S, 0, none⟩) hSw).trans hst'.c0
                have e4 := (hbx.cell (p := ⟨S, 1, none⟩) hSw).trans hst'.c1
                have hsl' := hst'.sl.below hbx
                have hat' := hst'.inv.at_ jj hjt hjh
                obtain ⟨ao, ha1, hao, hgo⟩ := hst'.inv.old told[jj] (List.getElem_mem hjt)
                have hao64 : ao < 64 := by have := hst'.inv.gl; omega
                have hwf1 : (Lit.int .i64 told[jj].1).wf = true := by rw [hao]; exact wf_nat (by omega)
                have HAP : Hid (∀ m (hm : m < jj), told[m]'(Nat.lt_trans hm hjt) ≠ told[jj]) := fun m hm => hst'.inv.ap m jj hm hjt
                have hwf2 : (Lit.int .i64 told[jj].2).wf = true := by
                  have h1 := hst'.lo told[jj] (List.getElem_mem hjt)
                  have h2 := hst'.bd gs'[ao] (List.getElem_mem ha1)
                  exact wf_of (by omega)
                cases etp
                cases ehp
                have HTC : Hid (∀ i v, (flat told)[i]? = some v → w6.cell? ⟨tbb, i, none⟩ = some v) := htc
                have z0 : (jj : Int) < (T : Int) := by omega
                obtain ⟨xa, hxa⟩ : ∃ x, told[jj].1 = x := ⟨_, rfl⟩
                obtain ⟨xg, hxg⟩ : ∃ x, told[jj].2 = x := ⟨_, rfl⟩
                obtain ⟨xh, hxh⟩ : ∃ x, has[jj] = x := ⟨_, rfl⟩
                rw [hxa] at e0 hwf1 hat'
                rw [hxg] at e1 hwf2 hat'
                rw [hxh] at e2 hat'
                have HXA : Hid (told[jj].1 = xa) := hxa
                have HXG : Hid (told[jj].2 = xg) := hxg
                have HAT : Hid (hasM gs' bs' xa xg = xh) := hat'.symm
                clear hxa hxg hxh hat' hfl htc hhc hao hgo ha1
                go_wp2
                go_region_held3 (fun w' => w'.cell? ⟨S, 0, none⟩ = some (.slice gp3 N gc3) ∧ w'.cell? ⟨S, 1, none⟩ = some (.slice ip3 N ic3) ∧ w'.cell? ⟨tbb, jj * 2, none⟩ = some (.int .i64 xa) ∧ w'.cell? ⟨tbb, jj * 2 + 1, none⟩ = some (.int .i64 xg) ∧ w'.cell? ⟨hbb', jj, none⟩ = some (.bool xh))
                  ((first | with_reducible (exact ⟨(hb8.cell (p := ⟨S, 0, none⟩) (lt_of_cell e3)).trans e3, (hb8.cell (p := ⟨S, 1, none⟩) (lt_of_cell e4)).trans e4, (hb8.cell (p := ⟨tbb, jj * 2, none⟩) (lt_of_cell e0)).trans e0, (hb8.cell (p := ⟨tbb, jj * 2 + 1, none⟩) (lt_of_cell e1)).trans e1, (hb8.cell (p := ⟨hbb', jj, none⟩) (lt_of_cell e2)).trans e2⟩) | exact ⟨e3, e4, e0, e1, e2⟩))
                  ((go_at_call 15; refine (has_n gp3 ip3 gc3 ic3 N N gs' bs' xa xg xh _ (hsl'.below (Below.refl _ _).drew) hwf1 hwf2 HAT.out).mono ?_; rintro e w8 ⟨rfl, hb8'⟩; have hb8 : Below wr.heap.size wr w8 := (Below.refl _ _).drew.trans hb8'))
                go_wp2
                have p0 := (hb8.cell (p := ⟨tbb, jj * 2, none⟩) (lt_of_cell e0)).trans e0
                have p1 := (hb8.cell (p := ⟨tbb, jj * 2 + 1, none⟩) (lt_of_cell e1)).trans e1
                have hB8 := bel_call hbx (Nat.le_refl _) hb8
                clear e0 e1 e2 e3 e4
                go_loopw [16] (fun m wy => ∃ mm : Nat, mm ≤ jj ∧ m = .int .i64 mm ∧ ∃ nq, wy = w8.drewN nq) (fun m _ => jj - (intOf m).toNat)
                case atStart => exact ⟨0, Nat.zero_le _, rfl, 0, rfl⟩
                case round =>
                  obtain ⟨mm, hmm, rfl, nq, rfl⟩ := hrel
                  by_cases hml : mm < jj
                  · have hmt : mm < told.length := Nat.lt_trans hml hjt
                    have hfl := flat_at told mm hmt
                    have q0 := (hB8.cell (p := ⟨tbb, mm * 2, none⟩) htl').trans (HTC.out _ _ hfl.1)
                    have q1 := (hB8.cell (p := ⟨tbb, mm * 2 + 1, none⟩) htl').trans (HTC.out _ _ hfl.2)
                    have hne := HAP.out mm hml
                    obtain ⟨ya, hya⟩ : ∃ x, told[mm].1 = x := ⟨_, rfl⟩
                    obtain ⟨yg, hyg⟩ : ∃ x, told[mm].2 = x := ⟨_, rfl⟩
                    have hne' : ¬ (ya = xa ∧ yg = xg) := fun h => hne (Prod.ext (by rw [hya, HXA.out, h.1]) (by rw [hyg, HXG.out, h.2]))
                    rw [hya] at q0
                    rw [hyg] at q1
                    have m0 : (mm : Int) < (T : Int) := by omega
                    have m1 : (mm : Int) < (jj : Int) := by omega
                    clear hfl hne hya hyg
                    by_cases hy1 : ya = xa
                    · subst hy1
                      have deq : (yg == xg) = false := by simpa using fun h => hne' ⟨rfl, h⟩
                      go_wp2
                      go_quiet (fail)
                      go_wp2
                      go_roundw
                      case rel => exact ⟨mm + 1, by omega, by go_num, _, rfl⟩
                      case measure => simp [intOf]; omega
                    · have deq : (ya == xa) = false := by simpa using hy1
                      go_wp2
                      go_quiet (fail)
                      go_wp2
                      go_roundw
                      case rel => exact ⟨mm + 1, by omega, by go_num, _, rfl⟩
                      case measure => simp [intOf]; omega
                  · go_wp2
                    go_roundw
                    case rel => exact ⟨jj + 1, by omega, by go_num, below_drewN hB8⟩
                    case measure => simp [intOf]; omega
              · go_wp2
                go_roundw
                case rel => exact ⟨k + 1, by omega, by go_num, gp3, gc3, ip3, ic3, gs', bs', told, has, _, tc, _, hc, T, rfl, rfl, hst'.below hbx⟩
                case measure => simp [intOf]; omega
          · have dz : (z % 2 == 0) = false := by simpa using hz2
            have dT : ((T : Int) == 0) = true := by simp [hA.resolve_left hz2]
            clear hA hz2
            go_wp2_with (first
              | (go_at_call 10; refine (take_n gp ip gc ic N N gs bs (tg gs bs) (tb gs bs) at_ gen false _ hst.sl rfl rfl HAT.out HGEN.out HOK.out (small_bd (by omega) (tg_bd hst.bd bs))).mono ?_; rintro e w3 ⟨gp3, gc3, ip3, ic3, rfl, hs3, hb3⟩; have d0 := (hb3.cell (p := ⟨S, 0, none⟩) hSl).trans c0; have d1 := (hb3.cell (p := ⟨S, 1, none⟩) hSl).trans c1'; have hS3 : S < w3.heap.size := Nat.lt_of_lt_of_le hSl hb3.size; have hS3' : S < w3.heap.size + 1 := Nat.lt_succ_of_lt hS3)
              | (go_at_call 17; refine (len_n gp ip gc ic N N gs bs L _ ((hst.sl.below hb3).below (bel2 _ _ _)) HL.out).mono ?_; rintro e w4 ⟨rfl, hb4⟩; have t4 := (At2.new1 w3 (.slice gp3 N gc3) (.slice ip3 N ic3) 29 (Obj.cells #[.int .i64 at_, .int .i64 gen] 24)).below hb4; have h4 := (At2.new2 w3 (Obj.cells #[Value.slice gp3 N gc3, Value.slice ip3 N ic3] 29) (.int .i64 at_) (.int .i64 gen) 24).below hb4; have t4x := t4.1; have t4y := t4.2; have h4x := h4.1; have h4y := h4.2; have hB4 : Below w3.heap.size w3 w4 := bel_call (bel2 _ _ _) (Nat.le_refl _) hb4; have g0 := (hB4.cell (p := ⟨S, 0, none⟩) hS3).trans d0; have g1 := (hB4.cell (p := ⟨S, 1, none⟩) hS3).trans d1; have f4 : ∀ o, w4.frozen? ⟨S, o, none⟩ = false := (fun o => (hB4.frozen (p := ⟨S, o, none⟩) hS3).trans ((hb3.frozen (p := ⟨S, o, none⟩) hSl).trans (f0 o))); have n1 : S ≠ w3.heap.size := (by omega); have n2 : S ≠ w3.heap.size + 1 := (by omega); have OT6 := (ownsRow_setCell_below (ownsRow_setCell_below (owns_below (owns_below hst.ot hb3) hB4) (a := ⟨S, 0, none⟩) (Nat.lt_succ_self S) (.slice gp3 N gc3)) (a := ⟨S, 1, none⟩) (Nat.lt_succ_self S) (.slice ip3 N ic3)).alloc (Obj.cells #[.int .i64 at_, .int .i64 gen] 24); have OH6 := (ownsRow_setCell_below (ownsRow_setCell_below (owns_below (owns_below hst.oh hb3) hB4) (a := ⟨S, 0, none⟩) (Nat.lt_succ_self S) (.slice gp3 N gc3)) (a := ⟨S, 1, none⟩) (Nat.lt_succ_self S) (.slice ip3 N ic3)).alloc (Obj.cells #[.int .i64 at_, .int .i64 gen] 24); have hS4 : S < w4.heap.size := Nat.lt_of_lt_of_le hS3 hB4.size))
            try rw [hN]
            have hst' := st_full hst HF.out hs3 hb3 hB4
            clear OT6 OH6 hs3 hst f4 g0 g1 t4 h4 t4x t4y h4x h4y d0 d1 hb4 hB4 hb3 hck c0 c1' f0 zL hL HF HOK HL HAT HGEN
            generalize ((w4.setCell ⟨S, 0, none⟩ (Value.slice gp3 N gc3)).setCell ⟨S, 1, none⟩ (Value.slice ip3 N ic3)) = w6 at *
            generalize tg gs bs = gs' at *
            generalize tb gs bs = bs' at *
            go_loopw [15] (fun j wx => ∃ jj : Nat, jj ≤ T ∧ j = .int .i64 jj ∧ Below w6.heap.size w6 wx) (fun j _ => T - (intOf j).toNat)
            case atStart => exact ⟨0, Nat.zero_le _, rfl, Below.refl _ _⟩
            case round =>
              obtain ⟨jj, hjj, rfl, hbx⟩ := hrel
              by_cases hjl : jj < T
              · obtain ⟨tbb, etp, htb, htl', _, htc⟩ := owns_cells hst'.ot (by omega)
                obtain ⟨hbb', ehp, hhb, hhl', _, hhc⟩ := owns_cells hst'.oh (by omega)
                have hjt : jj < told.length := by rw [← hst'.tl]; exact hjl
                have hjh : jj < has.length := by rw [hst'.inv.hl]; exact hjt
                have hfl := flat_at told jj hjt
                have e0 := (hbx.cell (p := ⟨tbb, jj * 2, none⟩) htl').trans (htc _ _ hfl.1)
                have e1 := (hbx.cell (p := ⟨tbb, jj * 2 + 1, none⟩) htl').trans (htc _ _ hfl.2)
                have e2 := (hbx.cell (p := ⟨hbb', jj, none⟩) hhl').trans (hhc jj (.bool has[jj]) (by simp [hjh]))
                have hSw : S < w6.heap.size := lt_of_cell hst'.c0
                have e3 := (hbx.cell (p := ⟨S, 0, none⟩) hSw).trans hst'.c0
                have e4 := (hbx.cell (p := ⟨S, 1, none⟩) hSw).trans hst'.c1
                have hsl' := hst'.sl.below hbx
                have hat' := hst'.inv.at_ jj hjt hjh
                obtain ⟨ao, ha1, hao, hgo⟩ := hst'.inv.old told[jj] (List.getElem_mem hjt)
                have hao64 : ao < 64 := by have := hst'.inv.gl; omega
                have hwf1 : (Lit.int .i64 told[jj].1).wf = true := by rw [hao]; exact wf_nat (by omega)
                have HAP : Hid (∀ m (hm : m < jj), told[m]'(Nat.lt_trans hm hjt) ≠ told[jj]) := fun m hm => hst'.inv.ap m jj hm hjt
                have hwf2 : (Lit.int .i64 told[jj].2).wf = true := by
                  have h1 := hst'.lo told[jj] (List.getElem_mem hjt)
                  have h2 := hst'.bd gs'[ao] (List.getElem_mem ha1)
                  exact wf_of (by omega)
                cases etp
                cases ehp
                have HTC : Hid (∀ i v, (flat told)[i]? = some v → w6.cell? ⟨tbb, i, none⟩ = some v) := htc
                have z0 : (jj : Int) < (T : Int) := by omega
                obtain ⟨xa, hxa⟩ : ∃ x, told[jj].1 = x := ⟨_, rfl⟩
                obtain ⟨xg, hxg⟩ : ∃ x, told[jj].2 = x := ⟨_, rfl⟩
                obtain ⟨xh, hxh⟩ : ∃ x, has[jj] = x := ⟨_, rfl⟩
                rw [hxa] at e0 hwf1 hat'
                rw [hxg] at e1 hwf2 hat'
                rw [hxh] at e2 hat'
                have HXA : Hid (told[jj].1 = xa) := hxa
                have HXG : Hid (told[jj].2 = xg) := hxg
                have HAT : Hid (hasM gs' bs' xa xg = xh) := hat'.symm
                clear hxa hxg hxh hat' hfl htc hhc hao hgo ha1
                go_wp2
                go_region_held3 (fun w' => w'.cell? ⟨S, 0, none⟩ = some (.slice gp3 N gc3) ∧ w'.cell? ⟨S, 1, none⟩ = some (.slice ip3 N ic3) ∧ w'.cell? ⟨tbb, jj * 2, none⟩ = some (.int .i64 xa) ∧ w'.cell? ⟨tbb, jj * 2 + 1, none⟩ = some (.int .i64 xg) ∧ w'.cell? ⟨hbb', jj, none⟩ = some (.bool xh))
                  ((first | with_reducible (exact ⟨(hb8.cell (p := ⟨S, 0, none⟩) (lt_of_cell e3)).trans e3, (hb8.cell (p := ⟨S, 1, none⟩) (lt_of_cell e4)).trans e4, (hb8.cell (p := ⟨tbb, jj * 2, none⟩) (lt_of_cell e0)).trans e0, (hb8.cell (p := ⟨tbb, jj * 2 + 1, none⟩) (lt_of_cell e1)).trans e1, (hb8.cell (p := ⟨hbb', jj, none⟩) (lt_of_cell e2)).trans e2⟩) | exact ⟨e3, e4, e0, e1, e2⟩))
                  ((go_at_call 15; refine (has_n gp3 ip3 gc3 ic3 N N gs' bs' xa xg xh _ (hsl'.below (Below.refl _ _).drew) hwf1 hwf2 HAT.out).mono ?_; rintro e w8 ⟨rfl, hb8'⟩; have hb8 : Below wr.heap.size wr w8 := (Below.refl _ _).drew.trans hb8'))
                go_wp2
                have p0 := (hb8.cell (p := ⟨tbb, jj * 2, none⟩) (lt_of_cell e0)).trans e0
                have p1 := (hb8.cell (p := ⟨tbb, jj * 2 + 1, none⟩) (lt_of_cell e1)).trans e1
                have hB8 := bel_call hbx (Nat.le_refl _) hb8
                clear e0 e1 e2 e3 e4
                go_loopw [16] (fun m wy => ∃ mm : Nat, mm ≤ jj ∧ m = .int .i64 mm ∧ ∃ nq, wy = w8.drewN nq) (fun m _ => jj - (intOf m).toNat)
                case atStart => exact ⟨0, Nat.zero_le _, rfl, 0, rfl⟩
                case round =>
                  obtain ⟨mm, hmm, rfl, nq, rfl⟩ := hrel
                  by_cases hml : mm < jj
                  · have hmt : mm < told.length := Nat.lt_trans hml hjt
                    have hfl := flat_at told mm hmt
                    have q0 := (hB8.cell (p := ⟨tbb, mm * 2, none⟩) htl').trans (HTC.out _ _ hfl.1)
                    have q1 := (hB8.cell (p := ⟨tbb, mm * 2 + 1, none⟩) htl').trans (HTC.out _ _ hfl.2)
                    have hne := HAP.out mm hml
                    obtain ⟨ya, hya⟩ : ∃ x, told[mm].1 = x := ⟨_, rfl⟩
                    obtain ⟨yg, hyg⟩ : ∃ x, told[mm].2 = x := ⟨_, rfl⟩
                    have hne' : ¬ (ya = xa ∧ yg = xg) := fun h => hne (Prod.ext (by rw [hya, HXA.out, h.1]) (by rw [hyg, HXG.out, h.2]))
                    rw [hya] at q0
                    rw [hyg] at q1
                    have m0 : (mm : Int) < (T : Int) := by omega
                    have m1 : (mm : Int) < (jj : Int) := by omega
                    clear hfl hne hya hyg
                    by_cases hy1 : ya = xa
                    · subst hy1
                      have deq : (yg == xg) = false := by simpa using fun h => hne' ⟨rfl, h⟩
                      go_wp2
                      go_quiet (fail)
                      go_wp2
                      go_roundw
                      case rel => exact ⟨mm + 1, by omega, by go_num, _, rfl⟩
                      case measure => simp [intOf]; omega
                    · have deq : (ya == xa) = false := by simpa using hy1
                      go_wp2
                      go_quiet (fail)
                      go_wp2
                      go_roundw
                      case rel => exact ⟨mm + 1, by omega, by go_num, _, rfl⟩
                      case measure => simp [intOf]; omega
                  · go_wp2
                    go_roundw
                    case rel => exact ⟨jj + 1, by omega, by go_num, below_drewN hB8⟩
                    case measure => simp [intOf]; omega
              · go_wp2
                go_roundw
                case rel => exact ⟨k + 1, by omega, by go_num, gp3, gc3, ip3, ic3, gs', bs', told, has, _, tc, _, hc, T, rfl, rfl, hst'.below hbx⟩
                case measure => simp [intOf]; omega
      · have hz2 : ¬ z % 2 = 0 := fun h => hA (.inl h)
        have hT0 : 0 < T := by rcases Nat.eq_zero_or_pos T with h | h; exact absurd (.inr h) hA; exact h
        have dz : (z % 2 == 0) = false := by simpa using hz2
        have dT : ((T : Int) == 0) = false := by have : (T : Int) ≠ 0 := by omega
                                                 simpa using this
        obtain ⟨kk, hkk⟩ : ∃ kk : Nat, (z / 2) % (T : Int) = kk := ⟨((z / 2) % (T : Int)).toNat, by have := Int.emod_nonneg (z / 2) (show (T : Int) ≠ 0 by omega); omega⟩
        have hkT : kk < T := by have := Int.emod_lt_of_pos (z / 2) (show (0 : Int) < (T : Int) by omega); omega
        obtain ⟨tb0, etp, htb0, htl0, _, htc0⟩ := owns_cells hst.ot hT0
        obtain ⟨hb0, ehp, hhb0, hhl0, hhf0, hhc0⟩ := owns_cells hst.oh hT0
        cases etp
        cases ehp
        have hkt : kk < told.length := by rw [← hst.tl]; exact hkT
        have hkh : kk < has.length := by rw [hst.inv.hl]; exact hkt
        have hfl := flat_at told kk hkt
        have e0 := htc0 _ _ hfl.1
        have e1 := htc0 _ _ hfl.2
        have e2 := hhc0 kk (.bool has[kk]) (by simp [hkh])
        have hat' := hst.inv.at_ kk hkt hkh
        obtain ⟨ao, ha1, hao, hgo⟩ := hst.inv.old told[kk] (List.getElem_mem hkt)
        have hao64 : ao < 64 := by have := hst.inv.gl; omega
        have hwf1 : (Lit.int .i64 told[kk].1).wf = true := by rw [hao]; exact wf_nat (by omega)
        have hwf2 : (Lit.int .i64 told[kk].2).wf = true := by
          have h1 := hst.lo told[kk] (List.getElem_mem hkt)
          have h2 := hst.bd gs[ao] (List.getElem_mem ha1)
          exact wf_of (by omega)
        have hstf := fun (V : World) (gp3 : Option Addr) (gc3 : Nat) (ip3 : Option Addr) (ic3 : Nat) => st_freed (V := V) (gp3 := gp3) (gc3 := gc3) (ip3 := ip3) (ic3 := ic3) hst hkt
        have z0' : (kk : Int) < (T : Int) := by omega
        obtain ⟨xa, hxa⟩ : ∃ x, told[kk].1 = x := ⟨_, rfl⟩
        obtain ⟨xg, hxg⟩ : ∃ x, told[kk].2 = x := ⟨_, rfl⟩
        obtain ⟨xh, hxh⟩ : ∃ x, has[kk] = x := ⟨_, rfl⟩
        rw [hxa] at e0 hwf1 hat' hstf
        rw [hxg] at e1 hwf2 hat' hstf
        rw [hxh] at e2 hat'
        have HAT : Hid (hasM gs bs xa xg = xh) := hat'.symm
        clear hxa hxg hxh hat' hfl htc0 hhc0 hao hgo ha1
        have kS : ∀ w', Below wr.heap.size wr w' → w'.cell? ⟨S, 0, none⟩ = some (.slice gp N gc) ∧ w'.cell? ⟨S, 1, none⟩ = some (.slice ip N ic) ∧ w'.cell? ⟨tb0, kk * 2, none⟩ = some (.int .i64 xa) ∧ w'.cell? ⟨tb0, kk * 2 + 1, none⟩ = some (.int .i64 xg) := fun w' hb => ⟨(hb.cell (p := ⟨S, 0, none⟩) hSl).trans c0, (hb.cell (p := ⟨S, 1, none⟩) hSl).trans c1', (hb.cell (p := ⟨tb0, kk * 2, none⟩) (lt_of_cell e0)).trans e0, (hb.cell (p := ⟨tb0, kk * 2 + 1, none⟩) (lt_of_cell e1)).trans e1⟩
        go_wp2
        go_region_held3 (fun w' => w'.cell? ⟨S, 0, none⟩ = some (.slice gp N gc) ∧ w'.cell? ⟨S, 1, none⟩ = some (.slice ip N ic) ∧ w'.cell? ⟨tb0, kk * 2, none⟩ = some (.int .i64 xa) ∧ w'.cell? ⟨tb0, kk * 2 + 1, none⟩ = some (.int .i64 xg))
          ((first | with_reducible (exact kS _ hb3) | with_reducible (exact kS _ (bel_call hb3 (Nat.le_refl _) (bel1 w3 _))) | with_reducible (exact kS _ (Below.setCell (Below.setCell hb3 (Nat.le_refl _) _) (Nat.le_refl _) _)) | with_reducible (exact kS _ (bel1 wr _).drew) | exact kS _ (Below.refl _ _).drew))
          ((first
            | (go_at_call 12; refine (free_n gp ip gc ic N N gs bs (fb gs bs xa xg) xa xg xh wr.drew (hst.sl.below (Below.refl _ _).drew) hwf1 hwf2 rfl HAT.out).mono ?_; rintro e w3 ⟨gp3, gc3, ip3, ic3, rfl, hs3, hb3'⟩; have hb3 : Below wr.heap.size wr w3 := (Below.refl _ _).drew.trans hb3')
            | (go_at_call 12; refine (free_n gp ip gc ic N N gs bs (fb gs bs xa xg) xa xg xh (wr.alloc (Obj.cells #[Value.slice none 0 0, Value.slice none 0 0] 29)).drew (hst.sl.below (bel1 wr _).drew) hwf1 hwf2 rfl HAT.out).mono ?_; rintro e w3 ⟨gp3, gc3, ip3, ic3, rfl, hs3'', hb3'⟩; have hb3 : Below wr.heap.size wr w3 := (bel1 wr _).drew.trans (hb3'.mono (by simp)); have hs3 : SlO w3 (wr.heap.size + 1) gp3 gc3 ip3 ic3 N N gs (fb gs bs xa xg) := hs3''.mono (by simp); have s0 : w3.cell? ⟨wr.heap.size, 0, none⟩ = some (.slice none 0 0) := ((hb3'.cell (p := ⟨wr.heap.size, 0, none⟩) (by simp)).trans (by simp [go_sem])); have s1 : w3.cell? ⟨wr.heap.size, 1, none⟩ = some (.slice none 0 0) := ((hb3'.cell (p := ⟨wr.heap.size, 1, none⟩) (by simp)).trans (by simp [go_sem])); have s2 : ∀ o, w3.frozen? ⟨wr.heap.size, o, none⟩ = false := (fun o => (hb3'.frozen (p := ⟨wr.heap.size, o, none⟩) (by simp)).trans (by simp [go_sem])))))
        all_goals clear kS
        · have hB : Below wr.heap.size wr (w3.alloc (Obj.cells #[Value.slice gp3 N gc3, Value.slice ip3 N ic3] 29)) := bel_call hb3 (Nat.le_refl _) (bel1 w3 _)
          have hsV := hs3.below (bel1 w3 (Obj.cells #[Value.slice gp3 N gc3, Value.slice ip3 N ic3] 29))
          have ht := At2.new w3 (.slice gp3 N gc3) (.slice ip3 N ic3) 29
          have n1 : S ≠ w3.heap.size := by have := hb3.size; omega
          have n2 : hb0 ≠ w3.heap.size := by have := hb3.size; omega
          clear hs3 hb3' hb3
          generalize (w3.alloc (Obj.cells #[Value.slice gp3 N gc3, Value.slice ip3 N ic3] 29)) = W3 at *
          generalize w3.heap.size = tbl at *
          have d0 := (hB.cell (p := ⟨S, 0, none⟩) hSl).trans c0
          have d1 := (hB.cell (p := ⟨S, 1, none⟩) hSl).trans c1'
          have d2 := (hB.cell (p := ⟨hb0, kk, none⟩) hhl0).trans e2
          have d3 : ∀ o, W3.frozen? ⟨S, o, none⟩ = false := fun o => (hB.frozen (p := ⟨S, o, none⟩) hSl).trans (f0 o)
          have d4 : ∀ o, W3.frozen? ⟨hb0, o, none⟩ = false := fun o => (hB.frozen (p := ⟨hb0, o, none⟩) hhl0).trans (hhf0 o)
          have d5 := ht.1
          have d6 := ht.2
          have n3 : hb0 ≠ S := by omega
          have n4 : S ≠ hb0 := by omega
          have hst' := hstf W3 gp3 gc3 ip3 ic3 hsV hB
          clear hstf hsV ht
          go_wp2
          generalize ((W3.setCell ⟨S, 0, none⟩ (Value.slice gp3 N gc3)).setCell ⟨S, 1, none⟩ (Value.slice ip3 N ic3)).setCell ⟨hb0, kk, none⟩ (Value.bool false) = w6 at *
          clear hst d0 d1 d2 d3 d4 d5 d6 e0 e1 e2 hB hck c0 c1' f0 hkk
          generalize has.set kk false = has' at *
          generalize fb gs bs xa xg = bs' at *
          clear HAT
          go_loopw [15] (fun j wx => ∃ jj : Nat, jj ≤ T ∧ j = .int .i64 jj ∧ Below w6.heap.size w6 wx) (fun j _ => T - (intOf j).toNat)
          case atStart => exact ⟨0, Nat.zero_le _, rfl, Below.refl _ _⟩
          case round =>
            obtain ⟨jj, hjj, rfl, hbx⟩ := hrel
            by_cases hjl : jj < T
            · obtain ⟨tbb, etp, htb, htl', _, htc⟩ := owns_cells hst'.ot (by omega)
              obtain ⟨hbb', ehp, hhb, hhl', _, hhc⟩ := owns_cells hst'.oh (by omega)
              have hjt : jj < told.length := by rw [← hst'.tl]; exact hjl
              have hjh : jj < has'.length := by rw [hst'.inv.hl]; exact hjt
              have hfl := flat_at told jj hjt
              have e0 := (hbx.cell (p := ⟨tbb, jj * 2, none⟩) htl').trans (htc _ _ hfl.1)
              have e1 := (hbx.cell (p := ⟨tbb, jj * 2 + 1, none⟩) htl').trans (htc _ _ hfl.2)
              have e2 := (hbx.cell (p := ⟨hbb', jj, none⟩) hhl').trans (hhc jj (.bool has'[jj]) (by simp [hjh]))
              have hSw : S < w6.heap.size := lt_of_cell hst'.c0
              have e3 := (hbx.cell (p := ⟨S, 0, none⟩) hSw).trans hst'.c0
              have e4 := (hbx.cell (p := ⟨S, 1, none⟩) hSw).trans hst'.c1
              have hsl' := hst'.sl.below hbx
              have hat' := hst'.inv.at_ jj hjt hjh
              obtain ⟨ao, ha1, hao, hgo⟩ := hst'.inv.old told[jj] (List.getElem_mem hjt)
              have hao64 : ao < 64 := by have := hst'.inv.gl; omega
              have hwf1 : (Lit.int .i64 told[jj].1).wf = true := by rw [hao]; exact wf_nat (by omega)
              have HAP : Hid (∀ m (hm : m < jj), told[m]'(Nat.lt_trans hm hjt) ≠ told[jj]) := fun m hm => hst'.inv.ap m jj hm hjt
              have hwf2 : (Lit.int .i64 told[jj].2).wf = true := by
                have h1 := hst'.lo told[jj] (List.getElem_mem hjt)
                have h2 := hst'.bd gs[ao] (List.getElem_mem ha1)
                exact wf_of (by omega)
              cases etp
              cases ehp
              have HTC : Hid (∀ i v, (flat told)[i]? = some v → w6.cell? ⟨tb0, i, none⟩ = some v) := htc
              have z0 : (jj : Int) < (T : Int) := by omega
              obtain ⟨xa, hxa⟩ : ∃ x, told[jj].1 = x := ⟨_, rfl⟩
              obtain ⟨xg, hxg⟩ : ∃ x, told[jj].2 = x := ⟨_, rfl⟩
              obtain ⟨xh, hxh⟩ : ∃ x, has'[jj] = x := ⟨_, rfl⟩
              rw [hxa] at e0 hwf1 hat'
              rw [hxg] at e1 hwf2 hat'
              rw [hxh] at e2 hat'
              have HXA : Hid (told[jj].1 = xa) := hxa
              have HXG : Hid (told[jj].2 = xg) := hxg
              have HAT : Hid (hasM gs bs' xa xg = xh) := hat'.symm
              clear hxa hxg hxh hat' hfl htc hhc hao hgo ha1
              go_wp2
              go_region_held3 (fun w' => w'.cell? ⟨S, 0, none⟩ = some (.slice gp3 N gc3) ∧ w'.cell? ⟨S, 1, none⟩ = some (.slice ip3 N ic3) ∧ w'.cell? ⟨tb0, jj * 2, none⟩ = some (.int .i64 xa) ∧ w'.cell? ⟨tb0, jj * 2 + 1, none⟩ = some (.int .i64 xg) ∧ w'.cell? ⟨hb0, jj, none⟩ = some (.bool xh))
                ((first | with_reducible (exact ⟨(hb8.cell (p := ⟨S, 0, none⟩) (lt_of_cell e3)).trans e3, (hb8.cell (p := ⟨S, 1, none⟩) (lt_of_cell e4)).trans e4, (hb8.cell (p := ⟨tb0, jj * 2, none⟩) (lt_of_cell e0)).trans e0, (hb8.cell (p := ⟨tb0, jj * 2 + 1, none⟩) (lt_of_cell e1)).trans e1, (hb8.cell (p := ⟨hb0, jj, none⟩) (lt_of_cell e2)).trans e2⟩) | exact ⟨e3, e4, e0, e1, e2⟩))
                ((go_at_call 15; refine (has_n gp3 ip3 gc3 ic3 N N gs bs' xa xg xh _ (hsl'.below (Below.refl _ _).drew) hwf1 hwf2 HAT.out).mono ?_; rintro e w8 ⟨rfl, hb8'⟩; have hb8 : Below wr.heap.size wr w8 := (Below.refl _ _).drew.trans hb8'))
              go_wp2
              have p0 := (hb8.cell (p := ⟨tb0, jj * 2, none⟩) (lt_of_cell e0)).trans e0
              have p1 := (hb8.cell (p := ⟨tb0, jj * 2 + 1, none⟩) (lt_of_cell e1)).trans e1
              have hB8 := bel_call hbx (Nat.le_refl _) hb8
              clear e0 e1 e2 e3 e4
              go_loopw [16] (fun m wy => ∃ mm : Nat, mm ≤ jj ∧ m = .int .i64 mm ∧ ∃ nq, wy = w8.drewN nq) (fun m _ => jj - (intOf m).toNat)
              case atStart => exact ⟨0, Nat.zero_le _, rfl, 0, rfl⟩
              case round =>
                obtain ⟨mm, hmm, rfl, nq, rfl⟩ := hrel
                by_cases hml : mm < jj
                · have hmt : mm < told.length := Nat.lt_trans hml hjt
                  have hfl := flat_at told mm hmt
                  have q0 := (hB8.cell (p := ⟨tb0, mm * 2, none⟩) htl').trans (HTC.out _ _ hfl.1)
                  have q1 := (hB8.cell (p := ⟨tb0, mm * 2 + 1, none⟩) htl').trans (HTC.out _ _ hfl.2)
                  have hne := HAP.out mm hml
                  obtain ⟨ya, hya⟩ : ∃ x, told[mm].1 = x := ⟨_, rfl⟩
                  obtain ⟨yg, hyg⟩ : ∃ x, told[mm].2 = x := ⟨_, rfl⟩
                  have hne' : ¬ (ya = xa ∧ yg = xg) := fun h => hne (Prod.ext (by rw [hya, HXA.out, h.1]) (by rw [hyg, HXG.out, h.2]))
                  rw [hya] at q0
                  rw [hyg] at q1
                  have m0 : (mm : Int) < (T : Int) := by omega
                  have m1 : (mm : Int) < (jj : Int) := by omega
                  clear hfl hne hya hyg
                  by_cases hy1 : ya = xa
                  · subst hy1
                    have deq : (yg == xg) = false := by simpa using fun h => hne' ⟨rfl, h⟩
                    go_wp2
                    go_quiet (fail)
                    go_wp2
                    go_roundw
                    case rel => exact ⟨mm + 1, by omega, by go_num, _, rfl⟩
                    case measure => simp [intOf]; omega
                  · have deq : (ya == xa) = false := by simpa using hy1
                    go_wp2
                    go_quiet (fail)
                    go_wp2
                    go_roundw
                    case rel => exact ⟨mm + 1, by omega, by go_num, _, rfl⟩
                    case measure => simp [intOf]; omega
                · go_wp2
                  go_roundw
                  case rel => exact ⟨jj + 1, by omega, by go_num, below_drewN hB8⟩
                  case measure => simp [intOf]; omega
            · go_wp2
              go_roundw
              case rel => exact ⟨k + 1, by omega, by go_num, gp3, gc3, ip3, ic3, gs, bs', told, has', _, tc, _, hc, T, rfl, rfl, hst'.below hbx⟩
              case measure => simp [intOf]; omega
        · have hB : Below wr.heap.size wr ((w3.setCell ⟨wr.heap.size, 0, none⟩ (Value.slice gp3 N gc3)).setCell ⟨wr.heap.size, 1, none⟩ (Value.slice ip3 N ic3)) := Below.setCell (Below.setCell hb3 (Nat.le_refl _) _) (Nat.le_refl _) _
          have hsV : SlO ((w3.setCell ⟨wr.heap.size, 0, none⟩ (Value.slice gp3 N gc3)).setCell ⟨wr.heap.size, 1, none⟩ (Value.slice ip3 N ic3)) wr.heap.size gp3 gc3 ip3 ic3 N N gs (fb gs bs xa xg) := ((hs3.setLow (a := ⟨wr.heap.size, 0, none⟩) (Nat.lt_succ_self _) _).setLow (a := ⟨wr.heap.size, 1, none⟩) (Nat.lt_succ_self _) _).mono (Nat.le_succ _)
          have ht : At2 ((w3.setCell ⟨wr.heap.size, 0, none⟩ (Value.slice gp3 N gc3)).setCell ⟨wr.heap.size, 1, none⟩ (Value.slice ip3 N ic3)) wr.heap.size (.slice gp3 N gc3) (.slice ip3 N ic3) := ⟨by simp [go_sem, s0], by simp [go_sem, s1]⟩
          have n1 : S ≠ wr.heap.size := by omega
          have n2 : hb0 ≠ wr.heap.size := by omega
          clear hs3 hs3'' hb3' hb3 s0 s1 s2
          generalize ((w3.setCell ⟨wr.heap.size, 0, none⟩ (Value.slice gp3 N gc3)).setCell ⟨wr.heap.size, 1, none⟩ (Value.slice ip3 N ic3)) = W3 at *
          have d0 := (hB.cell (p := ⟨S, 0, none⟩) hSl).trans c0
          have d1 := (hB.cell (p := ⟨S, 1, none⟩) hSl).trans c1'
          have d2 := (hB.cell (p := ⟨hb0, kk, none⟩) hhl0).trans e2
          have d3 : ∀ o, W3.frozen? ⟨S, o, none⟩ = false := fun o => (hB.frozen (p := ⟨S, o, none⟩) hSl).trans (f0 o)
          have d4 : ∀ o, W3.frozen? ⟨hb0, o, none⟩ = false := fun o => (hB.frozen (p := ⟨hb0, o, none⟩) hhl0).trans (hhf0 o)
          have d5 := ht.1
          have d6 := ht.2
          have n3 : hb0 ≠ S := by omega
          have n4 : S ≠ hb0 := by omega
          have hst' := hstf W3 gp3 gc3 ip3 ic3 hsV hB
          clear hstf hsV ht
          go_wp2
          generalize ((W3.setCell ⟨S, 0, none⟩ (Value.slice gp3 N gc3)).setCell ⟨S, 1, none⟩ (Value.slice ip3 N ic3)).setCell ⟨hb0, kk, none⟩ (Value.bool false) = w6 at *
          clear hst d0 d1 d2 d3 d4 d5 d6 e0 e1 e2 hB hck c0 c1' f0 hkk
          generalize has.set kk false = has' at *
          generalize fb gs bs xa xg = bs' at *
          clear HAT
          go_loopw [15] (fun j wx => ∃ jj : Nat, jj ≤ T ∧ j = .int .i64 jj ∧ Below w6.heap.size w6 wx) (fun j _ => T - (intOf j).toNat)
          case atStart => exact ⟨0, Nat.zero_le _, rfl, Below.refl _ _⟩
          case round =>
            obtain ⟨jj, hjj, rfl, hbx⟩ := hrel
            by_cases hjl : jj < T
            · obtain ⟨tbb, etp, htb, htl', _, htc⟩ := owns_cells hst'.ot (by omega)
              obtain ⟨hbb', ehp, hhb, hhl', _, hhc⟩ := owns_cells hst'.oh (by omega)
              have hjt : jj < told.length := by rw [← hst'.tl]; exact hjl
              have hjh : jj < has'.length := by rw [hst'.inv.hl]; exact hjt
              have hfl := flat_at told jj hjt
              have e0 := (hbx.cell (p := ⟨tbb, jj * 2, none⟩) htl').trans (htc _ _ hfl.1)
              have e1 := (hbx.cell (p := ⟨tbb, jj * 2 + 1, none⟩) htl').trans (htc _ _ hfl.2)
              have e2 := (hbx.cell (p := ⟨hbb', jj, none⟩) hhl').trans (hhc jj (.bool has'[jj]) (by simp [hjh]))
              have hSw : S < w6.heap.size := lt_of_cell hst'.c0
              have e3 := (hbx.cell (p := ⟨S, 0, none⟩) hSw).trans hst'.c0
              have e4 := (hbx.cell (p := ⟨S, 1, none⟩) hSw).trans hst'.c1
              have hsl' := hst'.sl.below hbx
              have hat' := hst'.inv.at_ jj hjt hjh
              obtain ⟨ao, ha1, hao, hgo⟩ := hst'.inv.old told[jj] (List.getElem_mem hjt)
              have hao64 : ao < 64 := by have := hst'.inv.gl; omega
              have hwf1 : (Lit.int .i64 told[jj].1).wf = true := by rw [hao]; exact wf_nat (by omega)
              have HAP : Hid (∀ m (hm : m < jj), told[m]'(Nat.lt_trans hm hjt) ≠ told[jj]) := fun m hm => hst'.inv.ap m jj hm hjt
              have hwf2 : (Lit.int .i64 told[jj].2).wf = true := by
                have h1 := hst'.lo told[jj] (List.getElem_mem hjt)
                have h2 := hst'.bd gs[ao] (List.getElem_mem ha1)
                exact wf_of (by omega)
              cases etp
              cases ehp
              have HTC : Hid (∀ i v, (flat told)[i]? = some v → w6.cell? ⟨tb0, i, none⟩ = some v) := htc
              have z0 : (jj : Int) < (T : Int) := by omega
              obtain ⟨xa, hxa⟩ : ∃ x, told[jj].1 = x := ⟨_, rfl⟩
              obtain ⟨xg, hxg⟩ : ∃ x, told[jj].2 = x := ⟨_, rfl⟩
              obtain ⟨xh, hxh⟩ : ∃ x, has'[jj] = x := ⟨_, rfl⟩
              rw [hxa] at e0 hwf1 hat'
              rw [hxg] at e1 hwf2 hat'
              rw [hxh] at e2 hat'
              have HXA : Hid (told[jj].1 = xa) := hxa
              have HXG : Hid (told[jj].2 = xg) := hxg
              have HAT : Hid (hasM gs bs' xa xg = xh) := hat'.symm
              clear hxa hxg hxh hat' hfl htc hhc hao hgo ha1
              go_wp2
              go_region_held3 (fun w' => w'.cell? ⟨S, 0, none⟩ = some (.slice gp3 N gc3) ∧ w'.cell? ⟨S, 1, none⟩ = some (.slice ip3 N ic3) ∧ w'.cell? ⟨tb0, jj * 2, none⟩ = some (.int .i64 xa) ∧ w'.cell? ⟨tb0, jj * 2 + 1, none⟩ = some (.int .i64 xg) ∧ w'.cell? ⟨hb0, jj, none⟩ = some (.bool xh))
                ((first | with_reducible (exact ⟨(hb8.cell (p := ⟨S, 0, none⟩) (lt_of_cell e3)).trans e3, (hb8.cell (p := ⟨S, 1, none⟩) (lt_of_cell e4)).trans e4, (hb8.cell (p := ⟨tb0, jj * 2, none⟩) (lt_of_cell e0)).trans e0, (hb8.cell (p := ⟨tb0, jj * 2 + 1, none⟩) (lt_of_cell e1)).trans e1, (hb8.cell (p := ⟨hb0, jj, none⟩) (lt_of_cell e2)).trans e2⟩) | exact ⟨e3, e4, e0, e1, e2⟩))
                ((go_at_call 15; refine (has_n gp3 ip3 gc3 ic3 N N gs bs' xa xg xh _ (hsl'.below (Below.refl _ _).drew) hwf1 hwf2 HAT.out).mono ?_; rintro e w8 ⟨rfl, hb8'⟩; have hb8 : Below wr.heap.size wr w8 := (Below.refl _ _).drew.trans hb8'))
              go_wp2
              have p0 := (hb8.cell (p := ⟨tb0, jj * 2, none⟩) (lt_of_cell e0)).trans e0
              have p1 := (hb8.cell (p := ⟨tb0, jj * 2 + 1, none⟩) (lt_of_cell e1)).trans e1
              have hB8 := bel_call hbx (Nat.le_refl _) hb8
              clear e0 e1 e2 e3 e4
              go_loopw [16] (fun m wy => ∃ mm : Nat, mm ≤ jj ∧ m = .int .i64 mm ∧ ∃ nq, wy = w8.drewN nq) (fun m _ => jj - (intOf m).toNat)
              case atStart => exact ⟨0, Nat.zero_le _, rfl, 0, rfl⟩
              case round =>
                obtain ⟨mm, hmm, rfl, nq, rfl⟩ := hrel
                by_cases hml : mm < jj
                · have hmt : mm < told.length := Nat.lt_trans hml hjt
                  have hfl := flat_at told mm hmt
                  have q0 := (hB8.cell (p := ⟨tb0, mm * 2, none⟩) htl').trans (HTC.out _ _ hfl.1)
                  have q1 := (hB8.cell (p := ⟨tb0, mm * 2 + 1, none⟩) htl').trans (HTC.out _ _ hfl.2)
                  have hne := HAP.out mm hml
                  obtain ⟨ya, hya⟩ : ∃ x, told[mm].1 = x := ⟨_, rfl⟩
                  obtain ⟨yg, hyg⟩ : ∃ x, told[mm].2 = x := ⟨_, rfl⟩
                  have hne' : ¬ (ya = xa ∧ yg = xg) := fun h => hne (Prod.ext (by rw [hya, HXA.out, h.1]) (by rw [hyg, HXG.out, h.2]))
                  rw [hya] at q0
                  rw [hyg] at q1
                  have m0 : (mm : Int) < (T : Int) := by omega
                  have m1 : (mm : Int) < (jj : Int) := by omega
                  clear hfl hne hya hyg
                  by_cases hy1 : ya = xa
                  · subst hy1
                    have deq : (yg == xg) = false := by simpa using fun h => hne' ⟨rfl, h⟩
                    go_wp2
                    go_quiet (fail)
                    go_wp2
                    go_roundw
                    case rel => exact ⟨mm + 1, by omega, by go_num, _, rfl⟩
                    case measure => simp [intOf]; omega
                  · have deq : (ya == xa) = false := by simpa using hy1
                    go_wp2
                    go_quiet (fail)
                    go_wp2
                    go_roundw
                    case rel => exact ⟨mm + 1, by omega, by go_num, _, rfl⟩
                    case measure => simp [intOf]; omega
                · go_wp2
                  go_roundw
                  case rel => exact ⟨jj + 1, by omega, by go_num, below_drewN hB8⟩
                  case measure => simp [intOf]; omega
            · go_wp2
              go_roundw
              case rel => exact ⟨k + 1, by omega, by go_num, gp3, gc3, ip3, ic3, gs, bs', told, has', _, tc, _, hc, T, rfl, rfl, hst'.below hbx⟩
              case measure => simp [intOf]; omega
    · go_wp2
      go_ret
      exact ⟨rfl, hst.bw⟩
end Go.Proofs.Ytflfmcclihahmaa
