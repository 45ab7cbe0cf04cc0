/-
  The walk of ObjAll.
-/
import Derived.Test.YtcncpefdjgnhdaaBegun
import Derived.Test.YtcncpefdjgnhdaaArgs
import Derived.Test.YtcncpefdjgnhdaaHand
import Derived.Test.YtcncpefdjgnhdaaKeeps
import Derived.Test.YtcncpefdjgnhdaaTables
import Derived.Test.YtcncpefdjgnhdaaSames
import Derived.Test.YtcncpefdjgnhdaaPuts
import Derived.Test.YtcncpefdjgnhdaaPutr
import Derived.Test.YtcncpefdjgnhdaaAuditr
import Derived.Test.YtcncpefdjgnhdaaMaker
import Derived.Test.YtcncpefdjgnhdaaDropr
import Derived.Test.YtcncpefdjgnhdaaTurnr
import Derived.Deep.Cut
import Derived.Deep.CutRange
import Derived.Deep.CutBlock
namespace Go.Proofs.Ytcncpefdjgnhdaa
open Go.ChangeShapes Go.WideShapes Go.ChangeAt Go.RowKit
attribute [local go_sem ↓] Go.wp_at_zero Go.wp_at_succ

theorem Rd.deed {w : World} {p : Option Addr} {c : Nat} {l : List De} (h : Rd eD w p c l) (i : Nat) (hi : i < l.length) :
    ∃ b o, p = some ⟨b, o, none⟩ ∧ b < w.heap.size ∧ w.cell? ⟨b, o + i * 10, none⟩ = some (.int .i64 l[i].k) ∧ w.cell? ⟨b, o + i * 10 + 1, none⟩ = some (.int .i64 l[i].x) ∧ w.cell? ⟨b, o + i * 10 + 2, none⟩ = some (.int .i64 l[i].a) ∧ w.cell? ⟨b, o + i * 10 + 3, none⟩ = some (.int .i64 l[i].g) ∧ w.cell? ⟨b, o + i * 10 + 4, none⟩ = some (.int .i64 l[i].c) ∧ w.cell? ⟨b, o + i * 10 + 5, none⟩ = some (.int .i64 l[i].h) ∧ w.cell? ⟨b, o + i * 10 + 6, none⟩ = some (.slice l[i].lp l[i].ln l[i].lc) ∧ w.cell? ⟨b, o + i * 10 + 7, none⟩ = some (.slice l[i].wp l[i].wn l[i].wc) ∧ w.cell? ⟨b, o + i * 10 + 8, none⟩ = some (.int .u32 (l[i].b : Int)) ∧ w.cell? ⟨b, o + i * 10 + 9, none⟩ = some (.slice l[i].fp l[i].fn l[i].fc) := by
  obtain ⟨b, o, e, hb, hc⟩ := h.cells i hi
  exact ⟨b, o, e, hb, hc 0 _ rfl, hc 1 _ rfl, hc 2 _ rfl, hc 3 _ rfl, hc 4 _ rfl, hc 5 _ rfl, hc 6 _ rfl, hc 7 _ rfl, hc 8 _ rfl, hc 9 _ rfl⟩
/-- a deed's variable -/
def Vd (w : World) (g : Nat) (x : De) : Prop := Lv w g #[.int .i64 x.k, .int .i64 x.x, .int .i64 x.a, .int .i64 x.g, .int .i64 x.c, .int .i64 x.h, .slice x.lp x.ln x.lc, .slice x.wp x.wn x.wc, .int .u32 (x.b : Int), .slice x.fp x.fn x.fc] 49
theorem Vd.at {w : World} {g : Nat} {x : De} (h : Vd w g x) : w.cell? ⟨g, 0, none⟩ = some (.int .i64 x.k) ∧ w.cell? ⟨g, 1, none⟩ = some (.int .i64 x.x) ∧ w.cell? ⟨g, 2, none⟩ = some (.int .i64 x.a) ∧ w.cell? ⟨g, 3, none⟩ = some (.int .i64 x.g) ∧ w.cell? ⟨g, 4, none⟩ = some (.int .i64 x.c) ∧ w.cell? ⟨g, 5, none⟩ = some (.int .i64 x.h) ∧ w.cell? ⟨g, 6, none⟩ = some (.slice x.lp x.ln x.lc) ∧ w.cell? ⟨g, 7, none⟩ = some (.slice x.wp x.wn x.wc) ∧ w.cell? ⟨g, 8, none⟩ = some (.int .u32 (x.b : Int)) ∧ w.cell? ⟨g, 9, none⟩ = some (.slice x.fp x.fn x.fc) :=
  ⟨Lv.c h 0 rfl, Lv.c h 1 rfl, Lv.c h 2 rfl, Lv.c h 3 rfl, Lv.c h 4 rfl, Lv.c h 5 rfl, Lv.c h 6 rfl, Lv.c h 7 rfl, Lv.c h 8 rfl, Lv.c h 9 rfl⟩
theorem Vd.below {w w' : World} {g : Nat} {x : De} (h : Vd w g x) (hb : Below w.heap.size w w') : Vd w' g x := Lv.below h hb
theorem drW_le {w : World} {y : Tw} {T : Tb} (ht : Tr w y T) {N : Nat} (hw : Wf N T) (a g : Int) : (drW T a g).length ≤ 200 := by
  unfold drW
  by_cases h : drOk T a g = true
  · rw [if_pos h]
    unfold drOk at h
    rw [Bool.and_eq_true] at h
    obtain ⟨h0, h1, _⟩ := has_lt hw h.1
    obtain ⟨j, rfl⟩ := Int.eq_ofNat_of_zero_le h0
    obtain ⟨b, o, X, _, _, _, ho⟩ := ht.thing j (by omega)
    have e1 := ho.wn
    have e2 := ho.fn
    have e3 := ho.w9
    have e4 := ho.f9
    rw [Int.toNat_natCast]
    unfold waitT
    rw [List.length_append, List.length_map]
    omega
  · rw [if_neg h]
    exact Nat.zero_le _
/-- both tables, where they lie, and what they are -/
structure Ab (w wr : World) (ga gb : Nat) (y1 y2 : Tw) (T : Tb) : Prop where
  a : Vw wr ga y1 30
  b : Vw wr gb y2 35
  t1 : Tr wr y1 T
  t2 : Tr wr y2 T
  bw : Below w.heap.size w wr
theorem Ab.below {w wr wx : World} {ga gb : Nat} {y1 y2 : Tw} {T : Tb} (h : Ab w wr ga gb y1 y2 T) (hb : Below wr.heap.size wr wx) : Ab w wx ga gb y1 y2 T := ⟨h.a.below hb, h.b.below hb, h.t1.below hb, h.t2.below hb, bel_call h.bw (Nat.le_refl _) hb⟩
/-- new tables are laid into them -/
theorem Ab.set {w wr w8 w9 : World} {ga gb : Nat} {y1 y2 z1 z2 : Tw} {T U : Tb} (h : Ab w wr ga gb y1 y2 T) (h1 : Tr wr z1 U) (h2 : Tr wr z2 U) (k8 : Kp ga wr w8) (l8 : Lv w8 ga (eTb.enc z1).toArray 30) (k9 : Kp gb w8 w9) (l9 : Lv w9 gb (eTb.enc z2).toArray 35) (hga : w.heap.size ≤ ga) (hgb : w.heap.size ≤ gb) (hab : ga ≠ gb) : Ab w w9 ga gb z1 z2 U := by
  have b8 : Vw w8 gb y2 35 := Lv.kp h.b k8 (Ne.symm hab)
  exact ⟨Lv.kp (show Vw w8 ga z1 30 from l8) k9 hab, l9, (h1.kpS h.a k8).kpS b8 k9, (h2.kpS h.a k8).kpS b8 k9, bel_kp (bel_kp h.bw k8 hga h.bw.size) k9 hgb (bel_kp h.bw k8 hga h.bw.size).size⟩
set_option maxRecDepth 20000 in
set_option maxHeartbeats 40000000 in
theorem all_walk (lp : Option Addr) (lc : Nat) (Z : List De) (w : World) (hr : Rd eD w lp lc Z) (ln : Nat) (hl : Z.length = ln) (hz : ∀ y ∈ Z, Deed w y) :
    Calls Try.prog 3 #[.slice lp ln lc] w fun e w' => e = .returned (.bool true) ∧ Below w.heap.size w w' := by
  have HLN : Hid (Z.length = ln) := hl
  have HZ : Hid (∀ y ∈ Z, Deed w y) := hz
  clear hl hz
  by_cases h60 : ln ≤ 40
  · have d60 : decide ((ln : Int) > 40) = false := by simp; omega
    go_enter Try.func3, Try.ntmps3
    go_wp2_with (first
      | (go_at_call 8; refine (begun_any _).mono ?_; rintro e w1 ⟨rfl, b1⟩)
      | (go_at_call 9; refine (new_any _).mono ?_; rintro e w2 ⟨y1, rfl, t1, b2⟩)
      | (go_at_call 10; refine (newtable_any _).mono ?_; rintro e w3 ⟨y2, rfl, t2, b3⟩))
    obtain ⟨A, hA⟩ : ∃ A : Obj, A = .cells #[.slice y1.gp 12 y1.gc, .slice y1.ip 12 y1.ic, .slice y1.tp 12 y1.tc] 30 := ⟨_, rfl⟩
    obtain ⟨Bo, hBo⟩ : ∃ Bo : Obj, Bo = .cells #[.slice y2.gp 12 y2.gc, .slice y2.ip 12 y2.ic, .slice y2.tp 12 y2.tc] 35 := ⟨_, rfl⟩
    have s3 := bel_self w3 A
    have s4 := bel_self (w3.alloc A) Bo
    have hab0 : Ab w ((w3.alloc A).alloc Bo) w3.heap.size (w3.heap.size + 1) y1 y2 newT := by
      subst hA hBo
      exact ⟨(Vw.new w3 y1 30).below s4, heap_at (by simp), ((t1.below b3).below s3).below s4, (t2.below s3).below s4, bel_call (bel_call (bel_call (bel_call b1 (Nat.le_refl _) b2) (Nat.le_refl _) b3) (Nat.le_refl _) s3) (Nat.le_refl _) s4⟩
    obtain ⟨ga, hga⟩ : ∃ ga, ga = w3.heap.size := ⟨_, rfl⟩
    rw [← hga] at hab0
    obtain ⟨gb, hgb⟩ : ∃ gb, gb = ga + 1 := ⟨_, rfl⟩
    rw [← hgb] at hab0
    have hga0 : w.heap.size ≤ ga := by have h1 := b1.size; have h2 := b2.size; have h3 := b3.size; omega
    have hgb0 : w.heap.size ≤ gb := by omega
    have hab : ga ≠ gb := by omega
    try rw [← hA]
    try rw [← hBo]
    simp only [← hga]
    simp only [← hgb]
    generalize (w3.alloc A).alloc Bo = W0 at *
    clear hA hBo hga hgb b1 b2 b3 s3 s4 t1 t2
    go_loopw [5] (fun i wr => ∃ (n : Nat) (y1 y2 : Tw) (T : Tb), n ≤ ln ∧ i = .int .i64 n ∧ Wf n T ∧ Ab w wr ga gb y1 y2 T) (fun i _ => ln - (intOf i).toNat)
    case atStart => exact ⟨0, y1, y2, newT, Nat.zero_le _, rfl, new_wf, hab0⟩
    case round =>
      obtain ⟨n, y1, y2, T, hn, rfl, wf, hAb⟩ := hrel
      clear hab0
      by_cases hlt : n < ln
      · have hnI : (n : Int) < (ln : Int) := by omega
        have hnZ : (0 : Int) ≤ (n : Int) := by omega
        have hnz : n < Z.length := by rw [HLN.out]; exact hlt
        obtain ⟨lb, lo, el, hlb, hcells⟩ := (hr.below hAb.bw).deed n hnz
        have hDx := HZ.out Z[n] (List.getElem_mem _)
        obtain ⟨X, hX⟩ : ∃ X, Z[n] = X := ⟨_, rfl⟩
        rw [hX] at hcells hDx
        obtain ⟨k, xa, a, g, c, h, Lp, Ln, Lc, Wp, Wn, Wc, b, Fp, Fn, Fc⟩ := X
        dsimp only at hcells
        obtain ⟨f0, f1, f2, f3, f4, f5, f6, f7, f8, f9⟩ := hcells
        clear hX
        subst el
        have HDX : Hid (Deed w ⟨k, xa, a, g, c, h, Lp, Ln, Lc, Wp, Wn, Wc, b, Fp, Fn, Fc⟩) := hDx
        clear hDx
        have s5 := bel_self wr (.cells #[.int .i64 k, .int .i64 xa, .int .i64 a, .int .i64 g, .int .i64 c, .int .i64 h, .slice Lp Ln Lc, .slice Wp Wn Wc, .int .u32 (b : Int), .slice Fp Fn Fc] 49)
        have hAb5 := hAb.below s5
        have hO : Vd (wr.alloc (.cells #[.int .i64 k, .int .i64 xa, .int .i64 a, .int .i64 g, .int .i64 c, .int .i64 h, .slice Lp Ln Lc, .slice Wp Wn Wc, .int .u32 (b : Int), .slice Fp Fn Fc] 49)) wr.heap.size (⟨k, xa, a, g, c, h, Lp, Ln, Lc, Wp, Wn, Wc, b, Fp, Fn, Fc⟩ : De) := Lv.new _ _ _
        have hgo1 : ga < wr.heap.size := hAb.a.lt
        have hgo2 : gb < wr.heap.size := hAb.b.lt
        obtain ⟨o0, o1, o2, o3, o4, o5, o6, o7, o8, o9⟩ := hO.at
        by_cases g1 : Ln ≤ 6
        · have d1 : decide ((Ln : Int) > 6) = false := by simp; omega
          by_cases g2 : Wn ≤ 6
          · have d2 : decide ((Wn : Int) > 6) = false := by simp; omega
            by_cases g3 : Fn ≤ 6
            · have d3 : decide ((Fn : Int) > 6) = false := by simp; omega
              obtain ⟨κ1, hk1⟩ : ∃ κ1, k.tmod 6 = κ1 := ⟨_, rfl⟩
              have hb1 : -6 < κ1 ∧ κ1 < 6 := by rw [← hk1]; exact ⟨Int.lt_tmod_of_pos k (by decide), Int.tmod_lt_of_pos k (by decide)⟩
              have hw1 : wrap64 (κ1 + 6) = κ1 + 6 := by unfold wrap64; omega
              have hw2 : IntKind.i64.wrap (κ1 + 6) = κ1 + 6 := by rw [IntKind.wrap_i64]; omega
              obtain ⟨κ, hk2⟩ : ∃ κ, (κ1 + 6) % 6 = κ := ⟨_, rfl⟩
              have hk3 : (κ1 + 6).tmod 6 = κ := by rw [Int.tmod_eq_emod_of_nonneg (by omega)]; exact hk2
              have hκ : κ = 0 ∨ κ = 1 ∨ κ = 2 ∨ κ = 3 ∨ κ = 4 ∨ κ = 5 := by omega
              obtain ⟨c0, c1, c2⟩ := hAb5.a.at
              obtain ⟨e0, e1, e2⟩ := hAb5.b.at
              go_upto_block 2 with fail
              obtain ⟨W6, hW6⟩ : ∃ W6, W6 = wr.alloc (.cells #[.int .i64 k, .int .i64 xa, .int .i64 a, .int .i64 g, .int .i64 c, .int .i64 h, .slice Lp Ln Lc, .slice Wp Wn Wc, .int .u32 (b : Int), .slice Fp Fn Fc] 49) := ⟨_, rfl⟩
              have hAb6 : Ab w W6 ga gb y1 y2 T := by rw [hW6]; exact hAb5
              have hO6 : Vd W6 wr.heap.size (⟨k, xa, a, g, c, h, Lp, Ln, Lc, Wp, Wn, Wc, b, Fp, Fn, Fc⟩ : De) := by rw [hW6]; exact hO
              rw [← hW6] at s5 o0 o1 o2 o3 o4 o5 o6 o7 o8 o9 c0 c1 c2 e0 e1 e2 ⊢
              clear hW6 hAb5 hO hAb f0 f1 f2 f3 f4 f5 f6 f7 f8 f9
              obtain ⟨go, hgo⟩ : ∃ go, go = wr.heap.size := ⟨_, rfl⟩
              have hgo3 : ga < go ∧ gb < go := by omega
              rw [← hgo] at hO6 o0 o1 o2 o3 o4 o5 o6 o7 o8 o9
              simp only [← hgo]
              have hgoe : go = wr.heap.size := hgo
              clear hgo
              have hgoH : Hid (go = wr.heap.size) := hgoe
              have hgol : go ≤ wr.heap.size := Nat.le_of_eq hgoe
              clear hgoe
              go_cut [6] from 75 to 196 (fun s6 wx => ∃ (y1 y2 : Tw) (T : Tb), s6 = .pointer (some ⟨go, 0, none⟩) ∧ Wf (n + 1) T ∧ Ab w wx ga gb y1 y2 T ∧ Vd wx go (⟨k, xa, a, g, c, h, Lp, Ln, Lc, Wp, Wn, Wc, b, Fp, Fn, Fc⟩ : De))
              case first =>
                rcases hκ with rfl | rfl | rfl | rfl | rfl | rfl
                · as_aux_lemma =>
                  obtain ⟨B, hB⟩ : ∃ B, mkOk T xa = B := ⟨_, rfl⟩
                  obtain ⟨hA, hha⟩ : ∃ hA, mkA T xa = hA := ⟨_, rfl⟩
                  obtain ⟨hG, hhg⟩ : ∃ hG, mkG T xa = hG := ⟨_, rfl⟩
                  have HB : Hid (mkOk T xa = B) := hB
                  have HAG : Hid (mkA T xa = hA ∧ mkG T xa = hG) := ⟨hha, hhg⟩
                  have HWF : Hid (Wf (n + 1) (mkR T xa)) := mkR_wf wf xa
                  have q1 : (B != B) = false := by cases B <;> rfl
                  have q2 : (hA == hA) = true := beq_self_eq_true _
                  have q3 : (hG == hG) = true := beq_self_eq_true _
                  have q4 : decide (hA = hA) = true := decide_eq_true rfl
                  have q5 : decide (hG = hG) = true := decide_eq_true rfl
                  clear hB hha hhg
                  go_upto_region 17 with (first
                    | (go_at_call 23; refine (rmake_any y2 T n _ Ab11.t2 wf (by omega) xa B HB.out hA hG HAG.out.1 HAG.out.2).mono ?_; rintro e9 w12 ⟨z2, rfl, t2, b12⟩; have s12 : Below w12.heap.size w12 ((w12.alloc (.cells #[.slice z2.gp 12 z2.gc, .slice z2.ip 12 z2.ic, .slice z2.tp 12 z2.tc] 35)).alloc (.cells #[.int .i64 hA, .int .i64 hG] 38)) := (bel_self w12 (.cells #[.slice z2.gp 12 z2.gc, .slice z2.ip 12 z2.ic, .slice z2.tp 12 z2.tc] 35)).alloc (by simp) (.cells #[.int .i64 hA, .int .i64 hG] 38); have B12 := bel_call b12 (Nat.le_refl _) s12; have Ab12 := Ab11.below B12; have O12 := O11.below B12; clear o0 o1 o2 o3 o4 o5 o6 o7 o8 o9 c0 c1 c2 e0 e1 e2; obtain ⟨o0, o1, o2, o3, o4, o5, o6, o7, o8, o9⟩ := O12.at; obtain ⟨c0, c1, c2⟩ := Ab12.a.at; obtain ⟨e0, e1, e2⟩ := Ab12.b.at; have H2 : Lv ((w12.alloc (.cells #[.slice z2.gp 12 z2.gc, .slice z2.ip 12 z2.ic, .slice z2.tp 12 z2.tc] 35)).alloc (.cells #[.int .i64 hA, .int .i64 hG] 38)) (w12.heap.size + 1) #[.int .i64 hA, .int .i64 hG] 38 := heap_at (by simp); have H11 := H1.below B12; have i0 := H11.c 0 rfl; have i1 := H11.c 1 rfl; have j0 := H2.c 0 rfl; have j1 := H2.c 1 rfl)
                    | (go_at_call 22; refine (make_any y1 T n _ hAb6.t1 wf (by omega) xa B HB.out hA hG HAG.out.1 HAG.out.2).mono ?_; rintro e9 w11 ⟨z1, rfl, t1, b11⟩; have s11 : Below w11.heap.size w11 ((w11.alloc (.cells #[.slice z1.gp 12 z1.gc, .slice z1.ip 12 z1.ic, .slice z1.tp 12 z1.tc] 30)).alloc (.cells #[.int .i64 hA, .int .i64 hG] 38)) := (bel_self w11 (.cells #[.slice z1.gp 12 z1.gc, .slice z1.ip 12 z1.ic, .slice z1.tp 12 z1.tc] 30)).alloc (by simp) (.cells #[.int .i64 hA, .int .i64 hG] 38); have B11 := bel_call b11 (Nat.le_refl _) s11; have Ab11 := hAb6.below B11; have O11 := hO6.below B11; clear o0 o1 o2 o3 o4 o5 o6 o7 o8 o9 c0 c1 c2 e0 e1 e2; obtain ⟨o0, o1, o2, o3, o4, o5, o6, o7, o8, o9⟩ := O11.at; obtain ⟨c0, c1, c2⟩ := Ab11.a.at; obtain ⟨e0, e1, e2⟩ := Ab11.b.at; have H1 : Lv ((w11.alloc (.cells #[.slice z1.gp 12 z1.gc, .slice z1.ip 12 z1.ic, .slice z1.tp 12 z1.tc] 30)).alloc (.cells #[.int .i64 hA, .int .i64 hG] 38)) (w11.heap.size + 1) #[.int .i64 hA, .int .i64 hG] 38 := heap_at (by simp)))
                  have VX0 : Vw ((w11.alloc (.cells #[.slice z1.gp 12 z1.gc, .slice z1.ip 12 z1.ic, .slice z1.tp 12 z1.tc] 30)).alloc (.cells #[.int .i64 hA, .int .i64 hG] 38)) w11.heap.size z1 30 := (Vw.new w11 z1 30).below (bel_self _ (.cells #[.int .i64 hA, .int .i64 hG] 38))
                  have VX1 := VX0.below B12
                  have VY1 : Vw ((w12.alloc (.cells #[.slice z2.gp 12 z2.gc, .slice z2.ip 12 z2.ic, .slice z2.tp 12 z2.tc] 35)).alloc (.cells #[.int .i64 hA, .int .i64 hG] 38)) w12.heap.size z2 35 := (Vw.new w12 z2 35).below (bel_self _ (.cells #[.int .i64 hA, .int .i64 hG] 38))
                  have t11 := (t1.below s11).below B12
                  have t12 := t2.below s12
                  have lz1 : wr.heap.size ≤ w11.heap.size := Nat.le_trans s5.size b11.size
                  have lz2 : w11.heap.size < w12.heap.size := by have h1 := VX0.lt; have h2 := b12.size; omega
                  have bz0 := Below.refl ((w12.alloc (.cells #[.slice z2.gp 12 z2.gc, .slice z2.ip 12 z2.ic, .slice z2.tp 12 z2.tc] 35)).alloc (.cells #[.int .i64 hA, .int .i64 hG] 38)).heap.size ((w12.alloc (.cells #[.slice z2.gp 12 z2.gc, .slice z2.ip 12 z2.ic, .slice z2.tp 12 z2.tc] 35)).alloc (.cells #[.int .i64 hA, .int .i64 hG] 38))
                  have VX := VX1.below bz0
                  have VY := VY1.below bz0
                  have AbX := Ab12.below bz0
                  have OX := O12.below bz0
                  have tX1 := t11.below bz0
                  have tX2 := t12.below bz0
                  obtain ⟨WX, hWX⟩ : ∃ WX, WX = ((w12.alloc (.cells #[.slice z2.gp 12 z2.gc, .slice z2.ip 12 z2.ic, .slice z2.tp 12 z2.tc] 35)).alloc (.cells #[.int .i64 hA, .int .i64 hG] 38)) := ⟨_, rfl⟩
                  rw [← hWX] at VX VY AbX OX tX1 tX2 ⊢
                  clear i0 i1 j0 j1 H1 H2 H11 hWX VX0 VX1 VY1 t11 t12 o0 o1 o2 o3 o4 o5 o6 o7 o8 o9 c0 c1 c2 e0 e1 e2
                  obtain ⟨gx, hgx⟩ : ∃ gx, gx = w11.heap.size := ⟨_, rfl⟩
                  obtain ⟨gy, hgy⟩ : ∃ gy, gy = w12.heap.size := ⟨_, rfl⟩
                  rw [← hgx] at VX lz1 lz2
                  rw [← hgy] at VY lz2
                  simp only [← hgx, ← hgy]
                  have hlx : ga < gx ∧ gb < gx ∧ gx < gy ∧ go < gx + 1 := by omega
                  clear hgx hgy
                  refine wp_region_held_drew (S := fun w' => w'.heap[gx]? = WX.heap[gx]? ∧ w'.heap[gy]? = WX.heap[gy]?) (by kernel_rfl) ⟨rfl, rfl⟩ (fun hHeld => ?_)
                  refine wpAnyH_take (i := 0) (oi := _) (v := ?_) rfl (by kernel_rfl) (by kernel_rfl) (by kernel_rfl) (fun _ _ _ h => h) (Or.inl ⟨by rfl, ?_⟩) hHeld ?_
                  rotate_left
                  · intro w' hSw
                    obtain ⟨v0, v1, v2⟩ := Vw.at (show Vw w' gx z1 30 from hSw.1.trans VX)
                    (go_simp <;> with_reducible rfl)
                  try simp only [Act.put, List.getElem_toArray, List.getElem_cons_zero, List.setIfInBounds_toArray, List.set_cons_zero, List.set_cons_succ]
                  refine wpAnyH_take (i := 1) (oi := _) (v := ?_) rfl (by kernel_rfl) (by kernel_rfl) (by kernel_rfl) (fun _ _ _ h => h) (Or.inl ⟨by rfl, ?_⟩) hHeld ?_
                  rotate_left
                  · intro w' hSw
                    obtain ⟨v0, v1, v2⟩ := Vw.at (show Vw w' gy z2 35 from hSw.2.trans VY)
                    (go_simp <;> with_reducible rfl)
                  try simp only [Act.put, List.getElem_toArray, List.getElem_cons_succ, List.getElem_cons_zero, List.setIfInBounds_toArray, List.set_cons_zero, List.set_cons_succ]
                  refine wpAnyH_ready (rs := [2]) (by kernel_rfl) (by simp) ?_
                  refine AllReadyH.cons (o := _) rfl (fun K hK => ?_) (AllReadyH.nil)
                  refine step_stV (E := eTb) rfl 30 _ _ rfl size30 ga _ (Lv.draw AbX.a) rfl z1 rfl rfl ?_
                  intro w8 L8 k8
                  have l8 : WX.heap.size ≤ w8.heap.size := k8.size
                  have hS8 : w8.heap[gx]? = WX.heap[gx]? ∧ w8.heap[gy]? = WX.heap[gy]? := ⟨k8.block _ VX.lt (by intro h; have h := Option.some.inj h; omega), k8.block _ VY.lt (by intro h; have h := Option.some.inj h; omega)⟩
                  refine hK.out _ _ hS8 (fun hHeld => ?_)
                  clear hK K
                  try simp only [Act.put, List.getElem_toArray, List.getElem_cons_succ, List.getElem_cons_zero]
                  refine wpAnyH_ready (rs := [3]) (by kernel_rfl) (by simp) ?_
                  refine AllReadyH.cons (o := _) rfl (fun K hK => ?_) (AllReadyH.nil)
                  have Vb8 : Vw w8 gb y2 35 := Lv.kp (Lv.draw AbX.b) k8 (Ne.symm hab)
                  refine step_stV (E := eTb) rfl 35 _ _ rfl size35 gb _ Vb8 rfl z2 rfl rfl ?_
                  intro w9 L9 k9
                  have hS9 : w9.heap[gx]? = WX.heap[gx]? ∧ w9.heap[gy]? = WX.heap[gy]? := ⟨(k9.block _ (Nat.lt_of_lt_of_le VX.lt l8) (by intro h; have h := Option.some.inj h; omega)).trans hS8.1, (k9.block _ (Nat.lt_of_lt_of_le VY.lt l8) (by intro h; have h := Option.some.inj h; omega)).trans hS8.2⟩
                  refine hK.out _ _ hS9 (fun hHeld => ?_)
                  clear hK K hHeld
                  try simp only [Act.put, List.getElem_toArray, List.getElem_cons_succ, List.getElem_cons_zero]
                  refine wpAnyH_done (by kernel_rfl) ?_ _
                  have drw := (Below.refl WX.heap.size WX).drew
                  have hAb9 := (AbX.below drw).set ((tX1).below drw) ((tX2).below drw) k8 L8 k9 L9 hga0 hgb0 hab
                  have hO9 : Vd w9 go (⟨k, xa, a, g, c, h, Lp, Ln, Lc, Wp, Wn, Wc, b, Fp, Fn, Fc⟩ : De) := Lv.kp (Lv.kp (Lv.draw OX) k8 (by omega)) k9 (by omega)
                  go_wp2
                  go_meet
                  case rel => exact ⟨z1, z2, mkR T xa, rfl, HWF.out, hAb9, hO9⟩
                · as_aux_lemma =>
                  obtain ⟨B, hB⟩ : ∃ B, mkOk T xa = B := ⟨_, rfl⟩
                  obtain ⟨hA, hha⟩ : ∃ hA, mkA T xa = hA := ⟨_, rfl⟩
                  obtain ⟨hG, hhg⟩ : ∃ hG, mkG T xa = hG := ⟨_, rfl⟩
                  have HB : Hid (mkOk T xa = B) := hB
                  have HAG : Hid (mkA T xa = hA ∧ mkG T xa = hG) := ⟨hha, hhg⟩
                  have HWF : Hid (Wf (n + 1) (mkR T xa)) := mkR_wf wf xa
                  have q1 : (B != B) = false := by cases B <;> rfl
                  have q2 : (hA == hA) = true := beq_self_eq_true _
                  have q3 : (hG == hG) = true := beq_self_eq_true _
                  have q4 : decide (hA = hA) = true := decide_eq_true rfl
                  have q5 : decide (hG = hG) = true := decide_eq_true rfl
                  clear hB hha hhg
                  go_upto_region 17 with (first
                    | (go_at_call 23; refine (rmake_any y2 T n _ Ab11.t2 wf (by omega) xa B HB.out hA hG HAG.out.1 HAG.out.2).mono ?_; rintro e9 w12 ⟨z2, rfl, t2, b12⟩; have s12 : Below w12.heap.size w12 ((w12.alloc (.cells #[.slice z2.gp 12 z2.gc, .slice z2.ip 12 z2.ic, .slice z2.tp 12 z2.tc] 35)).alloc (.cells #[.int .i64 hA, .int .i64 hG] 38)) := (bel_self w12 (.cells #[.slice z2.gp 12 z2.gc, .slice z2.ip 12 z2.ic, .slice z2.tp 12 z2.tc] 35)).alloc (by simp) (.cells #[.int .i64 hA, .int .i64 hG] 38); have B12 := bel_call b12 (Nat.le_refl _) s12; have Ab12 := Ab11.below B12; have O12 := O11.below B12; clear o0 o1 o2 o3 o4 o5 o6 o7 o8 o9 c0 c1 c2 e0 e1 e2; obtain ⟨o0, o1, o2, o3, o4, o5, o6, o7, o8, o9⟩ := O12.at; obtain ⟨c0, c1, c2⟩ := Ab12.a.at; obtain ⟨e0, e1, e2⟩ := Ab12.b.at; have H2 : Lv ((w12.alloc (.cells #[.slice z2.gp 12 z2.gc, .slice z2.ip 12 z2.ic, .slice z2.tp 12 z2.tc] 35)).alloc (.cells #[.int .i64 hA, .int .i64 hG] 38)) (w12.heap.size + 1) #[.int .i64 hA, .int .i64 hG] 38 := heap_at (by simp); have H11 := H1.below B12; have i0 := H11.c 0 rfl; have i1 := H11.c 1 rfl; have j0 := H2.c 0 rfl; have j1 := H2.c 1 rfl)
                    | (go_at_call 22; refine (make_any y1 T n _ hAb6.t1 wf (by omega) xa B HB.out hA hG HAG.out.1 HAG.out.2).mono ?_; rintro e9 w11 ⟨z1, rfl, t1, b11⟩; have s11 : Below w11.heap.size w11 ((w11.alloc (.cells #[.slice z1.gp 12 z1.gc, .slice z1.ip 12 z1.ic, .slice z1.tp 12 z1.tc] 30)).alloc (.cells #[.int .i64 hA, .int .i64 hG] 38)) := (bel_self w11 (.cells #[.slice z1.gp 12 z1.gc, .slice z1.ip 12 z1.ic, .slice z1.tp 12 z1.tc] 30)).alloc (by simp) (.cells #[.int .i64 hA, .int .i64 hG] 38); have B11 := bel_call b11 (Nat.le_refl _) s11; have Ab11 := hAb6.below B11; have O11 := hO6.below B11; clear o0 o1 o2 o3 o4 o5 o6 o7 o8 o9 c0 c1 c2 e0 e1 e2; obtain ⟨o0, o1, o2, o3, o4, o5, o6, o7, o8, o9⟩ := O11.at; obtain ⟨c0, c1, c2⟩ := Ab11.a.at; obtain ⟨e0, e1, e2⟩ := Ab11.b.at; have H1 : Lv ((w11.alloc (.cells #[.slice z1.gp 12 z1.gc, .slice z1.ip 12 z1.ic, .slice z1.tp 12 z1.tc] 30)).alloc (.cells #[.int .i64 hA, .int .i64 hG] 38)) (w11.heap.size + 1) #[.int .i64 hA, .int .i64 hG] 38 := heap_at (by simp)))
                  have VX0 : Vw ((w11.alloc (.cells #[.slice z1.gp 12 z1.gc, .slice z1.ip 12 z1.ic, .slice z1.tp 12 z1.tc] 30)).alloc (.cells #[.int .i64 hA, .int .i64 hG] 38)) w11.heap.size z1 30 := (Vw.new w11 z1 30).below (bel_self _ (.cells #[.int .i64 hA, .int .i64 hG] 38))
                  have VX1 := VX0.below B12
                  have VY1 : Vw ((w12.alloc (.cells #[.slice z2.gp 12 z2.gc, .slice z2.ip 12 z2.ic, .slice z2.tp 12 z2.tc] 35)).alloc (.cells #[.int .i64 hA, .int .i64 hG] 38)) w12.heap.size z2 35 := (Vw.new w12 z2 35).below (bel_self _ (.cells #[.int .i64 hA, .int .i64 hG] 38))
                  have t11 := (t1.below s11).below B12
                  have t12 := t2.below s12
                  have lz1 : wr.heap.size ≤ w11.heap.size := Nat.le_trans s5.size b11.size
                  have lz2 : w11.heap.size < w12.heap.size := by have h1 := VX0.lt; have h2 := b12.size; omega
                  have bz0 := Below.refl ((w12.alloc (.cells #[.slice z2.gp 12 z2.gc, .slice z2.ip 12 z2.ic, .slice z2.tp 12 z2.tc] 35)).alloc (.cells #[.int .i64 hA, .int .i64 hG] 38)).heap.size ((w12.alloc (.cells #[.slice z2.gp 12 z2.gc, .slice z2.ip 12 z2.ic, .slice z2.tp 12 z2.tc] 35)).alloc (.cells #[.int .i64 hA, .int .i64 hG] 38))
                  have VX := VX1.below bz0
                  have VY := VY1.below bz0
                  have AbX := Ab12.below bz0
                  have OX := O12.below bz0
                  have tX1 := t11.below bz0
                  have tX2 := t12.below bz0
                  obtain ⟨WX, hWX⟩ : ∃ WX, WX = ((w12.alloc (.cells #[.slice z2.gp 12 z2.gc, .slice z2.ip 12 z2.ic, .slice z2.tp 12 z2.tc] 35)).alloc (.cells #[.int .i64 hA, .int .i64 hG] 38)) := ⟨_, rfl⟩
                  rw [← hWX] at VX VY AbX OX tX1 tX2 ⊢
                  clear i0 i1 j0 j1 H1 H2 H11 hWX VX0 VX1 VY1 t11 t12 o0 o1 o2 o3 o4 o5 o6 o7 o8 o9 c0 c1 c2 e0 e1 e2
                  obtain ⟨gx, hgx⟩ : ∃ gx, gx = w11.heap.size := ⟨_, rfl⟩
                  obtain ⟨gy, hgy⟩ : ∃ gy, gy = w12.heap.size := ⟨_, rfl⟩
                  rw [← hgx] at VX lz1 lz2
                  rw [← hgy] at VY lz2
                  simp only [← hgx, ← hgy]
                  have hlx : ga < gx ∧ gb < gx ∧ gx < gy ∧ go < gx + 1 := by omega
                  clear hgx hgy
                  refine wp_region_held_drew (S := fun w' => w'.heap[gx]? = WX.heap[gx]? ∧ w'.heap[gy]? = WX.heap[gy]?) (by kernel_rfl) ⟨rfl, rfl⟩ (fun hHeld => ?_)
                  refine wpAnyH_take (i := 0) (oi := _) (v := ?_) rfl (by kernel_rfl) (by kernel_rfl) (by kernel_rfl) (fun _ _ _ h => h) (Or.inl ⟨by rfl, ?_⟩) hHeld ?_
                  rotate_left
                  · intro w' hSw
                    obtain ⟨v0, v1, v2⟩ := Vw.at (show Vw w' gx z1 30 from hSw.1.trans VX)
                    (go_simp <;> with_reducible rfl)
                  try simp only [Act.put, List.getElem_toArray, List.getElem_cons_zero, List.setIfInBounds_toArray, List.set_cons_zero, List.set_cons_succ]
                  refine wpAnyH_take (i := 1) (oi := _) (v := ?_) rfl (by kernel_rfl) (by kernel_rfl) (by kernel_rfl) (fun _ _ _ h => h) (Or.inl ⟨by rfl, ?_⟩) hHeld ?_
                  rotate_left
                  · intro w' hSw
                    obtain ⟨v0, v1, v2⟩ := Vw.at (show Vw w' gy z2 35 from hSw.2.trans VY)
                    (go_simp <;> with_reducible rfl)
                  try simp only [Act.put, List.getElem_toArray, List.getElem_cons_succ, List.getElem_cons_zero, List.setIfInBounds_toArray, List.set_cons_zero, List.set_cons_succ]
                  refine wpAnyH_ready (rs := [2]) (by kernel_rfl) (by simp) ?_
                  refine AllReadyH.cons (o := _) rfl (fun K hK => ?_) (AllReadyH.nil)
                  refine step_stV (E := eTb) rfl 30 _ _ rfl size30 ga _ (Lv.draw AbX.a) rfl z1 rfl rfl ?_
                  intro w8 L8 k8
                  have l8 : WX.heap.size ≤ w8.heap.size := k8.size
                  have hS8 : w8.heap[gx]? = WX.heap[gx]? ∧ w8.heap[gy]? = WX.heap[gy]? := ⟨k8.block _ VX.lt (by intro h; have h := Option.some.inj h; omega), k8.block _ VY.lt (by intro h; have h := Option.some.inj h; omega)⟩
                  refine hK.out _ _ hS8 (fun hHeld => ?_)
                  clear hK K
                  try simp only [Act.put, List.getElem_toArray, List.getElem_cons_succ, List.getElem_cons_zero]
                  refine wpAnyH_ready (rs := [3]) (by kernel_rfl) (by simp) ?_
                  refine AllReadyH.cons (o := _) rfl (fun K hK => ?_) (AllReadyH.nil)
                  have Vb8 : Vw w8 gb y2 35 := Lv.kp (Lv.draw AbX.b) k8 (Ne.symm hab)
                  refine step_stV (E := eTb) rfl 35 _ _ rfl size35 gb _ Vb8 rfl z2 rfl rfl ?_
                  intro w9 L9 k9
                  have hS9 : w9.heap[gx]? = WX.heap[gx]? ∧ w9.heap[gy]? = WX.heap[gy]? := ⟨(k9.block _ (Nat.lt_of_lt_of_le VX.lt l8) (by intro h; have h := Option.some.inj h; omega)).trans hS8.1, (k9.block _ (Nat.lt_of_lt_of_le VY.lt l8) (by intro h; have h := Option.some.inj h; omega)).trans hS8.2⟩
                  refine hK.out _ _ hS9 (fun hHeld => ?_)
                  clear hK K hHeld
                  try simp only [Act.put, List.getElem_toArray, List.getElem_cons_succ, List.getElem_cons_zero]
                  refine wpAnyH_done (by kernel_rfl) ?_ _
                  have drw := (Below.refl WX.heap.size WX).drew
                  have hAb9 := (AbX.below drw).set ((tX1).below drw) ((tX2).below drw) k8 L8 k9 L9 hga0 hgb0 hab
                  have hO9 : Vd w9 go (⟨k, xa, a, g, c, h, Lp, Ln, Lc, Wp, Wn, Wc, b, Fp, Fn, Fc⟩ : De) := Lv.kp (Lv.kp (Lv.draw OX) k8 (by omega)) k9 (by omega)
                  go_wp2
                  go_meet
                  case rel => exact ⟨z1, z2, mkR T xa, rfl, HWF.out, hAb9, hO9⟩
                · as_aux_lemma =>
                  obtain ⟨B, hB⟩ : ∃ B, drOk T a g = B := ⟨_, rfl⟩
                  obtain ⟨nW, hnW⟩ : ∃ nW, (drW T a g).length = nW := ⟨_, rfl⟩
                  have HB : Hid (drOk T a g = B) := hB
                  have HNW : Hid ((drW T a g).length = nW) := hnW
                  have hnw9 : nW ≤ 200 := by rw [← hnW]; exact drW_le hAb6.t1 wf a g
                  have HWF : Hid (Wf (n + 1) (drR T a g)) := (drR_wf wf a g).mono (Nat.le_succ n)
                  have q1 : (B != B) = false := by cases B <;> rfl
                  clear hB hnW
                  go_upto_region 23 with (first
                    | (go_at_call 13; refine (sameints_yes p1 q1 p2 q2 (drW T a g) _ ((r1.below s11).below B12) (r2.below s12) nW HNW.out (by omega)).mono ?_; rintro e9 w13 ⟨rfl, b13⟩)
                    | (go_at_call 12; refine (rdrop_any y2 T n _ Ab11.t2 wf (by omega) a g B HB.out nW HNW.out).mono ?_; rintro e9 w12 ⟨z2, p2, q2, rfl, t2, r2, b12⟩; have s12 : Below w12.heap.size w12 (w12.alloc (.cells #[.slice z2.gp 12 z2.gc, .slice z2.ip 12 z2.ic, .slice z2.tp 12 z2.tc] 35)) := bel_self w12 (.cells #[.slice z2.gp 12 z2.gc, .slice z2.ip 12 z2.ic, .slice z2.tp 12 z2.tc] 35); have B12 := bel_call b12 (Nat.le_refl _) s12; have Ab12 := Ab11.below B12; have O12 := O11.below B12; clear o0 o1 o2 o3 o4 o5 o6 o7 o8 o9 c0 c1 c2 e0 e1 e2; obtain ⟨o0, o1, o2, o3, o4, o5, o6, o7, o8, o9⟩ := O12.at; obtain ⟨c0, c1, c2⟩ := Ab12.a.at; obtain ⟨e0, e1, e2⟩ := Ab12.b.at)
                    | (go_at_call 11; refine (drop_any y1 T n _ hAb6.t1 wf (by omega) a g HDX.out.a HDX.out.g B HB.out nW HNW.out).mono ?_; rintro e9 w11 ⟨z1, p1, q1, rfl, t1, r1, b11⟩; have s11 : Below w11.heap.size w11 (w11.alloc (.cells #[.slice z1.gp 12 z1.gc, .slice z1.ip 12 z1.ic, .slice z1.tp 12 z1.tc] 30)) := bel_self w11 (.cells #[.slice z1.gp 12 z1.gc, .slice z1.ip 12 z1.ic, .slice z1.tp 12 z1.tc] 30); have B11 := bel_call b11 (Nat.le_refl _) s11; have Ab11 := hAb6.below B11; have O11 := hO6.below B11; clear o0 o1 o2 o3 o4 o5 o6 o7 o8 o9 c0 c1 c2 e0 e1 e2; obtain ⟨o0, o1, o2, o3, o4, o5, o6, o7, o8, o9⟩ := O11.at; obtain ⟨c0, c1, c2⟩ := Ab11.a.at; obtain ⟨e0, e1, e2⟩ := Ab11.b.at))
                  have VX0 : Vw (w11.alloc (.cells #[.slice z1.gp 12 z1.gc, .slice z1.ip 12 z1.ic, .slice z1.tp 12 z1.tc] 30)) w11.heap.size z1 30 := Vw.new w11 z1 30
                  have VX1 := VX0.below B12
                  have VY1 : Vw (w12.alloc (.cells #[.slice z2.gp 12 z2.gc, .slice z2.ip 12 z2.ic, .slice z2.tp 12 z2.tc] 35)) w12.heap.size z2 35 := Vw.new w12 z2 35
                  have t11 := (t1.below s11).below B12
                  have t12 := t2.below s12
                  have lz1 : wr.heap.size ≤ w11.heap.size := Nat.le_trans s5.size b11.size
                  have lz2 : w11.heap.size < w12.heap.size := by have h1 := VX0.lt; have h2 := b12.size; omega
                  have bz0 := Below.refl (w12.alloc (.cells #[.slice z2.gp 12 z2.gc, .slice z2.ip 12 z2.ic, .slice z2.tp 12 z2.tc] 35)).heap.size (w12.alloc (.cells #[.slice z2.gp 12 z2.gc, .slice z2.ip 12 z2.ic, .slice z2.tp 12 z2.tc] 35))
                  have bz1 := bel_call bz0 (Nat.le_refl _) b13
                  have VX := VX1.below bz1
                  have VY := VY1.below bz1
                  have AbX := Ab12.below bz1
                  have OX := O12.below bz1
                  have tX1 := t11.below bz1
                  have tX2 := t12.below bz1
                  obtain ⟨WX, hWX⟩ : ∃ WX, WX = w13 := ⟨_, rfl⟩
                  rw [← hWX] at VX VY AbX OX tX1 tX2 ⊢
                  clear hWX VX0 VX1 VY1 t11 t12 o0 o1 o2 o3 o4 o5 o6 o7 o8 o9 c0 c1 c2 e0 e1 e2
                  obtain ⟨gx, hgx⟩ : ∃ gx, gx = w11.heap.size := ⟨_, rfl⟩
                  obtain ⟨gy, hgy⟩ : ∃ gy, gy = w12.heap.size := ⟨_, rfl⟩
                  rw [← hgx] at VX lz1 lz2
                  rw [← hgy] at VY lz2
                  simp only [← hgx, ← hgy]
                  have hlx : ga < gx ∧ gb < gx ∧ gx < gy ∧ go < gx + 1 := by omega
                  clear hgx hgy
                  refine wp_region_held_drew (S := fun w' => w'.heap[gx]? = WX.heap[gx]? ∧ w'.heap[gy]? = WX.heap[gy]?) (by kernel_rfl) ⟨rfl, rfl⟩ (fun hHeld => ?_)
                  refine wpAnyH_take (i := 0) (oi := _) (v := ?_) rfl (by kernel_rfl) (by kernel_rfl) (by kernel_rfl) (fun _ _ _ h => h) (Or.inl ⟨by rfl, ?_⟩) hHeld ?_
                  rotate_left
                  · intro w' hSw
                    obtain ⟨v0, v1, v2⟩ := Vw.at (show Vw w' gx z1 30 from hSw.1.trans VX)
                    (go_simp <;> with_reducible rfl)
                  try simp only [Act.put, List.getElem_toArray, List.getElem_cons_zero, List.setIfInBounds_toArray, List.set_cons_zero, List.set_cons_succ]
                  refine wpAnyH_take (i := 1) (oi := _) (v := ?_) rfl (by kernel_rfl) (by kernel_rfl) (by kernel_rfl) (fun _ _ _ h => h) (Or.inl ⟨by rfl, ?_⟩) hHeld ?_
                  rotate_left
                  · intro w' hSw
                    obtain ⟨v0, v1, v2⟩ := Vw.at (show Vw w' gy z2 35 from hSw.2.trans VY)
                    (go_simp <;> with_reducible rfl)
                  try simp only [Act.put, List.getElem_toArray, List.getElem_cons_succ, List.getElem_cons_zero, List.setIfInBounds_toArray, List.set_cons_zero, List.set_cons_succ]
                  refine wpAnyH_ready (rs := [2]) (by kernel_rfl) (by simp) ?_
                  refine AllReadyH.cons (o := _) rfl (fun K hK => ?_) (AllReadyH.nil)
                  refine step_stV (E := eTb) rfl 30 _ _ rfl size30 ga _ (Lv.draw AbX.a) rfl z1 rfl rfl ?_
                  intro w8 L8 k8
                  have l8 : WX.heap.size ≤ w8.heap.size := k8.size
                  have hS8 : w8.heap[gx]? = WX.heap[gx]? ∧ w8.heap[gy]? = WX.heap[gy]? := ⟨k8.block _ VX.lt (by intro h; have h := Option.some.inj h; omega), k8.block _ VY.lt (by intro h; have h := Option.some.inj h; omega)⟩
                  refine hK.out _ _ hS8 (fun hHeld => ?_)
                  clear hK K
                  try simp only [Act.put, List.getElem_toArray, List.getElem_cons_succ, List.getElem_cons_zero]
                  refine wpAnyH_ready (rs := [3]) (by kernel_rfl) (by simp) ?_
                  refine AllReadyH.cons (o := _) rfl (fun K hK => ?_) (AllReadyH.nil)
                  have Vb8 : Vw w8 gb y2 35 := Lv.kp (Lv.draw AbX.b) k8 (Ne.symm hab)
                  refine step_stV (E := eTb) rfl 35 _ _ rfl size35 gb _ Vb8 rfl z2 rfl rfl ?_
                  intro w9 L9 k9
                  have hS9 : w9.heap[gx]? = WX.heap[gx]? ∧ w9.heap[gy]? = WX.heap[gy]? := ⟨(k9.block _ (Nat.lt_of_lt_of_le VX.lt l8) (by intro h; have h := Option.some.inj h; omega)).trans hS8.1, (k9.block _ (Nat.lt_of_lt_of_le VY.lt l8) (by intro h; have h := Option.some.inj h; omega)).trans hS8.2⟩
                  refine hK.out _ _ hS9 (fun hHeld => ?_)
                  clear hK K hHeld
                  try simp only [Act.put, List.getElem_toArray, List.getElem_cons_succ, List.getElem_cons_zero]
                  refine wpAnyH_done (by kernel_rfl) ?_ _
                  have drw := (Below.refl WX.heap.size WX).drew
                  have hAb9 := (AbX.below drw).set ((tX1).below drw) ((tX2).below drw) k8 L8 k9 L9 hga0 hgb0 hab
                  have hO9 : Vd w9 go (⟨k, xa, a, g, c, h, Lp, Ln, Lc, Wp, Wn, Wc, b, Fp, Fn, Fc⟩ : De) := Lv.kp (Lv.kp (Lv.draw OX) k8 (by omega)) k9 (by omega)
                  go_wp2
                  go_meet
                  case rel => exact ⟨z1, z2, drR T a g, rfl, HWF.out, hAb9, hO9⟩
                · as_aux_lemma =>
                  obtain ⟨L, rL, lL⟩ := HDX.out.L
                  obtain ⟨Q, rQ, lQ⟩ := HDX.out.Q
                  obtain ⟨F, rF, uF, lF⟩ := HDX.out.F
                  have okX : Ok w (⟨0, 0, 0, c, h, Lp, Ln, Lc, Wp, Wn, Wc, b, Fp, Fn, Fc, 0⟩ : Tc) ⟨0, 0, 0, c, h, L, Q, b, F, 0⟩ := ⟨rfl, rfl, rfl, rfl, rfl, lL, lQ, lF, rfl, rfl, rL, rQ, rF, by show Ln ≤ 100; omega, by show Wn ≤ 100; omega, by show Fn ≤ 100; omega, HDX.out.b, by show 0 < _; decide, uF⟩
                  have HWF : Hid (Wf (n + 1) (ptR T xa c h L Q b F)) := (ptR_wf wf xa c h L Q b F).mono (Nat.le_succ n)
                  go_upto_region 26 with fail
                  have s6 := bel_self W6 (.cells #[.int .i64 0, .int .i64 0, .int .i64 0, .int .i64 c, .int .i64 h, .slice Lp Ln Lc, .slice Wp Wn Wc, .int .u32 (b : Int), .slice Fp Fn Fc, .int .u32 0] 56)
                  have AbX0 := hAb6.below s6
                  have OX := hO6.below s6
                  have V56 : Vt (W6.alloc (.cells #[.int .i64 0, .int .i64 0, .int .i64 0, .int .i64 c, .int .i64 h, .slice Lp Ln Lc, .slice Wp Wn Wc, .int .u32 (b : Int), .slice Fp Fn Fc, .int .u32 0] 56)) W6.heap.size (⟨0, 0, 0, c, h, Lp, Ln, Lc, Wp, Wn, Wc, b, Fp, Fn, Fc, 0⟩ : Tc) 56 := Vt.new W6 (⟨0, 0, 0, c, h, Lp, Ln, Lc, Wp, Wn, Wc, b, Fp, Fn, Fc, 0⟩ : Tc) 56
                  have okX0 := okX.below AbX0.bw
                  have lzt : ga < W6.heap.size ∧ gb < W6.heap.size ∧ go < W6.heap.size := ⟨hAb6.a.lt, hAb6.b.lt, Lv.lt hO6⟩
                  obtain ⟨gt, hgt⟩ : ∃ gt, gt = W6.heap.size := ⟨_, rfl⟩
                  rw [← hgt] at V56 lzt
                  simp only [← hgt]
                  obtain ⟨WX, hWX⟩ : ∃ WX, WX = W6.alloc (.cells #[.int .i64 0, .int .i64 0, .int .i64 0, .int .i64 c, .int .i64 h, .slice Lp Ln Lc, .slice Wp Wn Wc, .int .u32 (b : Int), .slice Fp Fn Fc, .int .u32 0] 56) := ⟨_, rfl⟩
                  rw [← hWX] at AbX0 OX V56 okX0 ⊢
                  clear hWX hgt s6 okX o0 o1 o2 o3 o4 o5 o6 o7 o8 o9 c0 c1 c2 e0 e1 e2
                  refine wp_region_held_drew (S := fun w' => w'.heap[go]? = WX.heap[go]? ∧ w'.heap[gt]? = WX.heap[gt]?) (by kernel_rfl) ⟨rfl, rfl⟩ (fun hHeld => ?_)
                  have drw := (Below.refl WX.heap.size WX).drew
                  have AbX := AbX0.below drw
                  have OXc : Vd WX.drew go (⟨k, xa, a, g, c, h, Lp, Ln, Lc, Wp, Wn, Wc, b, Fp, Fn, Fc⟩ : De) := OX.below drw
                  have V56c : Vt WX.drew gt (⟨0, 0, 0, c, h, Lp, Ln, Lc, Wp, Wn, Wc, b, Fp, Fn, Fc, 0⟩ : Tc) 56 := V56.below drw
                  have okX := okX0.below drw
                  generalize WX.drew = wd at *
                  refine wpAnyH_take (i := 1) (oi := _) (v := ?_) rfl (by kernel_rfl) (by kernel_rfl) (by kernel_rfl) (fun _ _ _ h => h) (Or.inl ⟨by rfl, ?_⟩) hHeld ?_
                  rotate_left
                  · intro w' hSw
                    (go_simp <;> with_reducible rfl)
                  try simp only [Act.put, List.getElem_toArray, List.getElem_cons_succ, List.getElem_cons_zero, List.setIfInBounds_toArray, List.set_cons_zero, List.set_cons_succ]
                  refine wpAnyH_take (i := 2) (oi := _) (v := ?_) rfl (by kernel_rfl) (by kernel_rfl) (by kernel_rfl) (fun _ _ _ h => h) (Or.inl ⟨by rfl, ?_⟩) hHeld ?_
                  rotate_left
                  · intro w' hSw
                    obtain ⟨o0, o1, o2, o3, o4, o5, o6, o7, o8, o9⟩ := Vd.at (show Vd w' go (⟨k, xa, a, g, c, h, Lp, Ln, Lc, Wp, Wn, Wc, b, Fp, Fn, Fc⟩ : De) from hSw.1.trans OX)
                    (go_simp <;> with_reducible rfl)
                  try simp only [Act.put, List.getElem_toArray, List.getElem_cons_succ, List.getElem_cons_zero, List.setIfInBounds_toArray, List.set_cons_zero, List.set_cons_succ]
                  refine wpAnyH_take (i := 3) (oi := _) (v := ?_) rfl (by kernel_rfl) (by kernel_rfl) (by kernel_rfl) (fun _ _ _ h => h) (Or.inl ⟨by rfl, ?_⟩) hHeld ?_
                  rotate_left
                  · intro w' hSw
                    obtain ⟨v0, v1, v2, v3, v4, v5, v6, v7, v8, v9⟩ := Vt.at (show Vt w' gt (⟨0, 0, 0, c, h, Lp, Ln, Lc, Wp, Wn, Wc, b, Fp, Fn, Fc, 0⟩ : Tc) 56 from hSw.2.trans V56)
                    (go_simp <;> with_reducible rfl)
                  try simp only [Act.put, List.getElem_toArray, List.getElem_cons_succ, List.getElem_cons_zero, List.setIfInBounds_toArray, List.set_cons_zero, List.set_cons_succ]
                  refine wpAnyH_take (i := 7) (oi := _) (v := ?_) rfl (by kernel_rfl) (by kernel_rfl) (by kernel_rfl) (fun _ _ _ h => h) (Or.inl ⟨by rfl, ?_⟩) hHeld ?_
                  rotate_left
                  · intro w' hSw
                    (go_simp <;> with_reducible rfl)
                  try simp only [Act.put, List.getElem_toArray, List.getElem_cons_succ, List.getElem_cons_zero, List.setIfInBounds_toArray, List.set_cons_zero, List.set_cons_succ]
                  refine wpAnyH_take (i := 8) (oi := _) (v := ?_) rfl (by kernel_rfl) (by kernel_rfl) (by kernel_rfl) (fun _ _ _ h => h) (Or.inl ⟨by rfl, ?_⟩) hHeld ?_
                  rotate_left
                  · intro w' hSw
                    obtain ⟨o0, o1, o2, o3, o4, o5, o6, o7, o8, o9⟩ := Vd.at (show Vd w' go (⟨k, xa, a, g, c, h, Lp, Ln, Lc, Wp, Wn, Wc, b, Fp, Fn, Fc⟩ : De) from hSw.1.trans OX)
                    (go_simp <;> with_reducible rfl)
                  try simp only [Act.put, List.getElem_toArray, List.getElem_cons_succ, List.getElem_cons_zero, List.setIfInBounds_toArray, List.set_cons_zero, List.set_cons_succ]
                  refine wpAnyH_take (i := 9) (oi := _) (v := ?_) rfl (by kernel_rfl) (by kernel_rfl) (by kernel_rfl) (fun _ _ _ h => h) (Or.inl ⟨by rfl, ?_⟩) hHeld ?_
                  rotate_left
                  · intro w' hSw
                    obtain ⟨v0, v1, v2, v3, v4, v5, v6, v7, v8, v9⟩ := Vt.at (show Vt w' gt (⟨0, 0, 0, c, h, Lp, Ln, Lc, Wp, Wn, Wc, b, Fp, Fn, Fc, 0⟩ : Tc) 56 from hSw.2.trans V56)
                    (go_simp <;> with_reducible rfl)
                  try simp only [Act.put, List.getElem_toArray, List.getElem_cons_succ, List.getElem_cons_zero, List.setIfInBounds_toArray, List.set_cons_zero, List.set_cons_succ]
                  refine wpAnyH_ready (rs := [0, 4, 6]) (by kernel_rfl) (by simp) ?_
                  refine AllReadyH.cons (o := _) rfl (fun K hK => ?_) (AllReadyH.cons (o := _) rfl (fun K hK => ?_) (AllReadyH.cons (o := _) rfl (fun K hK => ?_) (AllReadyH.nil)))
                  · obtain ⟨c0, c1, c2⟩ := AbX.a.at
                    go_simp
                    clear c0 c1 c2
                    refine hK.out _ _ ⟨OXc.trans OX.symm, V56c.trans V56.symm⟩ (fun hHeld => ?_)
                    clear hK K
                    try simp only [Act.put, List.getElem_toArray, List.getElem_cons_zero, List.setIfInBounds_toArray, List.set_cons_zero, List.set_cons_succ]
                    refine wpAnyH_ready (rs := [4, 6]) (by kernel_rfl) (by simp) ?_
                    refine AllReadyH.cons (o := _) rfl (fun K hK => ?_) (AllReadyH.cons (o := _) rfl (fun K hK => ?_) (AllReadyH.nil))
                    · go_simp
                      go_at_call 15; refine (back_any (⟨0, 0, 0, c, h, Lp, Ln, Lc, Wp, Wn, Wc, b, Fp, Fn, Fc, 0⟩ : Tc) _).mono ?_
                      rintro e9 w21 ⟨rfl, b21⟩
                      have AbX := AbX.below b21
                      have OXc := OXc.below b21
                      have V56c := V56c.below b21
                      have okX := okX.below b21
                      refine hK.out _ _ ⟨OXc.trans OX.symm, V56c.trans V56.symm⟩ (fun hHeld => ?_)
                      clear hK K
                      refine wpAnyH_ready (rs := [5, 6]) (by kernel_rfl) (by simp) ?_
                      refine AllReadyH.cons (o := _) rfl (fun K hK => ?_) (AllReadyH.cons (o := _) rfl (fun K hK => ?_) (AllReadyH.nil))
                      · go_simp
                        go_at_call 14; refine (put_any y1 T _ AbX.t1 xa (⟨0, 0, 0, c, h, Lp, Ln, Lc, Wp, Wn, Wc, b, Fp, Fn, Fc, 0⟩ : Tc) ⟨0, 0, 0, c, h, L, Q, b, F, 0⟩ okX).mono ?_
                        rintro e9 w22 ⟨z1, rfl, tp, b22⟩
                        have AbX := AbX.below b22
                        have OXc := OXc.below b22
                        have V56c := V56c.below b22
                        have okX := okX.below b22
                        refine hK.out _ _ ⟨OXc.trans OX.symm, V56c.trans V56.symm⟩ (fun hHeld => ?_)
                        clear hK K
                        try simp only [Act.put, List.getElem_toArray, List.getElem_cons_succ, List.getElem_cons_zero, List.setIfInBounds_toArray, List.set_cons_zero, List.set_cons_succ]
                        refine wpAnyH_ready (rs := [6]) (by kernel_rfl) (by simp) ?_
                        refine AllReadyH.cons (o := _) rfl (fun K hK => ?_) (AllReadyH.nil)
                        obtain ⟨c0, c1, c2⟩ := AbX.b.at
                        go_simp
                        clear c0 c1 c2
                        refine hK.out _ _ ⟨OXc.trans OX.symm, V56c.trans V56.symm⟩ (fun hHeld => ?_)
                        clear hK K
                        try simp only [Act.put, List.getElem_toArray, List.getElem_cons_succ, List.getElem_cons_zero, List.setIfInBounds_toArray, List.set_cons_zero, List.set_cons_succ]
                        refine wpAnyH_ready (rs := [10]) (by kernel_rfl) (by simp) ?_
                        refine AllReadyH.cons (o := _) rfl (fun K hK => ?_) (AllReadyH.nil)
                        go_simp
                        go_at_call 16; refine (rput_any y2 T _ AbX.t2 xa (⟨0, 0, 0, c, h, Lp, Ln, Lc, Wp, Wn, Wc, b, Fp, Fn, Fc, 0⟩ : Tc) ⟨0, 0, 0, c, h, L, Q, b, F, 0⟩ okX).mono ?_
                        rintro e9 w23 ⟨z2, rfl, tq, b23⟩
                        have AbX := AbX.below b23
                        have OXc := OXc.below b23
                        have V56c := V56c.below b23
                        have okX := okX.below b23
                        have tp := tp.below b23
                        refine hK.out _ _ ⟨OXc.trans OX.symm, V56c.trans V56.symm⟩ (fun hHeld => ?_)
                        clear hK K
                        try simp only [Act.put, List.getElem_toArray, List.getElem_cons_succ, List.getElem_cons_zero, List.setIfInBounds_toArray, List.set_cons_zero, List.set_cons_succ]
                        refine wpAnyH_ready (rs := [11]) (by kernel_rfl) (by simp) ?_
                        refine AllReadyH.cons (o := _) rfl (fun K hK => ?_) (AllReadyH.nil)
                        refine step_stV (E := eTb) rfl 30 _ _ rfl size30 ga _ AbX.a rfl z1 rfl rfl ?_
                        intro w28 L28 k28
                        have OXc := Lv.kp OXc k28 (by omega)
                        have V56c := Lv.kp V56c k28 (by omega)
                        have Vb28 := Lv.kp AbX.b k28 (Ne.symm hab)
                        refine hK.out _ _ ⟨OXc.trans OX.symm, V56c.trans V56.symm⟩ (fun hHeld => ?_)
                        clear hK K
                        try simp only [Act.put, List.getElem_toArray, List.getElem_cons_succ, List.getElem_cons_zero]
                        refine wpAnyH_ready (rs := [12]) (by kernel_rfl) (by simp) ?_
                        refine AllReadyH.cons (o := _) rfl (fun K hK => ?_) (AllReadyH.nil)
                        refine step_stV (E := eTb) rfl 35 _ _ rfl size35 gb _ Vb28 rfl z2 rfl rfl ?_
                        intro w29 L29 k29
                        have OXc := Lv.kp OXc k29 (by omega)
                        have V56c := Lv.kp V56c k29 (by omega)
                        refine hK.out _ _ ⟨OXc.trans OX.symm, V56c.trans V56.symm⟩ (fun hHeld => ?_)
                        clear hK K
                        try simp only [Act.put, List.getElem_toArray, List.getElem_cons_succ, List.getElem_cons_zero]
                        refine wpAnyH_done (by kernel_rfl) ?_ _
                        have hAb9 := AbX.set tp tq k28 L28 k29 L29 hga0 hgb0 hab
                        go_wp2
                        go_meet
                        case rel => exact ⟨z1, z2, ptR T xa c h L Q b F, rfl, HWF.out, hAb9, OXc⟩
                      · obtain ⟨c0, c1, c2⟩ := AbX.b.at
                        go_simp
                        clear c0 c1 c2
                        refine hK.out _ _ ⟨OXc.trans OX.symm, V56c.trans V56.symm⟩ (fun hHeld => ?_)
                        clear hK K
                        try simp only [Act.put, List.getElem_toArray, List.getElem_cons_succ, List.getElem_cons_zero, List.setIfInBounds_toArray, List.set_cons_zero, List.set_cons_succ]
                        refine wpAnyH_ready (rs := [5]) (by kernel_rfl) (by simp) ?_
                        refine AllReadyH.cons (o := _) rfl (fun K hK => ?_) (AllReadyH.nil)
                        go_simp
                        go_at_call 14; refine (put_any y1 T _ AbX.t1 xa (⟨0, 0, 0, c, h, Lp, Ln, Lc, Wp, Wn, Wc, b, Fp, Fn, Fc, 0⟩ : Tc) ⟨0, 0, 0, c, h, L, Q, b, F, 0⟩ okX).mono ?_
                        rintro e9 w22 ⟨z1, rfl, tp, b22⟩
                        have AbX := AbX.below b22
                        have OXc := OXc.below b22
                        have V56c := V56c.below b22
                        have okX := okX.below b22
                        refine hK.out _ _ ⟨OXc.trans OX.symm, V56c.trans V56.symm⟩ (fun hHeld => ?_)
                        clear hK K
                        try simp only [Act.put, List.getElem_toArray, List.getElem_cons_succ, List.getElem_cons_zero, List.setIfInBounds_toArray, List.set_cons_zero, List.set_cons_succ]
                        refine wpAnyH_ready (rs := [10]) (by kernel_rfl) (by simp) ?_
                        refine AllReadyH.cons (o := _) rfl (fun K hK => ?_) (AllReadyH.nil)
                        go_simp
                        go_at_call 16; refine (rput_any y2 T _ AbX.t2 xa (⟨0, 0, 0, c, h, Lp, Ln, Lc, Wp, Wn, Wc, b, Fp, Fn, Fc, 0⟩ : Tc) ⟨0, 0, 0, c, h, L, Q, b, F, 0⟩ okX).mono ?_
                        rintro e9 w23 ⟨z2, rfl, tq, b23⟩
                        have AbX := AbX.below b23
                        have OXc := OXc.below b23
                        have V56c := V56c.below b23
                        have okX := okX.below b23
                        have tp := tp.below b23
                        refine hK.out _ _ ⟨OXc.trans OX.symm, V56c.trans V56.symm⟩ (fun hHeld => ?_)
                        clear hK K
                        try simp only [Act.put, List.getElem_toArray, List.getElem_cons_succ, List.getElem_cons_zero, List.setIfInBounds_toArray, List.set_cons_zero, List.set_cons_succ]
                        refine wpAnyH_ready (rs := [11]) (by kernel_rfl) (by simp) ?_
                        refine AllReadyH.cons (o := _) rfl (fun K hK => ?_) (AllReadyH.nil)
                        refine step_stV (E := eTb) rfl 30 _ _ rfl size30 ga _ AbX.a rfl z1 rfl rfl ?_
                        intro w28 L28 k28
                        have OXc := Lv.kp OXc k28 (by omega)
                        have V56c := Lv.kp V56c k28 (by omega)
                        have Vb28 := Lv.kp AbX.b k28 (Ne.symm hab)
                        refine hK.out _ _ ⟨OXc.trans OX.symm, V56c.trans V56.symm⟩ (fun hHeld => ?_)
                        clear hK K
                        try simp only [Act.put, List.getElem_toArray, List.getElem_cons_succ, List.getElem_cons_zero]
                        refine wpAnyH_ready (rs := [12]) (by kernel_rfl) (by simp) ?_
                        refine AllReadyH.cons (o := _) rfl (fun K hK => ?_) (AllReadyH.nil)
                        refine step_stV (E := eTb) rfl 35 _ _ rfl size35 gb _ Vb28 rfl z2 rfl rfl ?_
                        intro w29 L29 k29
                        have OXc := Lv.kp OXc k29 (by omega)
                        have V56c := Lv.kp V56c k29 (by omega)
                        refine hK.out _ _ ⟨OXc.trans OX.symm, V56c.trans V56.symm⟩ (fun hHeld => ?_)
                        clear hK K
                        try simp only [Act.put, List.getElem_toArray, List.getElem_cons_succ, List.getElem_cons_zero]
                        refine wpAnyH_done (by kernel_rfl) ?_ _
                        have hAb9 := AbX.set tp tq k28 L28 k29 L29 hga0 hgb0 hab
                        go_wp2
                        go_meet
                        case rel => exact ⟨z1, z2, ptR T xa c h L Q b F, rfl, HWF.out, hAb9, OXc⟩
                    · obtain ⟨c0, c1, c2⟩ := AbX.b.at
                      go_simp
                      clear c0 c1 c2
                      refine hK.out _ _ ⟨OXc.trans OX.symm, V56c.trans V56.symm⟩ (fun hHeld => ?_)
                      clear hK K
                      try simp only [Act.put, List.getElem_toArray, List.getElem_cons_succ, List.getElem_cons_zero, List.setIfInBounds_toArray, List.set_cons_zero, List.set_cons_succ]
                      refine wpAnyH_ready (rs := [4]) (by kernel_rfl) (by simp) ?_
                      refine AllReadyH.cons (o := _) rfl (fun K hK => ?_) (AllReadyH.nil)
                      go_simp
                      go_at_call 15; refine (back_any (⟨0, 0, 0, c, h, Lp, Ln, Lc, Wp, Wn, Wc, b, Fp, Fn, Fc, 0⟩ : Tc) _).mono ?_
                      rintro e9 w21 ⟨rfl, b21⟩
                      have AbX := AbX.below b21
                      have OXc := OXc.below b21
                      have V56c := V56c.below b21
                      have okX := okX.below b21
                      refine hK.out _ _ ⟨OXc.trans OX.symm, V56c.trans V56.symm⟩ (fun hHeld => ?_)
                      clear hK K
                      refine wpAnyH_ready (rs := [5]) (by kernel_rfl) (by simp) ?_
                      refine AllReadyH.cons (o := _) rfl (fun K hK => ?_) (AllReadyH.nil)
                      go_simp
                      go_at_call 14; refine (put_any y1 T _ AbX.t1 xa (⟨0, 0, 0, c, h, Lp, Ln, Lc, Wp, Wn, Wc, b, Fp, Fn, Fc, 0⟩ : Tc) ⟨0, 0, 0, c, h, L, Q, b, F, 0⟩ okX).mono ?_
                      rintro e9 w22 ⟨z1, rfl, tp, b22⟩
                      have AbX := AbX.below b22
                      have OXc := OXc.below b22
                      have V56c := V56c.below b22
                      have okX := okX.below b22
                      refine hK.out _ _ ⟨OXc.trans OX.symm, V56c.trans V56.symm⟩ (fun hHeld => ?_)
                      clear hK K
                      try simp only [Act.put, List.getElem_toArray, List.getElem_cons_succ, List.getElem_cons_zero, List.setIfInBounds_toArray, List.set_cons_zero, List.set_cons_succ]
                      refine wpAnyH_ready (rs := [10]) (by kernel_rfl) (by simp) ?_
                      refine AllReadyH.cons (o := _) rfl (fun K hK => ?_) (AllReadyH.nil)
                      go_simp
                      go_at_call 16; refine (rput_any y2 T _ AbX.t2 xa (⟨0, 0, 0, c, h, Lp, Ln, Lc, Wp, Wn, Wc, b, Fp, Fn, Fc, 0⟩ : Tc) ⟨0, 0, 0, c, h, L, Q, b, F, 0⟩ okX).mono ?_
                      rintro e9 w23 ⟨z2, rfl, tq, b23⟩
                      have AbX := AbX.below b23
                      have OXc := OXc.below b23
                      have V56c := V56c.below b23
                      have okX := okX.below b23
                      have tp := tp.below b23
                      refine hK.out _ _ ⟨OXc.trans OX.symm, V56c.trans V56.symm⟩ (fun hHeld => ?_)
                      clear hK K
                      try simp only [Act.put, List.getElem_toArray, List.getElem_cons_succ, List.getElem_cons_zero, List.setIfInBounds_toArray, List.set_cons_zero, List.set_cons_succ]
                      refine wpAnyH_ready (rs := [11]) (by kernel_rfl) (by simp) ?_
                      refine AllReadyH.cons (o := _) rfl (fun K hK => ?_) (AllReadyH.nil)
                      refine step_stV (E := eTb) rfl 30 _ _ rfl size30 ga _ AbX.a rfl z1 rfl rfl ?_
                      intro w28 L28 k28
                      have OXc := Lv.kp OXc k28 (by omega)
                      have V56c := Lv.kp V56c k28 (by omega)
                      have Vb28 := Lv.kp AbX.b k28 (Ne.symm hab)
                      refine hK.out _ _ ⟨OXc.trans OX.symm, V56c.trans V56.symm⟩ (fun hHeld => ?_)
                      clear hK K
                      try simp only [Act.put, List.getElem_toArray, List.getElem_cons_succ, List.getElem_cons_zero]
                      refine wpAnyH_ready (rs := [12]) (by kernel_rfl) (by simp) ?_
                      refine AllReadyH.cons (o := _) rfl (fun K hK => ?_) (AllReadyH.nil)
                      refine step_stV (E := eTb) rfl 35 _ _ rfl size35 gb _ Vb28 rfl z2 rfl rfl ?_
                      intro w29 L29 k29
                      have OXc := Lv.kp OXc k29 (by omega)
                      have V56c := Lv.kp V56c k29 (by omega)
                      refine hK.out _ _ ⟨OXc.trans OX.symm, V56c.trans V56.symm⟩ (fun hHeld => ?_)
                      clear hK K
                      try simp only [Act.put, List.getElem_toArray, List.getElem_cons_succ, List.getElem_cons_zero]
                      refine wpAnyH_done (by kernel_rfl) ?_ _
                      have hAb9 := AbX.set tp tq k28 L28 k29 L29 hga0 hgb0 hab
                      go_wp2
                      go_meet
                      case rel => exact ⟨z1, z2, ptR T xa c h L Q b F, rfl, HWF.out, hAb9, OXc⟩
                  · go_simp
                    go_at_call 15; refine (back_any (⟨0, 0, 0, c, h, Lp, Ln, Lc, Wp, Wn, Wc, b, Fp, Fn, Fc, 0⟩ : Tc) _).mono ?_
                    rintro e9 w21 ⟨rfl, b21⟩
                    have AbX := AbX.below b21
                    have OXc := OXc.below b21
                    have V56c := V56c.below b21
                    have okX := okX.below b21
                    refine hK.out _ _ ⟨OXc.trans OX.symm, V56c.trans V56.symm⟩ (fun hHeld => ?_)
                    clear hK K
                    refine wpAnyH_ready (rs := [0, 6]) (by kernel_rfl) (by simp) ?_
                    refine AllReadyH.cons (o := _) rfl (fun K hK => ?_) (AllReadyH.cons (o := _) rfl (fun K hK => ?_) (AllReadyH.nil))
                    · obtain ⟨c0, c1, c2⟩ := AbX.a.at
                      go_simp
                      clear c0 c1 c2
                      refine hK.out _ _ ⟨OXc.trans OX.symm, V56c.trans V56.symm⟩ (fun hHeld => ?_)
                      clear hK K
                      try simp only [Act.put, List.getElem_toArray, List.getElem_cons_zero, List.setIfInBounds_toArray, List.set_cons_zero, List.set_cons_succ]
                      refine wpAnyH_ready (rs := [5, 6]) (by kernel_rfl) (by simp) ?_
                      refine AllReadyH.cons (o := _) rfl (fun K hK => ?_) (AllReadyH.cons (o := _) rfl (fun K hK => ?_) (AllReadyH.nil))
                      · go_simp
                        go_at_call 14; refine (put_any y1 T _ AbX.t1 xa (⟨0, 0, 0, c, h, Lp, Ln, Lc, Wp, Wn, Wc, b, Fp, Fn, Fc, 0⟩ : Tc) ⟨0, 0, 0, c, h, L, Q, b, F, 0⟩ okX).mono ?_
                        rintro e9 w22 ⟨z1, rfl, tp, b22⟩
                        have AbX := AbX.below b22
                        have OXc := OXc.below b22
                        have V56c := V56c.below b22
                        have okX := okX.below b22
                        refine hK.out _ _ ⟨OXc.trans OX.symm, V56c.trans V56.symm⟩ (fun hHeld => ?_)
                        clear hK K
                        try simp only [Act.put, List.getElem_toArray, List.getElem_cons_succ, List.getElem_cons_zero, List.setIfInBounds_toArray, List.set_cons_zero, List.set_cons_succ]
                        refine wpAnyH_ready (rs := [6]) (by kernel_rfl) (by simp) ?_
                        refine AllReadyH.cons (o := _) rfl (fun K hK => ?_) (AllReadyH.nil)
                        obtain ⟨c0, c1, c2⟩ := AbX.b.at
                        go_simp
                        clear c0 c1 c2
                        refine hK.out _ _ ⟨OXc.trans OX.symm, V56c.trans V56.symm⟩ (fun hHeld => ?_)
                        clear hK K
                        try simp only [Act.put, List.getElem_toArray, List.getElem_cons_succ, List.getElem_cons_zero, List.setIfInBounds_toArray, List.set_cons_zero, List.set_cons_succ]
                        refine wpAnyH_ready (rs := [10]) (by kernel_rfl) (by simp) ?_
                        refine AllReadyH.cons (o := _) rfl (fun K hK => ?_) (AllReadyH.nil)
                        go_simp
                        go_at_call 16; refine (rput_any y2 T _ AbX.t2 xa (⟨0, 0, 0, c, h, Lp, Ln, Lc, Wp, Wn, Wc, b, Fp, Fn, Fc, 0⟩ : Tc) ⟨0, 0, 0, c, h, L, Q, b, F, 0⟩ okX).mono ?_
                        rintro e9 w23 ⟨z2, rfl, tq, b23⟩
                        have AbX := AbX.below b23
                        have OXc := OXc.below b23
                        have V56c := V56c.below b23
                        have okX := okX.below b23
                        have tp := tp.below b23
                        refine hK.out _ _ ⟨OXc.trans OX.symm, V56c.trans V56.symm⟩ (fun hHeld => ?_)
                        clear hK K
                        try simp only [Act.put, List.getElem_toArray, List.getElem_cons_succ, List.getElem_cons_zero, List.setIfInBounds_toArray, List.set_cons_zero, List.set_cons_succ]
                        refine wpAnyH_ready (rs := [11]) (by kernel_rfl) (by simp) ?_
                        refine AllReadyH.cons (o := _) rfl (fun K hK => ?_) (AllReadyH.nil)
                        refine step_stV (E := eTb) rfl 30 _ _ rfl size30 ga _ AbX.a rfl z1 rfl rfl ?_
                        intro w28 L28 k28
                        have OXc := Lv.kp OXc k28 (by omega)
                        have V56c := Lv.kp V56c k28 (by omega)
                        have Vb28 := Lv.kp AbX.b k28 (Ne.symm hab)
                        refine hK.out _ _ ⟨OXc.trans OX.symm, V56c.trans V56.symm⟩ (fun hHeld => ?_)
                        clear hK K
                        try simp only [Act.put, List.getElem_toArray, List.getElem_cons_succ, List.getElem_cons_zero]
                        refine wpAnyH_ready (rs := [12]) (by kernel_rfl) (by simp) ?_
                        refine AllReadyH.cons (o := _) rfl (fun K hK => ?_) (AllReadyH.nil)
                        refine step_stV (E := eTb) rfl 35 _ _ rfl size35 gb _ Vb28 rfl z2 rfl rfl ?_
                        intro w29 L29 k29
                        have OXc := Lv.kp OXc k29 (by omega)
                        have V56c := Lv.kp V56c k29 (by omega)
                        refine hK.out _ _ ⟨OXc.trans OX.symm, V56c.trans V56.symm⟩ (fun hHeld => ?_)
                        clear hK K
                        try simp only [Act.put, List.getElem_toArray, List.getElem_cons_succ, List.getElem_cons_zero]
                        refine wpAnyH_done (by kernel_rfl) ?_ _
                        have hAb9 := AbX.set tp tq k28 L28 k29 L29 hga0 hgb0 hab
                        go_wp2
                        go_meet
                        case rel => exact ⟨z1, z2, ptR T xa c h L Q b F, rfl, HWF.out, hAb9, OXc⟩
                      · obtain ⟨c0, c1, c2⟩ := AbX.b.at
                        go_simp
                        clear c0 c1 c2
                        refine hK.out _ _ ⟨OXc.trans OX.symm, V56c.trans V56.symm⟩ (fun hHeld => ?_)
                        clear hK K
                        try simp only [Act.put, List.getElem_toArray, List.getElem_cons_succ, List.getElem_cons_zero, List.setIfInBounds_toArray, List.set_cons_zero, List.set_cons_succ]
                        refine wpAnyH_ready (rs := [5]) (by kernel_rfl) (by simp) ?_
                        refine AllReadyH.cons (o := _) rfl (fun K hK => ?_) (AllReadyH.nil)
                        go_simp
                        go_at_call 14; refine (put_any y1 T _ AbX.t1 xa (⟨0, 0, 0, c, h, Lp, Ln, Lc, Wp, Wn, Wc, b, Fp, Fn, Fc, 0⟩ : Tc) ⟨0, 0, 0, c, h, L, Q, b, F, 0⟩ okX).mono ?_
                        rintro e9 w22 ⟨z1, rfl, tp, b22⟩
                        have AbX := AbX.below b22
                        have OXc := OXc.below b22
                        have V56c := V56c.below b22
                        have okX := okX.below b22
                        refine hK.out _ _ ⟨OXc.trans OX.symm, V56c.trans V56.symm⟩ (fun hHeld => ?_)
                        clear hK K
                        try simp only [Act.put, List.getElem_toArray, List.getElem_cons_succ, List.getElem_cons_zero, List.setIfInBounds_toArray, List.set_cons_zero, List.set_cons_succ]
                        refine wpAnyH_ready (rs := [10]) (by kernel_rfl) (by simp) ?_
                        refine AllReadyH.cons (o := _) rfl (fun K hK => ?_) (AllReadyH.nil)
                        go_simp
                        go_at_call 16; refine (rput_any y2 T _ AbX.t2 xa (⟨0, 0, 0, c, h, Lp, Ln, Lc, Wp, Wn, Wc, b, Fp, Fn, Fc, 0⟩ : Tc) ⟨0, 0, 0, c, h, L, Q, b, F, 0⟩ okX).mono ?_
                        rintro e9 w23 ⟨z2, rfl, tq, b23⟩
                        have AbX := AbX.below b23
                        have OXc := OXc.below b23
                        have V56c := V56c.below b23
                        have okX := okX.below b23
                        have tp := tp.below b23
                        refine hK.out _ _ ⟨OXc.trans OX.symm, V56c.trans V56.symm⟩ (fun hHeld => ?_)
                        clear hK K
                        try simp only [Act.put, List.getElem_toArray, List.getElem_cons_succ, List.getElem_cons_zero, List.setIfInBounds_toArray, List.set_cons_zero, List.set_cons_succ]
                        refine wpAnyH_ready (rs := [11]) (by kernel_rfl) (by simp) ?_
                        refine AllReadyH.cons (o := _) rfl (fun K hK => ?_) (AllReadyH.nil)
                        refine step_stV (E := eTb) rfl 30 _ _ rfl size30 ga _ AbX.a rfl z1 rfl rfl ?_
                        intro w28 L28 k28
                        have OXc := Lv.kp OXc k28 (by omega)
                        have V56c := Lv.kp V56c k28 (by omega)
                        have Vb28 := Lv.kp AbX.b k28 (Ne.symm hab)
                        refine hK.out _ _ ⟨OXc.trans OX.symm, V56c.trans V56.symm⟩ (fun hHeld => ?_)
                        clear hK K
                        try simp only [Act.put, List.getElem_toArray, List.getElem_cons_succ, List.getElem_cons_zero]
                        refine wpAnyH_ready (rs := [12]) (by kernel_rfl) (by simp) ?_
                        refine AllReadyH.cons (o := _) rfl (fun K hK => ?_) (AllReadyH.nil)
                        refine step_stV (E := eTb) rfl 35 _ _ rfl size35 gb _ Vb28 rfl z2 rfl rfl ?_
                        intro w29 L29 k29
                        have OXc := Lv.kp OXc k29 (by omega)
                        have V56c := Lv.kp V56c k29 (by omega)
                        refine hK.out _ _ ⟨OXc.trans OX.symm, V56c.trans V56.symm⟩ (fun hHeld => ?_)
                        clear hK K
                        try simp only [Act.put, List.getElem_toArray, List.getElem_cons_succ, List.getElem_cons_zero]
                        refine wpAnyH_done (by kernel_rfl) ?_ _
                        have hAb9 := AbX.set tp tq k28 L28 k29 L29 hga0 hgb0 hab
                        go_wp2
                        go_meet
                        case rel => exact ⟨z1, z2, ptR T xa c h L Q b F, rfl, HWF.out, hAb9, OXc⟩
                    · obtain ⟨c0, c1, c2⟩ := AbX.b.at
                      go_simp
                      clear c0 c1 c2
                      refine hK.out _ _ ⟨OXc.trans OX.symm, V56c.trans V56.symm⟩ (fun hHeld => ?_)
                      clear hK K
                      try simp only [Act.put, List.getElem_toArray, List.getElem_cons_succ, List.getElem_cons_zero, List.setIfInBounds_toArray, List.set_cons_zero, List.set_cons_succ]
                      refine wpAnyH_ready (rs := [0]) (by kernel_rfl) (by simp) ?_
                      refine AllReadyH.cons (o := _) rfl (fun K hK => ?_) (AllReadyH.nil)
                      obtain ⟨c0, c1, c2⟩ := AbX.a.at
                      go_simp
                      clear c0 c1 c2
                      refine hK.out _ _ ⟨OXc.trans OX.symm, V56c.trans V56.symm⟩ (fun hHeld => ?_)
                      clear hK K
                      try simp only [Act.put, List.getElem_toArray, List.getElem_cons_zero, List.setIfInBounds_toArray, List.set_cons_zero, List.set_cons_succ]
                      refine wpAnyH_ready (rs := [5]) (by kernel_rfl) (by simp) ?_
                      refine AllReadyH.cons (o := _) rfl (fun K hK => ?_) (AllReadyH.nil)
                      go_simp
                      go_at_call 14; refine (put_any y1 T _ AbX.t1 xa (⟨0, 0, 0, c, h, Lp, Ln, Lc, Wp, Wn, Wc, b, Fp, Fn, Fc, 0⟩ : Tc) ⟨0, 0, 0, c, h, L, Q, b, F, 0⟩ okX).mono ?_
                      rintro e9 w22 ⟨z1, rfl, tp, b22⟩
                      have AbX := AbX.below b22
                      have OXc := OXc.below b22
                      have V56c := V56c.below b22
                      have okX := okX.below b22
                      refine hK.out _ _ ⟨OXc.trans OX.symm, V56c.trans V56.symm⟩ (fun hHeld => ?_)
                      clear hK K
                      try simp only [Act.put, List.getElem_toArray, List.getElem_cons_succ, List.getElem_cons_zero, List.setIfInBounds_toArray, List.set_cons_zero, List.set_cons_succ]
                      refine wpAnyH_ready (rs := [10]) (by kernel_rfl) (by simp) ?_
                      refine AllReadyH.cons (o := _) rfl (fun K hK => ?_) (AllReadyH.nil)
                      go_simp
                      go_at_call 16; refine (rput_any y2 T _ AbX.t2 xa (⟨0, 0, 0, c, h, Lp, Ln, Lc, Wp, Wn, Wc, b, Fp, Fn, Fc, 0⟩ : Tc) ⟨0, 0, 0, c, h, L, Q, b, F, 0⟩ okX).mono ?_
                      rintro e9 w23 ⟨z2, rfl, tq, b23⟩
                      have AbX := AbX.below b23
                      have OXc := OXc.below b23
                      have V56c := V56c.below b23
                      have okX := okX.below b23
                      have tp := tp.below b23
                      refine hK.out _ _ ⟨OXc.trans OX.symm, V56c.trans V56.symm⟩ (fun hHeld => ?_)
                      clear hK K
                      try simp only [Act.put, List.getElem_toArray, List.getElem_cons_succ, List.getElem_cons_zero, List.setIfInBounds_toArray, List.set_cons_zero, List.set_cons_succ]
                      refine wpAnyH_ready (rs := [11]) (by kernel_rfl) (by simp) ?_
                      refine AllReadyH.cons (o := _) rfl (fun K hK => ?_) (AllReadyH.nil)
                      refine step_stV (E := eTb) rfl 30 _ _ rfl size30 ga _ AbX.a rfl z1 rfl rfl ?_
                      intro w28 L28 k28
                      have OXc := Lv.kp OXc k28 (by omega)
                      have V56c := Lv.kp V56c k28 (by omega)
                      have Vb28 := Lv.kp AbX.b k28 (Ne.symm hab)
                      refine hK.out _ _ ⟨OXc.trans OX.symm, V56c.trans V56.symm⟩ (fun hHeld => ?_)
                      clear hK K
                      try simp only [Act.put, List.getElem_toArray, List.getElem_cons_succ, List.getElem_cons_zero]
                      refine wpAnyH_ready (rs := [12]) (by kernel_rfl) (by simp) ?_
                      refine AllReadyH.cons (o := _) rfl (fun K hK => ?_) (AllReadyH.nil)
                      refine step_stV (E := eTb) rfl 35 _ _ rfl size35 gb _ Vb28 rfl z2 rfl rfl ?_
                      intro w29 L29 k29
                      have OXc := Lv.kp OXc k29 (by omega)
                      have V56c := Lv.kp V56c k29 (by omega)
                      refine hK.out _ _ ⟨OXc.trans OX.symm, V56c.trans V56.symm⟩ (fun hHeld => ?_)
                      clear hK K
                      try simp only [Act.put, List.getElem_toArray, List.getElem_cons_succ, List.getElem_cons_zero]
                      refine wpAnyH_done (by kernel_rfl) ?_ _
                      have hAb9 := AbX.set tp tq k28 L28 k29 L29 hga0 hgb0 hab
                      go_wp2
                      go_meet
                      case rel => exact ⟨z1, z2, ptR T xa c h L Q b F, rfl, HWF.out, hAb9, OXc⟩
                  · obtain ⟨c0, c1, c2⟩ := AbX.b.at
                    go_simp
                    clear c0 c1 c2
                    refine hK.out _ _ ⟨OXc.trans OX.symm, V56c.trans V56.symm⟩ (fun hHeld => ?_)
                    clear hK K
                    try simp only [Act.put, List.getElem_toArray, List.getElem_cons_succ, List.getElem_cons_zero, List.setIfInBounds_toArray, List.set_cons_zero, List.set_cons_succ]
                    refine wpAnyH_ready (rs := [0, 4]) (by kernel_rfl) (by simp) ?_
                    refine AllReadyH.cons (o := _) rfl (fun K hK => ?_) (AllReadyH.cons (o := _) rfl (fun K hK => ?_) (AllReadyH.nil))
                    · obtain ⟨c0, c1, c2⟩ := AbX.a.at
                      go_simp
                      clear c0 c1 c2
                      refine hK.out _ _ ⟨OXc.trans OX.symm, V56c.trans V56.symm⟩ (fun hHeld => ?_)
                      clear hK K
                      try simp only [Act.put, List.getElem_toArray, List.getElem_cons_zero, List.setIfInBounds_toArray, List.set_cons_zero, List.set_cons_succ]
                      refine wpAnyH_ready (rs := [4]) (by kernel_rfl) (by simp) ?_
                      refine AllReadyH.cons (o := _) rfl (fun K hK => ?_) (AllReadyH.nil)
                      go_simp
                      go_at_call 15; refine (back_any (⟨0, 0, 0, c, h, Lp, Ln, Lc, Wp, Wn, Wc, b, Fp, Fn, Fc, 0⟩ : Tc) _).mono ?_
                      rintro e9 w21 ⟨rfl, b21⟩
                      have AbX := AbX.below b21
                      have OXc := OXc.below b21
                      have V56c := V56c.below b21
                      have okX := okX.below b21
                      refine hK.out _ _ ⟨OXc.trans OX.symm, V56c.trans V56.symm⟩ (fun hHeld => ?_)
                      clear hK K
                      refine wpAnyH_ready (rs := [5]) (by kernel_rfl) (by simp) ?_
                      refine AllReadyH.cons (o := _) rfl (fun K hK => ?_) (AllReadyH.nil)
                      go_simp
                      go_at_call 14; refine (put_any y1 T _ AbX.t1 xa (⟨0, 0, 0, c, h, Lp, Ln, Lc, Wp, Wn, Wc, b, Fp, Fn, Fc, 0⟩ : Tc) ⟨0, 0, 0, c, h, L, Q, b, F, 0⟩ okX).mono ?_
                      rintro e9 w22 ⟨z1, rfl, tp, b22⟩
                      have AbX := AbX.below b22
                      have OXc := OXc.below b22
                      have V56c := V56c.below b22
                      have okX := okX.below b22
                      refine hK.out _ _ ⟨OXc.trans OX.symm, V56c.trans V56.symm⟩ (fun hHeld => ?_)
                      clear hK K
                      try simp only [Act.put, List.getElem_toArray, List.getElem_cons_succ, List.getElem_cons_zero, List.setIfInBounds_toArray, List.set_cons_zero, List.set_cons_succ]
                      refine wpAnyH_ready (rs := [10]) (by kernel_rfl) (by simp) ?_
                      refine AllReadyH.cons (o := _) rfl (fun K hK => ?_) (AllReadyH.nil)
                      go_simp
                      go_at_call 16; refine (rput_any y2 T _ AbX.t2 xa (⟨0, 0, 0, c, h, Lp, Ln, Lc, Wp, Wn, Wc, b, Fp, Fn, Fc, 0⟩ : Tc) ⟨0, 0, 0, c, h, L, Q, b, F, 0⟩ okX).mono ?_
                      rintro e9 w23 ⟨z2, rfl, tq, b23⟩
                      have AbX := AbX.below b23
                      have OXc := OXc.below b23
                      have V56c := V56c.below b23
                      have okX := okX.below b23
                      have tp := tp.below b23
                      refine hK.out _ _ ⟨OXc.trans OX.symm, V56c.trans V56.symm⟩ (fun hHeld => ?_)
                      clear hK K
                      try simp only [Act.put, List.getElem_toArray, List.getElem_cons_succ, List.getElem_cons_zero, List.setIfInBounds_toArray, List.set_cons_zero, List.set_cons_succ]
                      refine wpAnyH_ready (rs := [11]) (by kernel_rfl) (by simp) ?_
                      refine AllReadyH.cons (o := _) rfl (fun K hK => ?_) (AllReadyH.nil)
                      refine step_stV (E := eTb) rfl 30 _ _ rfl size30 ga _ AbX.a rfl z1 rfl rfl ?_
                      intro w28 L28 k28
                      have OXc := Lv.kp OXc k28 (by omega)
                      have V56c := Lv.kp V56c k28 (by omega)
                      have Vb28 := Lv.kp AbX.b k28 (Ne.symm hab)
                      refine hK.out _ _ ⟨OXc.trans OX.symm, V56c.trans V56.symm⟩ (fun hHeld => ?_)
                      clear hK K
                      try simp only [Act.put, List.getElem_toArray, List.getElem_cons_succ, List.getElem_cons_zero]
                      refine wpAnyH_ready (rs := [12]) (by kernel_rfl) (by simp) ?_
                      refine AllReadyH.cons (o := _) rfl (fun K hK => ?_) (AllReadyH.nil)
                      refine step_stV (E := eTb) rfl 35 _ _ rfl size35 gb _ Vb28 rfl z2 rfl rfl ?_
                      intro w29 L29 k29
                      have OXc := Lv.kp OXc k29 (by omega)
                      have V56c := Lv.kp V56c k29 (by omega)
                      refine hK.out _ _ ⟨OXc.trans OX.symm, V56c.trans V56.symm⟩ (fun hHeld => ?_)
                      clear hK K
                      try simp only [Act.put, List.getElem_toArray, List.getElem_cons_succ, List.getElem_cons_zero]
                      refine wpAnyH_done (by kernel_rfl) ?_ _
                      have hAb9 := AbX.set tp tq k28 L28 k29 L29 hga0 hgb0 hab
                      go_wp2
                      go_meet
                      case rel => exact ⟨z1, z2, ptR T xa c h L Q b F, rfl, HWF.out, hAb9, OXc⟩
                    · go_simp
                      go_at_call 15; refine (back_any (⟨0, 0, 0, c, h, Lp, Ln, Lc, Wp, Wn, Wc, b, Fp, Fn, Fc, 0⟩ : Tc) _).mono ?_
                      rintro e9 w21 ⟨rfl, b21⟩
                      have AbX := AbX.below b21
                      have OXc := OXc.below b21
                      have V56c := V56c.below b21
                      have okX := okX.below b21
                      refine hK.out _ _ ⟨OXc.trans OX.symm, V56c.trans V56.symm⟩ (fun hHeld => ?_)
                      clear hK K
                      refine wpAnyH_ready (rs := [0]) (by kernel_rfl) (by simp) ?_
                      refine AllReadyH.cons (o := _) rfl (fun K hK => ?_) (AllReadyH.nil)
                      obtain ⟨c0, c1, c2⟩ := AbX.a.at
                      go_simp
                      clear c0 c1 c2
                      refine hK.out _ _ ⟨OXc.trans OX.symm, V56c.trans V56.symm⟩ (fun hHeld => ?_)
                      clear hK K
                      try simp only [Act.put, List.getElem_toArray, List.getElem_cons_zero, List.setIfInBounds_toArray, List.set_cons_zero, List.set_cons_succ]
                      refine wpAnyH_ready (rs := [5]) (by kernel_rfl) (by simp) ?_
                      refine AllReadyH.cons (o := _) rfl (fun K hK => ?_) (AllReadyH.nil)
                      go_simp
                      go_at_call 14; refine (put_any y1 T _ AbX.t1 xa (⟨0, 0, 0, c, h, Lp, Ln, Lc, Wp, Wn, Wc, b, Fp, Fn, Fc, 0⟩ : Tc) ⟨0, 0, 0, c, h, L, Q, b, F, 0⟩ okX).mono ?_
                      rintro e9 w22 ⟨z1, rfl, tp, b22⟩
                      have AbX := AbX.below b22
                      have OXc := OXc.below b22
                      have V56c := V56c.below b22
                      have okX := okX.below b22
                      refine hK.out _ _ ⟨OXc.trans OX.symm, V56c.trans V56.symm⟩ (fun hHeld => ?_)
                      clear hK K
                      try simp only [Act.put, List.getElem_toArray, List.getElem_cons_succ, List.getElem_cons_zero, List.setIfInBounds_toArray, List.set_cons_zero, List.set_cons_succ]
                      refine wpAnyH_ready (rs := [10]) (by kernel_rfl) (by simp) ?_
                      refine AllReadyH.cons (o := _) rfl (fun K hK => ?_) (AllReadyH.nil)
                      go_simp
                      go_at_call 16; refine (rput_any y2 T _ AbX.t2 xa (⟨0, 0, 0, c, h, Lp, Ln, Lc, Wp, Wn, Wc, b, Fp, Fn, Fc, 0⟩ : Tc) ⟨0, 0, 0, c, h, L, Q, b, F, 0⟩ okX).mono ?_
                      rintro e9 w23 ⟨z2, rfl, tq, b23⟩
                      have AbX := AbX.below b23
                      have OXc := OXc.below b23
                      have V56c := V56c.below b23
                      have okX := okX.below b23
                      have tp := tp.below b23
                      refine hK.out _ _ ⟨OXc.trans OX.symm, V56c.trans V56.symm⟩ (fun hHeld => ?_)
                      clear hK K
                      try simp only [Act.put, List.getElem_toArray, List.getElem_cons_succ, List.getElem_cons_zero, List.setIfInBounds_toArray, List.set_cons_zero, List.set_cons_succ]
                      refine wpAnyH_ready (rs := [11]) (by kernel_rfl) (by simp) ?_
                      refine AllReadyH.cons (o := _) rfl (fun K hK => ?_) (AllReadyH.nil)
                      refine step_stV (E := eTb) rfl 30 _ _ rfl size30 ga _ AbX.a rfl z1 rfl rfl ?_
                      intro w28 L28 k28
                      have OXc := Lv.kp OXc k28 (by omega)
                      have V56c := Lv.kp V56c k28 (by omega)
                      have Vb28 := Lv.kp AbX.b k28 (Ne.symm hab)
                      refine hK.out _ _ ⟨OXc.trans OX.symm, V56c.trans V56.symm⟩ (fun hHeld => ?_)
                      clear hK K
                      try simp only [Act.put, List.getElem_toArray, List.getElem_cons_succ, List.getElem_cons_zero]
                      refine wpAnyH_ready (rs := [12]) (by kernel_rfl) (by simp) ?_
                      refine AllReadyH.cons (o := _) rfl (fun K hK => ?_) (AllReadyH.nil)
                      refine step_stV (E := eTb) rfl 35 _ _ rfl size35 gb _ Vb28 rfl z2 rfl rfl ?_
                      intro w29 L29 k29
                      have OXc := Lv.kp OXc k29 (by omega)
                      have V56c := Lv.kp V56c k29 (by omega)
                      refine hK.out _ _ ⟨OXc.trans OX.symm, V56c.trans V56.symm⟩ (fun hHeld => ?_)
                      clear hK K
                      try simp only [Act.put, List.getElem_toArray, List.getElem_cons_succ, List.getElem_cons_zero]
                      refine wpAnyH_done (by kernel_rfl) ?_ _
                      have hAb9 := AbX.set tp tq k28 L28 k29 L29 hga0 hgb0 hab
                      go_wp2
                      go_meet
                      case rel => exact ⟨z1, z2, ptR T xa c h L Q b F, rfl, HWF.out, hAb9, OXc⟩
                · as_aux_lemma =>
                  obtain ⟨B, hB⟩ : ∃ B, isThere T.T xa = B := ⟨_, rfl⟩
                  have HB : Hid (isThere T.T xa = B) := hB
                  have HWF : Hid (Wf (n + 1) (tnR T xa)) := (tnR_wf wf xa).mono (Nat.le_succ n)
                  have q1 : (B != B) = false := by cases B <;> rfl
                  clear hB
                  go_upto_region 32 with (first
                    | (go_at_call 18; refine (rturnt_any y2 T _ Ab11.t2 xa B HB.out).mono ?_; rintro e9 w12 ⟨z2, rfl, t2, b12⟩; have s12 : Below w12.heap.size w12 (w12.alloc (.cells #[.slice z2.gp 12 z2.gc, .slice z2.ip 12 z2.ic, .slice z2.tp 12 z2.tc] 35)) := bel_self w12 (.cells #[.slice z2.gp 12 z2.gc, .slice z2.ip 12 z2.ic, .slice z2.tp 12 z2.tc] 35); have B12 := bel_call b12 (Nat.le_refl _) s12; have Ab12 := Ab11.below B12; have O12 := O11.below B12; clear o0 o1 o2 o3 o4 o5 o6 o7 o8 o9 c0 c1 c2 e0 e1 e2; obtain ⟨o0, o1, o2, o3, o4, o5, o6, o7, o8, o9⟩ := O12.at; obtain ⟨c0, c1, c2⟩ := Ab12.a.at; obtain ⟨e0, e1, e2⟩ := Ab12.b.at)
                    | (go_at_call 17; refine (turnt_any y1 T _ hAb6.t1 xa B HB.out).mono ?_; rintro e9 w11 ⟨z1, rfl, t1, b11⟩; have s11 : Below w11.heap.size w11 (w11.alloc (.cells #[.slice z1.gp 12 z1.gc, .slice z1.ip 12 z1.ic, .slice z1.tp 12 z1.tc] 30)) := bel_self w11 (.cells #[.slice z1.gp 12 z1.gc, .slice z1.ip 12 z1.ic, .slice z1.tp 12 z1.tc] 30); have B11 := bel_call b11 (Nat.le_refl _) s11; have Ab11 := hAb6.below B11; have O11 := hO6.below B11; clear o0 o1 o2 o3 o4 o5 o6 o7 o8 o9 c0 c1 c2 e0 e1 e2; obtain ⟨o0, o1, o2, o3, o4, o5, o6, o7, o8, o9⟩ := O11.at; obtain ⟨c0, c1, c2⟩ := Ab11.a.at; obtain ⟨e0, e1, e2⟩ := Ab11.b.at))
                  have VX0 : Vw (w11.alloc (.cells #[.slice z1.gp 12 z1.gc, .slice z1.ip 12 z1.ic, .slice z1.tp 12 z1.tc] 30)) w11.heap.size z1 30 := Vw.new w11 z1 30
                  have VX1 := VX0.below B12
                  have VY1 : Vw (w12.alloc (.cells #[.slice z2.gp 12 z2.gc, .slice z2.ip 12 z2.ic, .slice z2.tp 12 z2.tc] 35)) w12.heap.size z2 35 := Vw.new w12 z2 35
                  have t11 := (t1.below s11).below B12
                  have t12 := t2.below s12
                  have lz1 : wr.heap.size ≤ w11.heap.size := Nat.le_trans s5.size b11.size
                  have lz2 : w11.heap.size < w12.heap.size := by have h1 := VX0.lt; have h2 := b12.size; omega
                  have bz0 := Below.refl (w12.alloc (.cells #[.slice z2.gp 12 z2.gc, .slice z2.ip 12 z2.ic, .slice z2.tp 12 z2.tc] 35)).heap.size (w12.alloc (.cells #[.slice z2.gp 12 z2.gc, .slice z2.ip 12 z2.ic, .slice z2.tp 12 z2.tc] 35))
                  have VX := VX1.below bz0
                  have VY := VY1.below bz0
                  have AbX := Ab12.below bz0
                  have OX := O12.below bz0
                  have tX1 := t11.below bz0
                  have tX2 := t12.below bz0
                  obtain ⟨WX, hWX⟩ : ∃ WX, WX = (w12.alloc (.cells #[.slice z2.gp 12 z2.gc, .slice z2.ip 12 z2.ic, .slice z2.tp 12 z2.tc] 35)) := ⟨_, rfl⟩
                  rw [← hWX] at VX VY AbX OX tX1 tX2 ⊢
                  clear hWX VX0 VX1 VY1 t11 t12 o0 o1 o2 o3 o4 o5 o6 o7 o8 o9 c0 c1 c2 e0 e1 e2
                  obtain ⟨gx, hgx⟩ : ∃ gx, gx = w11.heap.size := ⟨_, rfl⟩
                  obtain ⟨gy, hgy⟩ : ∃ gy, gy = w12.heap.size := ⟨_, rfl⟩
                  rw [← hgx] at VX lz1 lz2
                  rw [← hgy] at VY lz2
                  simp only [← hgx, ← hgy]
                  have hlx : ga < gx ∧ gb < gx ∧ gx < gy ∧ go < gx + 1 := by omega
                  clear hgx hgy
                  refine wp_region_held_drew (S := fun w' => w'.heap[gx]? = WX.heap[gx]? ∧ w'.heap[gy]? = WX.heap[gy]?) (by kernel_rfl) ⟨rfl, rfl⟩ (fun hHeld => ?_)
                  refine wpAnyH_take (i := 0) (oi := _) (v := ?_) rfl (by kernel_rfl) (by kernel_rfl) (by kernel_rfl) (fun _ _ _ h => h) (Or.inl ⟨by rfl, ?_⟩) hHeld ?_
                  rotate_left
                  · intro w' hSw
                    obtain ⟨v0, v1, v2⟩ := Vw.at (show Vw w' gx z1 30 from hSw.1.trans VX)
                    (go_simp <;> with_reducible rfl)
                  try simp only [Act.put, List.getElem_toArray, List.getElem_cons_zero, List.setIfInBounds_toArray, List.set_cons_zero, List.set_cons_succ]
                  refine wpAnyH_take (i := 1) (oi := _) (v := ?_) rfl (by kernel_rfl) (by kernel_rfl) (by kernel_rfl) (fun _ _ _ h => h) (Or.inl ⟨by rfl, ?_⟩) hHeld ?_
                  rotate_left
                  · intro w' hSw
                    obtain ⟨v0, v1, v2⟩ := Vw.at (show Vw w' gy z2 35 from hSw.2.trans VY)
                    (go_simp <;> with_reducible rfl)
                  try simp only [Act.put, List.getElem_toArray, List.getElem_cons_succ, List.getElem_cons_zero, List.setIfInBounds_toArray, List.set_cons_zero, List.set_cons_succ]
                  refine wpAnyH_ready (rs := [2]) (by kernel_rfl) (by simp) ?_
                  refine AllReadyH.cons (o := _) rfl (fun K hK => ?_) (AllReadyH.nil)
                  refine step_stV (E := eTb) rfl 30 _ _ rfl size30 ga _ (Lv.draw AbX.a) rfl z1 rfl rfl ?_
                  intro w8 L8 k8
                  have l8 : WX.heap.size ≤ w8.heap.size := k8.size
                  have hS8 : w8.heap[gx]? = WX.heap[gx]? ∧ w8.heap[gy]? = WX.heap[gy]? := ⟨k8.block _ VX.lt (by intro h; have h := Option.some.inj h; omega), k8.block _ VY.lt (by intro h; have h := Option.some.inj h; omega)⟩
                  refine hK.out _ _ hS8 (fun hHeld => ?_)
                  clear hK K
                  try simp only [Act.put, List.getElem_toArray, List.getElem_cons_succ, List.getElem_cons_zero]
                  refine wpAnyH_ready (rs := [3]) (by kernel_rfl) (by simp) ?_
                  refine AllReadyH.cons (o := _) rfl (fun K hK => ?_) (AllReadyH.nil)
                  have Vb8 : Vw w8 gb y2 35 := Lv.kp (Lv.draw AbX.b) k8 (Ne.symm hab)
                  refine step_stV (E := eTb) rfl 35 _ _ rfl size35 gb _ Vb8 rfl z2 rfl rfl ?_
                  intro w9 L9 k9
                  have hS9 : w9.heap[gx]? = WX.heap[gx]? ∧ w9.heap[gy]? = WX.heap[gy]? := ⟨(k9.block _ (Nat.lt_of_lt_of_le VX.lt l8) (by intro h; have h := Option.some.inj h; omega)).trans hS8.1, (k9.block _ (Nat.lt_of_lt_of_le VY.lt l8) (by intro h; have h := Option.some.inj h; omega)).trans hS8.2⟩
                  refine hK.out _ _ hS9 (fun hHeld => ?_)
                  clear hK K hHeld
                  try simp only [Act.put, List.getElem_toArray, List.getElem_cons_succ, List.getElem_cons_zero]
                  refine wpAnyH_done (by kernel_rfl) ?_ _
                  have drw := (Below.refl WX.heap.size WX).drew
                  have hAb9 := (AbX.below drw).set ((tX1).below drw) ((tX2).below drw) k8 L8 k9 L9 hga0 hgb0 hab
                  have hO9 : Vd w9 go (⟨k, xa, a, g, c, h, Lp, Ln, Lc, Wp, Wn, Wc, b, Fp, Fn, Fc⟩ : De) := Lv.kp (Lv.kp (Lv.draw OX) k8 (by omega)) k9 (by omega)
                  go_wp2
                  go_meet
                  case rel => exact ⟨z1, z2, tnR T xa, rfl, HWF.out, hAb9, hO9⟩
                · as_aux_lemma =>
                  obtain ⟨m, hm⟩ : ∃ m, (audP T.T 12).length = m := ⟨_, rfl⟩
                  have HM : Hid ((audP T.T 12).length = m) := hm
                  have hm12 : m ≤ 12 := by rw [← hm]; exact audP_le T.T 12
                  have HWF : Hid (Wf (n + 1) (adR T)) := (adR_wf wf).mono (Nat.le_succ n)
                  clear hm
                  go_upto_region 38 with (first
                    | (go_at_call 21; refine (lists_yes pb1 cb1 pb2 cb2 (audW T.T 12) _ (((rb1.below s11).below B12).below b13) ((rb2.below s12).below b13) m (by rw [audW_len]; exact HM.out) (by omega)).mono ?_; rintro e9 w14 ⟨rfl, b14⟩)
                    | (go_at_call 13; refine (sameints_yes pa1 ca1 pa2 ca2 (audP T.T 12) _ ((ra1.below s11).below B12) (ra2.below s12) m HM.out (by omega)).mono ?_; rintro e9 w13 ⟨rfl, b13⟩)
                    | (go_at_call 20; refine (raudit_any y2 T _ Ab11.t2 m HM.out).mono ?_; rintro e9 w12 ⟨z2, pa2, ca2, pb2, cb2, rfl, t2, ra2, rb2, b12⟩; have s12 : Below w12.heap.size w12 (w12.alloc (.cells #[.slice z2.gp 12 z2.gc, .slice z2.ip 12 z2.ic, .slice z2.tp 12 z2.tc] 35)) := bel_self w12 (.cells #[.slice z2.gp 12 z2.gc, .slice z2.ip 12 z2.ic, .slice z2.tp 12 z2.tc] 35); have B12 := bel_call b12 (Nat.le_refl _) s12; have Ab12 := Ab11.below B12; have O12 := O11.below B12; clear o0 o1 o2 o3 o4 o5 o6 o7 o8 o9 c0 c1 c2 e0 e1 e2; obtain ⟨o0, o1, o2, o3, o4, o5, o6, o7, o8, o9⟩ := O12.at; obtain ⟨c0, c1, c2⟩ := Ab12.a.at; obtain ⟨e0, e1, e2⟩ := Ab12.b.at)
                    | (go_at_call 19; refine (audit_any y1 T _ hAb6.t1 m HM.out).mono ?_; rintro e9 w11 ⟨z1, pa1, ca1, pb1, cb1, rfl, t1, ra1, rb1, b11⟩; have s11 : Below w11.heap.size w11 (w11.alloc (.cells #[.slice z1.gp 12 z1.gc, .slice z1.ip 12 z1.ic, .slice z1.tp 12 z1.tc] 30)) := bel_self w11 (.cells #[.slice z1.gp 12 z1.gc, .slice z1.ip 12 z1.ic, .slice z1.tp 12 z1.tc] 30); have B11 := bel_call b11 (Nat.le_refl _) s11; have Ab11 := hAb6.below B11; have O11 := hO6.below B11; clear o0 o1 o2 o3 o4 o5 o6 o7 o8 o9 c0 c1 c2 e0 e1 e2; obtain ⟨o0, o1, o2, o3, o4, o5, o6, o7, o8, o9⟩ := O11.at; obtain ⟨c0, c1, c2⟩ := Ab11.a.at; obtain ⟨e0, e1, e2⟩ := Ab11.b.at))
                  have VX0 : Vw (w11.alloc (.cells #[.slice z1.gp 12 z1.gc, .slice z1.ip 12 z1.ic, .slice z1.tp 12 z1.tc] 30)) w11.heap.size z1 30 := Vw.new w11 z1 30
                  have VX1 := VX0.below B12
                  have VY1 : Vw (w12.alloc (.cells #[.slice z2.gp 12 z2.gc, .slice z2.ip 12 z2.ic, .slice z2.tp 12 z2.tc] 35)) w12.heap.size z2 35 := Vw.new w12 z2 35
                  have t11 := (t1.below s11).below B12
                  have t12 := t2.below s12
                  have lz1 : wr.heap.size ≤ w11.heap.size := Nat.le_trans s5.size b11.size
                  have lz2 : w11.heap.size < w12.heap.size := by have h1 := VX0.lt; have h2 := b12.size; omega
                  have bz0 := Below.refl (w12.alloc (.cells #[.slice z2.gp 12 z2.gc, .slice z2.ip 12 z2.ic, .slice z2.tp 12 z2.tc] 35)).heap.size (w12.alloc (.cells #[.slice z2.gp 12 z2.gc, .slice z2.ip 12 z2.ic, .slice z2.tp 12 z2.tc] 35))
                  have bz1 := bel_call bz0 (Nat.le_refl _) b13
                  have bz2 := bel_call bz1 (Nat.le_refl _) b14
                  have VX := VX1.below bz2
                  have VY := VY1.below bz2
                  have AbX := Ab12.below bz2
                  have OX := O12.below bz2
                  have tX1 := t11.below bz2
                  have tX2 := t12.below bz2
                  obtain ⟨WX, hWX⟩ : ∃ WX, WX = w14 := ⟨_, rfl⟩
                  rw [← hWX] at VX VY AbX OX tX1 tX2 ⊢
                  clear hWX VX0 VX1 VY1 t11 t12 o0 o1 o2 o3 o4 o5 o6 o7 o8 o9 c0 c1 c2 e0 e1 e2
                  obtain ⟨gx, hgx⟩ : ∃ gx, gx = w11.heap.size := ⟨_, rfl⟩
                  obtain ⟨gy, hgy⟩ : ∃ gy, gy = w12.heap.size := ⟨_, rfl⟩
                  rw [← hgx] at VX lz1 lz2
                  rw [← hgy] at VY lz2
                  simp only [← hgx, ← hgy]
                  have hlx : ga < gx ∧ gb < gx ∧ gx < gy ∧ go < gx + 1 := by omega
                  clear hgx hgy
                  refine wp_region_held_drew (S := fun w' => w'.heap[gx]? = WX.heap[gx]? ∧ w'.heap[gy]? = WX.heap[gy]?) (by kernel_rfl) ⟨rfl, rfl⟩ (fun hHeld => ?_)
                  refine wpAnyH_take (i := 0) (oi := _) (v := ?_) rfl (by kernel_rfl) (by kernel_rfl) (by kernel_rfl) (fun _ _ _ h => h) (Or.inl ⟨by rfl, ?_⟩) hHeld ?_
                  rotate_left
                  · intro w' hSw
                    obtain ⟨v0, v1, v2⟩ := Vw.at (show Vw w' gx z1 30 from hSw.1.trans VX)
                    (go_simp <;> with_reducible rfl)
                  try simp only [Act.put, List.getElem_toArray, List.getElem_cons_zero, List.setIfInBounds_toArray, List.set_cons_zero, List.set_cons_succ]
                  refine wpAnyH_take (i := 1) (oi := _) (v := ?_) rfl (by kernel_rfl) (by kernel_rfl) (by kernel_rfl) (fun _ _ _ h => h) (Or.inl ⟨by rfl, ?_⟩) hHeld ?_
                  rotate_left
                  · intro w' hSw
                    obtain ⟨v0, v1, v2⟩ := Vw.at (show Vw w' gy z2 35 from hSw.2.trans VY)
                    (go_simp <;> with_reducible rfl)
                  try simp only [Act.put, List.getElem_toArray, List.getElem_cons_succ, List.getElem_cons_zero, List.setIfInBounds_toArray, List.set_cons_zero, List.set_cons_succ]
                  refine wpAnyH_ready (rs := [2]) (by kernel_rfl) (by simp) ?_
                  refine AllReadyH.cons (o := _) rfl (fun K hK => ?_) (AllReadyH.nil)
                  refine step_stV (E := eTb) rfl 30 _ _ rfl size30 ga _ (Lv.draw AbX.a) rfl z1 rfl rfl ?_
                  intro w8 L8 k8
                  have l8 : WX.heap.size ≤ w8.heap.size := k8.size
                  have hS8 : w8.heap[gx]? = WX.heap[gx]? ∧ w8.heap[gy]? = WX.heap[gy]? := ⟨k8.block _ VX.lt (by intro h; have h := Option.some.inj h; omega), k8.block _ VY.lt (by intro h; have h := Option.some.inj h; omega)⟩
                  refine hK.out _ _ hS8 (fun hHeld => ?_)
                  clear hK K
                  try simp only [Act.put, List.getElem_toArray, List.getElem_cons_succ, List.getElem_cons_zero]
                  refine wpAnyH_ready (rs := [3]) (by kernel_rfl) (by simp) ?_
                  refine AllReadyH.cons (o := _) rfl (fun K hK => ?_) (AllReadyH.nil)
                  have Vb8 : Vw w8 gb y2 35 := Lv.kp (Lv.draw AbX.b) k8 (Ne.symm hab)
                  refine step_stV (E := eTb) rfl 35 _ _ rfl size35 gb _ Vb8 rfl z2 rfl rfl ?_
                  intro w9 L9 k9
                  have hS9 : w9.heap[gx]? = WX.heap[gx]? ∧ w9.heap[gy]? = WX.heap[gy]? := ⟨(k9.block _ (Nat.lt_of_lt_of_le VX.lt l8) (by intro h; have h := Option.some.inj h; omega)).trans hS8.1, (k9.block _ (Nat.lt_of_lt_of_le VY.lt l8) (by intro h; have h := Option.some.inj h; omega)).trans hS8.2⟩
                  refine hK.out _ _ hS9 (fun hHeld => ?_)
                  clear hK K hHeld
                  try simp only [Act.put, List.getElem_toArray, List.getElem_cons_succ, List.getElem_cons_zero]
                  refine wpAnyH_done (by kernel_rfl) ?_ _
                  have drw := (Below.refl WX.heap.size WX).drew
                  have hAb9 := (AbX.below drw).set ((tX1).below drw) ((tX2).below drw) k8 L8 k9 L9 hga0 hgb0 hab
                  have hO9 : Vd w9 go (⟨k, xa, a, g, c, h, Lp, Ln, Lc, Wp, Wn, Wc, b, Fp, Fn, Fc⟩ : De) := Lv.kp (Lv.kp (Lv.draw OX) k8 (by omega)) k9 (by omega)
                  go_wp2
                  go_meet
                  case rel => exact ⟨z1, z2, adR T, rfl, HWF.out, hAb9, hO9⟩
              case rest => as_aux_lemma =>
                clear hAb6 hO6 wf
                obtain ⟨y1, y2, T, rfl, wf, hAb7, hO7⟩ := hcut
                obtain ⟨o0, o1, o2, o3, o4, o5, o6, o7, o8, o9⟩ := hO7.at
                obtain ⟨c0, c1, c2⟩ := hAb7.a.at
                obtain ⟨e0, e1, e2⟩ := hAb7.b.at
                obtain ⟨B, hB⟩ : ∃ B, Slo.hasM T.G T.I a g = B := ⟨_, rfl⟩
                obtain ⟨pf, hpf⟩ : ∃ pf, fnA T a g = pf := ⟨_, rfl⟩
                obtain ⟨ns, hns⟩ : ∃ ns, (plc 1 T.T 12).length = ns := ⟨_, rfl⟩
                have hns12 : ns ≤ 12 := by rw [← hns]; exact plc_le 1 T.T 12
                have HB : Hid (Slo.hasM T.G T.I a g = B) := hB
                have HPF : Hid (fnA T a g = pf) := hpf
                have HNS : Hid ((plc 1 T.T 12).length = ns) := hns
                have q1 : (B != B) = false := by cases B <;> rfl
                have q2 : (pf == pf) = true := beq_self_eq_true _
                have q3 : (pf != pf) = false := by rw [bne, q2]; rfl
                have q4 : decide (pf = pf) = true := decide_eq_true rfl
                clear hB hpf hns
                go_upto_region 41 with (first
                  | (go_at_call 25; refine (rfind_any y2 T (n + 1) _ (hAb7.t2.below b21) wf (by omega) a g pf HPF.out B HB.out).mono ?_; rintro e9 w22 ⟨rfl, b22⟩; have b23 := bel_call b21 (Nat.le_refl _) b22)
                  | (go_at_call 24; refine (find_any y1 T (n + 1) _ hAb7.t1 wf (by omega) a g HDX.out.a HDX.out.g pf HPF.out B HB.out).mono ?_; rintro e9 w21 ⟨rfl, b21⟩; have O21 := hO7.below b21; have Ab21 := hAb7.below b21; clear o0 o1 o2 o3 o4 o5 o6 o7 o8 o9 c0 c1 c2 e0 e1 e2; obtain ⟨o0, o1, o2, o3, o4, o5, o6, o7, o8, o9⟩ := O21.at; obtain ⟨c0, c1, c2⟩ := Ab21.a.at; obtain ⟨e0, e1, e2⟩ := Ab21.b.at))
                have hAbX := hAb7.below b23
                obtain ⟨W1, hW1⟩ : ∃ W1, W1 = w22 := ⟨_, rfl⟩
                subst hW1
                clear o0 o1 o2 o3 o4 o5 o6 o7 o8 o9 c0 c1 c2 e0 e1 e2
                refine wp_region_held_drew (S := fun w' => Below W1.heap.size W1 w') (by kernel_rfl) (Below.refl _ _).drew (fun hHeld => ?_)
                refine wpAnyH_take (i := 0) (oi := _) (v := ?_) rfl (by kernel_rfl) (by kernel_rfl) (by kernel_rfl) (fun _ _ _ h => h) (Or.inl ⟨by rfl, ?_⟩) hHeld ?_
                rotate_left
                · intro w' hSw
                  (go_simp <;> with_reducible rfl)
                try simp only [Act.put, List.getElem_toArray, List.getElem_cons_zero, List.setIfInBounds_toArray, List.set_cons_zero, List.set_cons_succ]
                refine wpAnyH_take (i := 1) (oi := _) (v := ?_) rfl (by kernel_rfl) (by kernel_rfl) (by kernel_rfl) (fun _ _ _ h => h) (Or.inl ⟨by rfl, ?_⟩) hHeld ?_
                rotate_left
                · intro w' hSw
                  (go_simp <;> with_reducible rfl)
                try simp only [Act.put, List.getElem_toArray, List.getElem_cons_succ, List.getElem_cons_zero, List.setIfInBounds_toArray, List.set_cons_zero, List.set_cons_succ]
                refine wpAnyH_take (i := 2) (oi := _) (v := ?_) rfl (by kernel_rfl) (by kernel_rfl) (by kernel_rfl) (fun _ _ _ h => h) (Or.inl ⟨by rfl, ?_⟩) hHeld ?_
                rotate_left
                · intro w' hSw
                  (go_simp <;> with_reducible rfl)
                try simp only [Act.put, List.getElem_toArray, List.getElem_cons_succ, List.getElem_cons_zero, List.setIfInBounds_toArray, List.set_cons_zero, List.set_cons_succ]
                refine wpAnyH_take (i := 3) (oi := _) (v := ?_) rfl (by kernel_rfl) (by kernel_rfl) (by kernel_rfl) (fun _ _ _ h => h) (Or.inl ⟨by rfl, ?_⟩) hHeld ?_
                rotate_left
                · intro w' hSw
                  (go_simp <;> with_reducible rfl)
                try simp only [Act.put, List.getElem_toArray, List.getElem_cons_succ, List.getElem_cons_zero, List.setIfInBounds_toArray, List.set_cons_zero, List.set_cons_succ]
                refine wpAnyH_take (i := 4) (oi := _) (v := ?_) rfl (by kernel_rfl) (by kernel_rfl) (by kernel_rfl) (fun _ _ _ h => h) (Or.inl ⟨by rfl, ?_⟩) hHeld ?_
                rotate_left
                · intro w' hSw
                  (go_simp <;> with_reducible rfl)
                try simp only [Act.put, List.getElem_toArray, List.getElem_cons_succ, List.getElem_cons_zero, List.setIfInBounds_toArray, List.set_cons_zero, List.set_cons_succ]
                refine wpAnyH_take (i := 5) (oi := _) (v := ?_) rfl (by kernel_rfl) (by kernel_rfl) (by kernel_rfl) (fun _ _ _ h => h) (Or.inl ⟨by rfl, ?_⟩) hHeld ?_
                rotate_left
                · intro w' hSw
                  (go_simp <;> with_reducible rfl)
                try simp only [Act.put, List.getElem_toArray, List.getElem_cons_succ, List.getElem_cons_zero, List.setIfInBounds_toArray, List.set_cons_zero, List.set_cons_succ]
                refine wpAnyH_take (i := 6) (oi := _) (v := ?_) rfl (by kernel_rfl) (by kernel_rfl) (by kernel_rfl) (fun _ _ _ h => h) (Or.inl ⟨by rfl, ?_⟩) hHeld ?_
                rotate_left
                · intro w' hSw
                  (go_simp <;> with_reducible rfl)
                try simp only [Act.put, List.getElem_toArray, List.getElem_cons_succ, List.getElem_cons_zero, List.setIfInBounds_toArray, List.set_cons_zero, List.set_cons_succ]
                refine wpAnyH_take (i := 7) (oi := _) (v := ?_) rfl (by kernel_rfl) (by kernel_rfl) (by kernel_rfl) (fun _ _ _ h => h) (Or.inl ⟨by rfl, ?_⟩) hHeld ?_
                rotate_left
                · intro w' hSw
                  (go_simp <;> with_reducible rfl)
                try simp only [Act.put, List.getElem_toArray, List.getElem_cons_succ, List.getElem_cons_zero, List.setIfInBounds_toArray, List.set_cons_zero, List.set_cons_succ]
                refine wpAnyH_take (i := 8) (oi := _) (v := ?_) rfl (by kernel_rfl) (by kernel_rfl) (by kernel_rfl) (fun _ _ _ h => h) (Or.inl ⟨by rfl, ?_⟩) hHeld ?_
                rotate_left
                · intro w' hSw
                  (go_simp <;> with_reducible rfl)
                try simp only [Act.put, List.getElem_toArray, List.getElem_cons_succ, List.getElem_cons_zero, List.setIfInBounds_toArray, List.set_cons_zero, List.set_cons_succ]
                refine wpAnyH_take (i := 9) (oi := _) (v := ?_) rfl (by kernel_rfl) (by kernel_rfl) (by kernel_rfl) (fun _ _ _ h => h) (Or.inl ⟨by rfl, ?_⟩) hHeld ?_
                rotate_left
                · intro w' hSw
                  obtain ⟨c0, c1, c2⟩ := (hAbX.a.below hSw).at
                  (go_simp <;> with_reducible rfl)
                try simp only [Act.put, List.getElem_toArray, List.getElem_cons_succ, List.getElem_cons_zero, List.setIfInBounds_toArray, List.set_cons_zero, List.set_cons_succ]
                refine wpAnyH_take (i := 11) (oi := _) (v := ?_) rfl (by kernel_rfl) (by kernel_rfl) (by kernel_rfl) (fun _ _ _ h => h) (Or.inl ⟨by rfl, ?_⟩) hHeld ?_
                rotate_left
                · intro w' hSw
                  obtain ⟨c0, c1, c2⟩ := (hAbX.b.below hSw).at
                  (go_simp <;> with_reducible rfl)
                try simp only [Act.put, List.getElem_toArray, List.getElem_cons_succ, List.getElem_cons_zero, List.setIfInBounds_toArray, List.set_cons_zero, List.set_cons_succ]
                refine wpAnyH_ready (rs := [10]) (by kernel_rfl) (by simp) ?_
                refine AllReadyH.cons (o := _) rfl (fun K hK => ?_) AllReadyH.nil
                go_simp
                go_at_call 27; refine (table_any y1 T _ (hAbX.t1.below hHeld)).mono ?_
                rintro e9 w31 ⟨z, rfl, u1, b31'⟩
                have b31 := bel_call hHeld (Nat.le_refl _) b31'
                have hAbX := hAbX.below b31
                refine hK.out _ _ b31 (fun _ => ?_)
                refine wpAnyH_weaken (S' := fun w' => Below w31.heap.size w31 w') (fun w' h => bel_call b31 (Nat.le_refl _) h) _ _ _ _ ?_
                clear hHeld hK K
                have hHeld : Below w31.heap.size w31 w31 := Below.refl _ _
                try simp only [Act.put, List.getElem_toArray, List.getElem_cons_succ, List.getElem_cons_zero, List.setIfInBounds_toArray, List.set_cons_zero, List.set_cons_succ]
                refine wpAnyH_ready (rs := [12]) (by kernel_rfl) (by simp) ?_
                refine AllReadyH.cons (o := _) rfl (fun K hK => ?_) AllReadyH.nil
                go_simp
                go_at_call 26; refine (sametable_yes z y2 T _ u1 hAbX.t2).mono ?_
                rintro e9 w32 ⟨rfl, b32⟩
                have hAbX := hAbX.below b32
                refine hK.out _ _ b32 (fun _ => ?_)
                refine wpAnyH_weaken (S' := fun w' => Below w32.heap.size w32 w') (fun w' h => bel_call b32 (Nat.le_refl _) h) _ _ _ _ ?_
                clear hHeld hK K
                have hHeld : Below w32.heap.size w32 w32 := Below.refl _ _
                try simp only [Act.put, List.getElem_toArray, List.getElem_cons_succ, List.getElem_cons_zero, List.setIfInBounds_toArray, List.set_cons_zero, List.set_cons_succ]
                refine wpAnyH_take (i := 13) (oi := _) (v := ?_) rfl (by kernel_rfl) (by kernel_rfl) (by kernel_rfl) (fun _ _ _ h => h) (Or.inl ⟨by rfl, ?_⟩) hHeld ?_
                rotate_left
                · intro w' hSw
                  (go_simp <;> with_reducible rfl)
                try simp only [Act.put, List.getElem_toArray, List.getElem_cons_succ, List.getElem_cons_zero, List.setIfInBounds_toArray, List.set_cons_zero, List.set_cons_succ]
                refine wpAnyH_take (i := 14) (oi := _) (v := ?_) rfl (by kernel_rfl) (by kernel_rfl) (by kernel_rfl) (fun _ _ _ h => h) (Or.inl ⟨by rfl, ?_⟩) hHeld ?_
                rotate_left
                · intro w' hSw
                  (go_simp <;> with_reducible rfl)
                try simp only [Act.put, List.getElem_toArray, List.getElem_cons_succ, List.getElem_cons_zero, List.setIfInBounds_toArray, List.set_cons_zero, List.set_cons_succ]
                refine wpAnyH_take (i := 15) (oi := _) (v := ?_) rfl (by kernel_rfl) (by kernel_rfl) (by kernel_rfl) (fun _ _ _ h => h) (Or.inl ⟨by rfl, ?_⟩) hHeld ?_
                rotate_left
                · intro w' hSw
                  (go_simp <;> with_reducible rfl)
                try simp only [Act.put, List.getElem_toArray, List.getElem_cons_succ, List.getElem_cons_zero, List.setIfInBounds_toArray, List.set_cons_zero, List.set_cons_succ]
                refine wpAnyH_take (i := 16) (oi := _) (v := ?_) rfl (by kernel_rfl) (by kernel_rfl) (by kernel_rfl) (fun _ _ _ h => h) (Or.inl ⟨by rfl, ?_⟩) hHeld ?_
                rotate_left
                · intro w' hSw
                  obtain ⟨c0, c1, c2⟩ := (hAbX.a.below hSw).at
                  (go_simp <;> with_reducible rfl)
                try simp only [Act.put, List.getElem_toArray, List.getElem_cons_succ, List.getElem_cons_zero, List.setIfInBounds_toArray, List.set_cons_zero, List.set_cons_succ]
                refine wpAnyH_take (i := 18) (oi := _) (v := ?_) rfl (by kernel_rfl) (by kernel_rfl) (by kernel_rfl) (fun _ _ _ h => h) (Or.inl ⟨by rfl, ?_⟩) hHeld ?_
                rotate_left
                · intro w' hSw
                  obtain ⟨c0, c1, c2⟩ := (hAbX.b.below hSw).at
                  (go_simp <;> with_reducible rfl)
                try simp only [Act.put, List.getElem_toArray, List.getElem_cons_succ, List.getElem_cons_zero, List.setIfInBounds_toArray, List.set_cons_zero, List.set_cons_succ]
                refine wpAnyH_ready (rs := [17]) (by kernel_rfl) (by simp) ?_
                refine AllReadyH.cons (o := _) rfl (fun K hK => ?_) AllReadyH.nil
                go_simp
                go_at_call 28; refine (semas_any y1 T _ hAbX.t1 ns HNS.out).mono ?_
                rintro e9 w33 ⟨p1, q1, rfl, r1, b33⟩
                have hAbX := hAbX.below b33
                refine hK.out _ _ b33 (fun _ => ?_)
                refine wpAnyH_weaken (S' := fun w' => Below w33.heap.size w33 w') (fun w' h => bel_call b33 (Nat.le_refl _) h) _ _ _ _ ?_
                clear hHeld hK K
                have hHeld : Below w33.heap.size w33 w33 := Below.refl _ _
                try simp only [Act.put, List.getElem_toArray, List.getElem_cons_succ, List.getElem_cons_zero, List.setIfInBounds_toArray, List.set_cons_zero, List.set_cons_succ]
                refine wpAnyH_ready (rs := [19]) (by kernel_rfl) (by simp) ?_
                refine AllReadyH.cons (o := _) rfl (fun K hK => ?_) AllReadyH.nil
                go_simp
                go_at_call 29; refine (rsemas_any y2 T _ hAbX.t2 ns HNS.out).mono ?_
                rintro e9 w34 ⟨p2, q2, rfl, r2, b34⟩
                have hAbX := hAbX.below b34
                refine hK.out _ _ b34 (fun _ => ?_)
                refine wpAnyH_weaken (S' := fun w' => Below w34.heap.size w34 w') (fun w' h => bel_call b34 (Nat.le_refl _) h) _ _ _ _ ?_
                clear hHeld hK K
                have hHeld : Below w34.heap.size w34 w34 := Below.refl _ _
                try simp only [Act.put, List.getElem_toArray, List.getElem_cons_succ, List.getElem_cons_zero, List.setIfInBounds_toArray, List.set_cons_zero, List.set_cons_succ]
                refine wpAnyH_ready (rs := [20]) (by kernel_rfl) (by simp) ?_
                refine AllReadyH.cons (o := _) rfl (fun K hK => ?_) AllReadyH.nil
                go_simp
                go_at_call 13; refine (sameints_yes p1 q1 p2 q2 (plc 1 T.T 12) _ ((own_rd r1).below b34) (own_rd r2) ns HNS.out (by omega)).mono ?_
                rintro e9 w35 ⟨rfl, b35⟩
                have hAbX := hAbX.below b35
                refine hK.out _ _ b35 (fun _ => ?_)
                refine wpAnyH_weaken (S' := fun w' => Below w35.heap.size w35 w') (fun w' h => bel_call b35 (Nat.le_refl _) h) _ _ _ _ ?_
                clear hHeld hK K
                have hHeld : Below w35.heap.size w35 w35 := Below.refl _ _
                try simp only [Act.put, List.getElem_toArray, List.getElem_cons_succ, List.getElem_cons_zero, List.setIfInBounds_toArray, List.set_cons_zero, List.set_cons_succ]
                refine wpAnyH_take (i := 21) (oi := _) (v := ?_) rfl (by kernel_rfl) (by kernel_rfl) (by kernel_rfl) (fun _ _ _ h => h) (Or.inl ⟨by rfl, ?_⟩) hHeld ?_
                rotate_left
                · intro w' hSw
                  (go_simp <;> with_reducible rfl)
                try simp only [Act.put, List.getElem_toArray, List.getElem_cons_succ, List.getElem_cons_zero, List.setIfInBounds_toArray, List.set_cons_zero, List.set_cons_succ]
                refine wpAnyH_take (i := 22) (oi := _) (v := ?_) rfl (by kernel_rfl) (by kernel_rfl) (by kernel_rfl) (fun _ _ _ h => h) (Or.inl ⟨by rfl, ?_⟩) hHeld ?_
                rotate_left
                · intro w' hSw
                  (go_simp <;> with_reducible rfl)
                try simp only [Act.put, List.getElem_toArray, List.getElem_cons_succ, List.getElem_cons_zero, List.setIfInBounds_toArray, List.set_cons_zero, List.set_cons_succ]
                refine wpAnyH_done (by kernel_rfl) ?_ _
                go_wp2
                go_roundw
                case rel => exact ⟨n + 1, y1, y2, T, by omega, by go_num, wf, hAbX⟩
                case measure => simp [intOf]; omega
            · have d3 : decide ((Fn : Int) > 6) = true := by simp; omega
              go_wp2
              go_ret
              exact ⟨rfl, hAb5.bw⟩
          · have d2 : decide ((Wn : Int) > 6) = true := by simp; omega
            go_wp2
            go_ret
            exact ⟨rfl, hAb5.bw⟩
        · have d1 : decide ((Ln : Int) > 6) = true := by simp; omega
          go_wp2
          go_ret
          exact ⟨rfl, hAb5.bw⟩
      · have hnn : n = ln := by omega
        subst hnn
        go_wp2
        go_ret
        exact ⟨rfl, hAb.bw⟩
  · have d60 : decide ((ln : Int) > 40) = true := by simp; omega
    go_enter Try.func3, Try.ntmps3
    go_wp2_with (go_at_call 8; refine (begun_any _).mono ?_; rintro e w1 ⟨rfl, b1⟩)
    go_ret
    exact ⟨rfl, b1⟩
end Go.Proofs.Ytcncpefdjgnhdaa
