/-
  Put together:
  Bodies and reaches as a row, by the document.
  The pairs of a program, by the document.
-/
import Derived.Test.YtonholadabebbaaShap
import Derived.Test.YtonholadabebbaaPlains
import Derived.Test.YtonholadabebbaaMayRef
import Derived.Test.YtonholadabebbaaHand
namespace Go.Proofs.Ytonholadabebbaa
open Go.ChangeShapes Go.WideShapes Go.ChangeAt Go.RowKit
attribute [local go_sem ↓] Go.wp_at_zero Go.wp_at_succ

def eAr : Elt Ar := ⟨4, fun x => [.int .i64 x.1, .int .i64 x.2.1, .int .i64 x.2.2.1, .bool x.2.2.2], fun _ => rfl, by intro x v hv; simp at hv; rcases hv with rfl | rfl | rfl | rfl <;> rfl, by decide⟩
theorem Try.info87 : (Try.prog.info? 87).map (fun i => (i.zero, i.size, i.bytes)) = some (some (.agg #[.int .i64 0, .int .i64 0, .int .i64 0, .bool false]), 4, 32) := by kernel_rfl
theorem tAr : Ty Try.prog eAr 84 87 := by
  obtain ⟨i, hi, h0, h1, h2⟩ := info_parts Try.info87
  exact ⟨Try.underlying84, i, _, hi, h0, h1, rfl, by omega⟩
theorem Rd.area {w : World} {p : Option Addr} {c : Nat} {l : List Ar} (h : Rd eAr w p c l) (i : Nat) (hi : i < l.length) :
    ∃ b o, p = some ⟨b, o, none⟩ ∧ b < w.heap.size ∧ w.cell? ⟨b, o + i * 4, none⟩ = some (.int .i64 l[i].1) ∧ w.cell? ⟨b, o + i * 4 + 1, none⟩ = some (.int .i64 l[i].2.1) ∧ w.cell? ⟨b, o + i * 4 + 2, none⟩ = some (.int .i64 l[i].2.2.1) ∧ w.cell? ⟨b, o + i * 4 + 3, none⟩ = some (.bool l[i].2.2.2) := by
  obtain ⟨b, o, e, hb, hc⟩ := h.cells i hi
  exact ⟨b, o, e, hb, hc 0 _ rfl, hc 1 _ rfl, hc 2 _ rfl, hc 3 _ rfl⟩
theorem rd_ar {w : World} {vb : Nat} {A B C : Int} {D : Bool} {t : TypeId} {fr : Nat × Nat} (h : w.heap[vb]? = some (.cells #[.int .i64 A, .int .i64 B, .int .i64 C, .bool D] t fr)) : Rd eAr w (some ⟨vb, 0, none⟩) 1 [(A, B, C, D)] := rd_block h 1 rfl rfl

set_option maxHeartbeats 2000000 in
set_option maxRecDepth 20000 in
theorem areas_any (p : Option Addr) (c : Nat) (l : List In) (w : World) (hr : Rd eIn w p c l) (n : Nat) (hN : l.length = n) (hl : n ≤ 24) (ha : l.all mayB = true) :
    Calls Try.prog 45 #[.slice p n c] w fun e w' => ∃ q d m, e = .returned (.slice q m d) ∧ m = (arI l n).length ∧ Own eAr w' w.heap.size 87 q d (arL l n) ∧ Below w.heap.size w w' := by
  have HN : Hid (l.length = n) := hN
  clear hN
  go_enter Try.func45, Try.ntmps45
  go_wp2
  go_loopw [3, 4] (fun t i wr => ∃ (k : Nat) (q : Option Addr) (d m : Nat), k ≤ n ∧ i = .int .i64 k ∧ t = .slice q m d ∧ Hid (m = (arI l k).length) ∧ Own eAr wr w.heap.size 87 q d (arL l k) ∧ Below w.heap.size w wr) (fun _ i _ => n - (intOf i).toNat)
  case atStart => exact ⟨0, none, 0, 0, Nat.zero_le _, rfl, rfl, rfl, own_nil _ _ _, Below.refl _ _⟩
  case round =>
    obtain ⟨k, q, d, m, hk, rfl, rfl, HQ, hown, hbw⟩ := hrel
    have hsz := hbw.size
    have hmk : m ≤ k := by rw [HQ.out]; exact arI_le l k
    have HL : Hid ((arL l k).length = m) := by show _ = _; rw [arL_len, HQ.out]
    by_cases hlt : k < n
    · have hkl : k < l.length := by rw [HN.out]; exact hlt
      obtain ⟨b, o, rfl, hb, f0, f1, f2, f3⟩ := (hr.below hbw).inst k hkl
      have HG : Hid (gt l k = l[k]) := gt_eq hkl
      have hbd := reach_bd (all_get ha hkl)
      generalize l[k] = x at *
      obtain ⟨xo, xa, xb, xn⟩ := x
      simp only at f0 f1 f2 f3
      by_cases h7 : xo = 7
      · subst h7
        have eR : reachI (7, xa, xb, xn) = xn := rfl
        rw [eR] at hbd
        have HE : Hid (arE l k = ((k : Int) + 1, (k : Int) + xn, (k : Int), false)) := by show _ = _; unfold arE; rw [HG.out]; rfl
        have HA : Hid (isAr l k = true) := by show _ = _; unfold isAr; rw [HG.out]; rfl
        obtain ⟨r0, r1⟩ := hbd
        go_wp2_with (at_builtin; refine wpList_app tAr _ rfl _ _ rfl w.heap.size q d (arL l k) m HL.out rfl (own_below hown ((Below.refl _ _).alloc (Nat.le_refl _) _)) _ _ [((k : Int) + 1, (k : Int) + xn, (k : Int), false)] 1 rfl rfl (rd_ar (heap_at (by first | rfl | simp))) (by omega) (by simp; omega) (m + 1) rfl ?_; intro p6 c6 w6 ho6 hb6 hst6)
        go_roundw
        case rel => exact ⟨k + 1, p6, c6, m + 1, by omega, by go_num, rfl, by show _ = _; rw [arI_yes HA.out, List.length_append, ← HQ.out]; rfl, by rw [arL_yes HA.out, HE.out]; exact ho6, (hbw.alloc hsz _).trans hb6⟩
        case measure => simp [intOf]; omega
      · have d7 : (xo == 7) = false := by simpa using h7
        by_cases h8 : xo = 8
        · subst h8
          have eR : reachI (8, xa, xb, xn) = xb := rfl
          rw [eR] at hbd
          have HE : Hid (arE l k = ((k : Int) + 1, (k : Int) + xb, (k : Int), true)) := by show _ = _; unfold arE; rw [HG.out]; rfl
          have HA : Hid (isAr l k = true) := by show _ = _; unfold isAr; rw [HG.out]; rfl
          obtain ⟨r0, r1⟩ := hbd
          clear d7 h7
          go_wp2_with (at_builtin; refine wpList_app tAr _ rfl _ _ rfl w.heap.size q d (arL l k) m HL.out rfl (own_below hown ((Below.refl _ _).alloc (Nat.le_refl _) _)) _ _ [((k : Int) + 1, (k : Int) + xb, (k : Int), true)] 1 rfl rfl (rd_ar (heap_at (by first | rfl | simp))) (by omega) (by simp; omega) (m + 1) rfl ?_; intro p6 c6 w6 ho6 hb6 hst6)
          go_roundw
          case rel => exact ⟨k + 1, p6, c6, m + 1, by omega, by go_num, rfl, by show _ = _; rw [arI_yes HA.out, List.length_append, ← HQ.out]; rfl, by rw [arL_yes HA.out, HE.out]; exact ho6, (hbw.alloc hsz _).trans hb6⟩
          case measure => simp [intOf]; omega
        · have d8 : (xo == 8) = false := by simpa using h8
          have HA : Hid (isAr l k = false) := by show _ = _; unfold isAr; rw [HG.out]; simp [h7, h8]
          go_wp2
          go_roundw
          case rel => exact ⟨k + 1, q, d, m, by omega, by go_num, rfl, by show _ = _; rw [arI_no HA.out]; exact HQ.out, by rw [arL_no HA.out]; exact hown, hbw⟩
          case measure => simp [intOf]; omega
    · obtain rfl : k = n := by omega
      go_wp2
      go_ret
      exact ⟨q, d, m, rfl, HQ.out, hown, hbw⟩

theorem has_any (A B C : Int) (D : Bool) (i : Int) (w : World) : Calls Try.prog 46 #[.agg #[.int .i64 A, .int .i64 B, .int .i64 C, .bool D], .int .i64 i] w fun e w' => e = .returned (.bool (decide (A ≤ i) && decide (i ≤ B))) ∧ Below w.heap.size w w' := by
  by_cases h1 : A ≤ i
  · have d1 : decide (A ≤ i) = true := by simpa using h1
    rw [d1, Bool.true_and]
    go_enter Try.func46, Try.ntmps46
    go_wp2
    go_ret
    exact ⟨rfl, (Below.refl _ _).alloc (Nat.le_refl _) _⟩
  · have d1 : decide (A ≤ i) = false := by simpa using h1
    rw [d1, Bool.false_and]
    go_enter Try.func46, Try.ntmps46
    go_wp2
    go_ret
    exact ⟨rfl, (Below.refl _ _).alloc (Nat.le_refl _) _⟩
theorem has_c (A B C : Int) (D : Bool) (i : Int) (w : World) (k : Bool) (hk : (decide (A ≤ i) && decide (i ≤ B)) = k) : Calls Try.prog 46 #[.agg #[.int .i64 A, .int .i64 B, .int .i64 C, .bool D], .int .i64 i] w fun e w' => e = .returned (.bool k) ∧ Below w.heap.size w w' := by
  subst hk
  exact has_any A B C D i w

set_option maxHeartbeats 2000000 in
set_option maxRecDepth 20000 in
theorem held_any (p : Option Addr) (c : Nat) (l : List In) (w : World) (hr : Rd eIn w p c l) (n : Nat) (hN : l.length = n) (hl : n ≤ 24) (q : Option Addr) (d : Nat) (U : List Int) (hu : Rd eI w q d U) (hU : U.length = n) (a : Nat) :
    Calls Try.prog 47 #[.slice p n c, .slice q n d, .int .i64 a] w fun e w' => e = .returned (.int .i64 (heldN l U a n : Nat)) ∧ Below w.heap.size w w' := by
  have HN : Hid (l.length = n) := hN
  have HU : Hid (U.length = n) := hU
  clear hN hU
  go_enter Try.func47, Try.ntmps47
  go_wp2
  go_loopw [7, 8] (fun t i wr => ∃ k : Nat, k ≤ n ∧ i = .int .i64 k ∧ t = .int .i64 (heldN l U a k : Nat) ∧ Below w.heap.size w wr) (fun _ i _ => n - (intOf i).toNat)
  case atStart => exact ⟨0, Nat.zero_le _, rfl, rfl, Below.refl _ _⟩
  case round =>
    obtain ⟨k, hk, rfl, rfl, hbw⟩ := hrel
    have hle : heldN l U a k ≤ k := cntN_le _ _
    by_cases hlt : k < n
    · have hkl : k < l.length := by rw [HN.out]; exact hlt
      have hku : k < U.length := by rw [HU.out]; exact hlt
      obtain ⟨b, o, rfl, hb, f0, f1, f2, f3⟩ := (hr.below hbw).inst k hkl
      obtain ⟨b', o', rfl, hb', u0⟩ := (hu.below hbw).num k hku
      have HG : Hid (gt l k = l[k]) := gt_eq hkl
      have HY : Hid (U.getD k 0 = U[k]) := getD_at7 hku
      generalize l[k] = x at *
      generalize U[k] = y at *
      obtain ⟨xo, xa, xb, xn⟩ := x
      simp only at f0 f1 f2 f3
      by_cases h9 : xo = 9
      · subst h9
        by_cases h1 : k < a
        · have d1 : decide ((k : Int) < (a : Int)) = true := by simpa using h1
          by_cases h2 : (a : Int) < y
          · have d2 : decide ((a : Int) < y) = true := by simpa using h2
            have HC : Hid (heldN l U a (k + 1) = heldN l U a k + 1) := cntN_yes (by rw [HG.out, HY.out, d2]; simp [h1])
            go_wp2
            go_roundw
            case rel => exact ⟨k + 1, by omega, by go_num, by rw [HC.out]; go_num, hbw⟩
            case measure => simp [intOf]; omega
          · have d2 : decide ((a : Int) < y) = false := by simpa using h2
            have HC : Hid (heldN l U a (k + 1) = heldN l U a k) := cntN_no (by rw [HG.out, HY.out, d2]; simp)
            go_wp2
            go_roundw
            case rel => exact ⟨k + 1, by omega, by go_num, by rw [HC.out], hbw⟩
            case measure => simp [intOf]; omega
        · have d1 : decide ((k : Int) < (a : Int)) = false := by simpa using h1
          have HC : Hid (heldN l U a (k + 1) = heldN l U a k) := cntN_no (by simp [h1])
          go_wp2
          go_roundw
          case rel => exact ⟨k + 1, by omega, by go_num, by rw [HC.out], hbw⟩
          case measure => simp [intOf]; omega
      · have d9 : (xo == 9) = false := by simpa using h9
        have HC : Hid (heldN l U a (k + 1) = heldN l U a k) := cntN_no (by rw [HG.out, d9]; rfl)
        go_wp2
        go_roundw
        case rel => exact ⟨k + 1, by omega, by go_num, by rw [HC.out], hbw⟩
        case measure => simp [intOf]; omega
    · obtain rfl : k = n := by omega
      go_wp2
      go_ret
      exact ⟨rfl, hbw⟩
end Go.Proofs.Ytonholadabebbaa

namespace Go.Proofs.Ytonholadabebbaa
open Go.ChangeShapes Go.WideShapes Go.ChangeAt Go.RowKit
attribute [local go_sem ↓] Go.wp_at_zero Go.wp_at_succ

theorem own_underE {α : Type} {E : Elt α} {e : TypeId} {w w' : World} {B base : Nat} {p : Option Addr} {c : Nat} {l : List α} (h : Own E w base e p c l) (hb : Below B w w') (hg : ∀ g, p = some ⟨g, 0, none⟩ → g < B) : Own E w' base e p c l := by
  refine ⟨h.1, ?_⟩
  rcases h.2 with hn | ⟨g, cap, cur, h1, h2, h3, h4⟩
  · exact .inl hn
  · have h1' := h1
    simp only [Value.slice.injEq] at h1'
    exact .inr ⟨g, cap, cur, h1, h2, (hb.block g (hg g h1'.1)).trans h3, h4⟩
theorem own_lowE7 {α : Type} {E : Elt α} {e : TypeId} {w : World} {base : Nat} {p : Option Addr} {c : Nat} {l : List α} (h : Own E w base e p c l) {a : Addr} (ha : a.block < base) (u : Value) : Own E (w.setCell a u) base e p c l := by
  refine ownsRow_setCell_other h ?_ u
  intro e
  have := World.ownsRow.lt h _ e
  omega
theorem own_blk7 {α : Type} {E : Elt α} {e : TypeId} {w : World} {base : Nat} {p : Option Addr} {c : Nat} {l : List α} (h : Own E w base e p c l) : ∀ g, p = some ⟨g, 0, none⟩ → base ≤ g ∧ g < w.heap.size := by
  rintro g rfl
  exact World.ownsRow.lt h g rfl
set_option maxRecDepth 100000 in
set_option maxHeartbeats 8000000 in
theorem refPairs_any (p : Option Addr) (c : Nat) (l : List In) (w : World) (hr : Rd eIn w p c l) (n : Nat) (hN : l.length = n) (hn : n ≤ 24) (hal : l.all mayB = true) (h1 : 1 ≤ n) :
    Calls Try.prog 34 #[.slice p n c] w fun e w' => PairsTold l n w.heap.size e w' ∧ Below w.heap.size w w' := by
  obtain ⟨i0, hi0, hz0, hz1, hz2⟩ := info_parts Try.info3
  have HN : Hid (l.length = n) := hN
  obtain ⟨bl, ol, hpe, hbl, _⟩ := hr.pos (by omega)
  have hpb0 : ∀ b o, p = some ⟨b, o, none⟩ → l ≠ [] → b < w.heap.size := by rintro b o rfl _; cases hpe; exact hbl
  have har := fun w' (hb' : Below w.heap.size w w') => areas_any p c l w' (hr.below hb') n hN hn hal
  clear hN hpe
  go_enter Try.func34, Try.ntmps34
  go_wp2_with (first
    | (at_make; refine wpList_make_full _ rfl _ _ 73 rfl w.heap.size 3 i0 _ 1 Try.underlying73 hi0 hz0 hz1 .i64 .i64 _ _ n rfl rfl rfl rfl (by rw [hz2]; omega) (by unfold maxLen; omega) (Nat.le_refl _) ?_; intro w0 hown0 hgrow0
       have hB0 : Below w.heap.size w w0 := (Below.refl _ _).grown hgrow0 (Nat.le_refl _) (fun k hk => by cases hk))
    | (go_at_call 45; refine (har _ hB0).mono ?_; rintro e w1 ⟨qa, da, ma, rfl, hma, howna, hb1⟩; have HMA : Hid (ma = (arI l n).length) := hma; clear hma))
  have hz00 := hB0.size
  have hownU : Own eI w0 w.heap.size 3 (some ⟨w.heap.size, 0, none⟩) n (List.replicate n 0) := by
    unfold Own
    rw [List.length_replicate, ← made_zero]
    exact hown0
  have hUlt := (World.ownsRow.lt hown0 w.heap.size rfl).2
  have hownU1 := own_below hownU hb1
  have hBw1 := bel_call hB0 (Nat.le_refl _) hb1
  have hblk := own_blk7 howna
  have hma24 : ma ≤ 24 := by rw [HMA.out]; have := arI_le l n; omega
  have hz1' := hb1.size
  clear hown0 hgrow0 hownU hi0 hz0 hz1 hz2 har hB0 hb1
  have hownO : Own eI w1 w1.heap.size 3 none 0 (oI []) := own_nil _ _ _
  have hbase1 : w1.heap.size ≤ w1.heap.size := Nat.le_refl _
  generalize hbs : w1.heap.size = base at hblk hz1' hownO hbase1
  have hbase1 : base ≤ w1.heap.size := by omega
  clear hbs
  generalize w0.heap.size = b1 at *
  generalize hU : w.heap.size = ub at *
  have HU : Hid (w.heap.size = ub) := hU
  clear hU
  go_loopw [5, 7] (fun t i wr => ∃ (k m : Nat) (o : List Nat) (q : Option Addr) (d : Nat), k ≤ n ∧ i = .int .i64 k ∧ t = .slice q m d ∧ Hid (o.length = m) ∧ Hid (runO l k = some o) ∧ Own eI wr base 3 q d (oI o) ∧ Own eI wr ub 3 (some ⟨ub, 0, none⟩) n (outO l k) ∧ Own eAr wr b1 87 qa da (arL l n) ∧ base ≤ wr.heap.size ∧ Below ub w wr) (fun _ i _ => n - (intOf i).toNat)
  case atStart => exact ⟨0, 0, [], none, 0, Nat.zero_le _, rfl, rfl, rfl, rfl, hownO, by show Own _ _ _ _ _ _ (List.replicate l.length 0); rw [HN.out]; exact hownU1, howna, hbase1, hBw1⟩
  case round =>
    obtain ⟨k, m, o, q, d, hk, rfl, rfl, HM, HR, hown, hownu, hownr, hbs, hBw⟩ := hrel
    clear hownO hownU1 howna hBw1 hbase1
    generalize wr = wq at *
    have hHd := runO_held l k o HR.out
    have hrw := rd_under hr hBw hpb0
    have hm2 : m ≤ 2 := by rw [← HM.out]; exact hHd.le
    by_cases hlt : k < n
    · have hkl : k < l.length := by rw [HN.out]; exact hlt
      have hol : ∀ j ∈ o, j < n := fun j hj => Nat.lt_trans (hHd.lt j hj) hlt
      obtain ⟨b, f, rfl, hbz, f0, f1, f2, f3⟩ := hrw.inst k hkl
      have HG : Hid (gt l k = l[k]) := gt_eq hkl
      generalize l[k] = x at *
      obtain ⟨xo, xa, xb, xn⟩ := x
      simp only at f0 f1 f2 f3
      have hlU : (outO l k).length = n := by rw [outO_len, HN.out]
      by_cases h9 : xo = 9
      · subst h9
        have H9 : Hid ((gt l k).1 = 9) := by show _ = _; rw [HG.out]
        have HO : Hid (outO l (k + 1) = outO l k) := out_other (by rw [H9.out]; decide)
        have hrq := own_rd hown
        go_wp2
        go_loopw [8] (fun t wx => ∃ z : Nat, z ≤ m ∧ t = .int .i64 z ∧ Hid (∀ j, (hj : j < o.length) → j < z → sameA l k o[j] = false) ∧ Below wq.heap.size wq wx) (fun t _ => m - (intOf t).toNat)
        case atStart => exact ⟨0, Nat.zero_le _, rfl, fun j _ hj => by omega, Below.refl _ _⟩
        case round =>
          obtain ⟨z, hz, rfl, HT, hbx⟩ := hrel
          by_cases hlt2 : z < m
          · have hzl : z < o.length := by rw [HM.out]; exact hlt2
            have hrw2 := hrw.below hbx
            obtain ⟨b2, g2, rfl, hb2z, v0⟩ := (hrq.below hbx).num z (by rw [oI_len]; exact hzl)
            have hx : (oI o)[z]'(by rw [oI_len]; exact hzl) = (o[z] : Int) := by simp [oI]
            rw [hx] at v0
            clear hx
            have hjn := hol o[z] (List.getElem_mem hzl)
            obtain ⟨b3, g3, e3, hb3z, i0', i1', i2', i3'⟩ := hrw2.inst o[z] (by rw [HN.out]; exact hjn)
            cases e3
            obtain ⟨b4, g4, e4, hb4z, j0', j1', j2', j3'⟩ := hrw2.inst k hkl
            cases e4
            rw [← gt_eq hkl, HG.out] at j1'
            simp only at j1'
            have HS : Hid (sameA l k o[z] = ((l[o[z]]'(by rw [HN.out]; exact hjn)).2.1 == xa)) := by show _ = _; unfold sameA; rw [HG.out, gt_eq (by rw [HN.out]; exact hjn)]
            generalize (l[o[z]]'(by rw [HN.out]; exact hjn)).2.1 = Y at *
            clear i0' i2' i3' j0' j2' j3' f0 f1 f2 f3
            have z0 : (0 : Int) ≤ (z : Int) := by omega
            have z1 : (z : Int) < (m : Int) := by omega
            have z2 : (0 : Int) ≤ (k : Int) := by omega
            have z3 : (k : Int) < (n : Int) := by omega
            by_cases hs : Y = xa
            · have ds : (Y == xa) = true := by simpa using hs
              have HF : Hid (okP l = false) := okP_no (k := k + 1) (by rw [HN.out]; omega) (by rw [run_step HR.out, step_lock H9.out, if_pos (by rw [any_yes hzl (by rw [HS.out]; exact ds)]; rfl)])
              clear hs HS
              generalize o[z] = y at *
              have z4 : (0 : Int) ≤ (y : Int) := by omega
              have z5 : (y : Int) < (n : Int) := by omega
              clear hown hownu hownr HT
              go_wp2
              go_quiet (fail)
              go_wp2
              go_ret2
              exact ⟨⟨none, 0, 0, false, rfl, HF.out, fun h => by cases h⟩, by rw [HU.out]; exact hBw.trans ((bel_draws hbx _).mono (by omega))⟩
            · have ds : (Y == xa) = false := by simpa using hs
              have HK : Hid (∀ j, (hj : j < o.length) → j < z + 1 → sameA l k o[j] = false) := fun j hj hlt => (if e : j = z then by subst e; rw [HS.out]; exact ds else HT.out j hj (by omega))
              clear hs HS
              generalize o[z] = y at *
              have z4 : (0 : Int) ≤ (y : Int) := by omega
              have z5 : (y : Int) < (n : Int) := by omega
              go_wp2
              go_quiet (fail)
              go_wp2
              go_roundw
              case rel => exact ⟨z + 1, by omega, by go_num, HK, bel_draws hbx _⟩
              case measure => simp [intOf]; omega
          · have t0 : decide ((z : Int) < (m : Int)) = false := by simpa using hlt2
            have HA : Hid (o.any (sameA l k) = false) := any_no (fun j hj => HT.out j hj (by rw [HM.out] at hj; omega))
            have hownx := own_below hown hbx
            have hownux := own_below hownu hbx
            have hownrx := own_below hownr hbx
            have hzx := hbx.size
            by_cases hm : 2 ≤ m
            · have HF : Hid (okP l = false) := okP_no (k := k + 1) (by rw [HN.out]; omega) (by rw [run_step HR.out, step_lock H9.out, if_pos (by rw [HA.out, HM.out]; simp [hm])])
              have d2 : decide ((2 : Int) < (m : Int) + 1) = true := decide_eq_true (by omega)
              go_wp2_with (at_builtin; refine wpList_app tI _ rfl _ _ rfl base q d (oI o) m (by rw [oI_len]; exact HM.out) rfl (own_below hownx ((Below.refl _ _).alloc (Nat.le_refl _) _)) _ _ [(k : Int)] 1 rfl rfl (rd_block (heap_at (by first | rfl | simp)) 1 rfl rfl) (by omega) (by simp; omega) (m + 1) rfl ?_; intro p6 c6 w6 ho6 hb6 hst6)
              go_ret2
              exact ⟨⟨none, 0, 0, false, rfl, HF.out, fun h => by cases h⟩, by rw [HU.out]; exact hBw.trans ((hbx.mono (by omega)).trans (((Below.refl _ _).alloc (by omega) _).trans (hb6.mono (by omega))))⟩
            · have d2 : decide ((2 : Int) < (m : Int) + 1) = false := decide_eq_false (by omega)
              have HS : Hid (runO l (k + 1) = some (o ++ [k])) := by show _ = _; rw [run_step HR.out, step_lock H9.out, if_neg (by rw [HA.out, HM.out]; simp; omega)]
              go_wp2_with (at_builtin; refine wpList_app tI _ rfl _ _ rfl base q d (oI o) m (by rw [oI_len]; exact HM.out) rfl (own_below hownx ((Below.refl _ _).alloc (Nat.le_refl _) _)) _ _ [(k : Int)] 1 rfl rfl (rd_block (heap_at (by first | rfl | simp)) 1 rfl rfl) (by omega) (by simp; omega) (m + 1) rfl ?_; intro p6 c6 w6 ho6 hb6 hst6; have hz6 := hb6.size; simp at hz6)
              have hB6 := ((Below.refl base wr).alloc (by omega) (Obj.cells #[Value.int IntKind.i64 (k : Int)] 3)).trans hb6
              go_roundw
              case rel => exact ⟨k + 1, m + 1, o ++ [k], p6, c6, by omega, by go_num, rfl, by show _ = _; rw [List.length_append, HM.out]; rfl, HS, by rw [oI_snoc]; exact ho6, by rw [HO.out]; exact own_underE hownux hB6 (fun g e => by cases e; omega), own_underE hownrx hB6 (fun g e => (hblk g e).2), by omega, hBw.trans ((hbx.mono (by omega)).trans (hB6.mono (by omega)))⟩
              case measure => simp [intOf]; omega
      · have d9 : (xo == 9) = false := by simpa using h9
        have H9 : Hid ((gt l k).1 ≠ 9) := by show _ ≠ _; rw [HG.out]; exact h9
        by_cases h10 : xo = 10
        · subst h10
          have H10 : Hid ((gt l k).1 = 10) := by show _ = _; rw [HG.out]
          clear d9 h9
          rcases last_cases o with rfl | ⟨o1, j, rfl⟩
          · have HF : Hid (okP l = false) := okP_no (k := k + 1) (by rw [HN.out]; omega) (by rw [run_step HR.out, step_un0 H10.out])
            obtain rfl : m = 0 := by rw [← HM.out]; rfl
            go_wp2
            go_quiet (fail)
            go_wp2
            go_ret2
            exact ⟨⟨none, 0, 0, false, rfl, HF.out, fun h => by cases h⟩, by rw [HU.out]; exact hBw.trans (bel_draws (Below.refl _ _) _)⟩
          · obtain ⟨m1, hm1⟩ : ∃ m1, o1.length = m1 := ⟨_, rfl⟩
            have HMM : Hid (m = m1 + 1) := by show _ = _; rw [← HM.out, List.length_append, hm1]; rfl
            have HM1 : Hid (o1.length = m1) := hm1
            clear hm1
            have hjn : j < n := hol j (by simp)
            have hjk : j < k := hHd.lt j (by simp)
            have hm0 := HMM.out
            have dz : ((m : Int) == 0) = false := by simp; omega
            have q1 : (m : Int) - 1 = (m1 : Int) := by omega
            have q2 : (m1 : Int) < (m : Int) := by omega
            have q3 : m1 ≤ 1 := by omega
            have hcap := own_cap hown
            rw [oI_len, HM.out] at hcap
            have q4 : (m1 : Int) ≤ (d : Int) := by omega
            have q5 : m1 ≤ d := by omega
            have hlenm : (oI (o1 ++ [j])).length = m := by rw [oI_len, HM.out]
            rcases own_q hown with rfl | ⟨bq, rfl⟩
            · obtain ⟨b', f', e', _⟩ := (own_rd hown).num m1 (by rw [hlenm]; omega)
              cases e'
            obtain ⟨b', f', e', hbq, v0⟩ := (own_rd hown).num m1 (by rw [hlenm]; omega)
            cases e'
            have hx : (oI (o1 ++ [j]))[m1]'(by rw [hlenm]; omega) = (j : Int) := by
              simp only [oI_snoc]
              rw [List.getElem_append_right (by rw [oI_len, HM1.out]; exact Nat.le_refl _)]
              simp [oI_len, HM1.out]
            rw [hx, Nat.zero_add] at v0
            have hownT : Own eI wq base 3 (some ⟨bq, 0, none⟩) d (oI o1) := by
              have h := own_take hown (by rw [hlenm]; omega) m1 (by rw [hlenm]; omega)
              have e : (oI (o1 ++ [j])).take m1 = oI o1 := by
                rw [oI_snoc, List.take_append_of_le_length (by rw [oI_len, HM1.out]; exact Nat.le_refl _), List.take_of_length_le (by rw [oI_len, HM1.out]; exact Nat.le_refl _)]
              rwa [e] at h
            clear hx hm0 hlenm hcap hown
            obtain ⟨b3, g3, e3, hb3z, i0', i1', i2', i3'⟩ := hrw.inst j (by rw [HN.out]; exact hjn)
            cases e3
            have HJ : Hid ((gt l j).2.1 = (l[j]'(by rw [HN.out]; exact hjn)).2.1) := by show _ = _; rw [gt_eq (by rw [HN.out]; exact hjn)]
            generalize (l[j]'(by rw [HN.out]; exact hjn)).2.1 = Y at *
            clear i0' i2' i3'
            have z2 : (0 : Int) ≤ (k : Int) := by omega
            have z3 : (k : Int) < (n : Int) := by omega
            have z4 : (0 : Int) ≤ (j : Int) := by omega
            have z5 : (j : Int) < (n : Int) := by omega
            have z6 : (0 : Int) ≤ (m1 : Int) := by omega
            by_cases hs : Y = xa
            · have HSA : Hid ((gt l j).2.1 = (gt l k).2.1) := by show _ = _; rw [HJ.out, HG.out]; exact hs
              subst hs
              go_wp2
              go_quiet (fail)
              go_wp2
              have hBq : Below wq.heap.size wq (wq.drewN nq) := bel_draws (Below.refl _ _) _
              go_loopw [10] (fun t wx => ∃ z : Nat, z ≤ ma ∧ t = .int .i64 z ∧ Hid (∀ y, (hy : y < (arI l n).length) → y < z → inA l (arI l n)[y] j = inA l (arI l n)[y] k) ∧ Below wq.heap.size wq wx) (fun t _ => ma - (intOf t).toNat)
              case atStart => exact ⟨0, Nat.zero_le _, rfl, fun j _ hj => by omega, hBq⟩
              case round =>
                obtain ⟨z, hz, rfl, HT, hbx⟩ := hrel
                clear hBq v0 f0 f1 f2 f3 i1'
                by_cases hlt2 : z < ma
                · have hzl : z < (arI l n).length := by rw [← HMA.out]; exact hlt2
                  have hzl' : z < (arL l n).length := by rw [arL_len]; exact hzl
                  obtain ⟨ba, oa, rfl, hba, a0, a1, a2, a3⟩ := ((own_rd hownr).below hbx).area z hzl'
                  have hel : (arL l n)[z] = arE l (arI l n)[z] := by simp [arL]
                  rw [hel] at a0 a1 a2 a3
                  have hh1 := fun w' => has_c ((arI l n)[z] + 1) ((arI l n)[z] + reachI (gt l (arI l n)[z])) ((arI l n)[z]) ((gt l (arI l n)[z]).1 == 8) j w' _ (has_iff hal (arI l n)[z] j)
                  have hh2 := fun w' => has_c ((arI l n)[z] + 1) ((arI l n)[z] + reachI (gt l (arI l n)[z])) ((arI l n)[z]) ((gt l (arI l n)[z]).1 == 8) k w' _ (has_iff hal (arI l n)[z] k)
                  have hmem : (arI l n)[z] ∈ arI l n := List.getElem_mem hzl
                  simp only [arE] at a0 a1 a2 a3
                  have z7 : (0 : Int) ≤ (z : Int) := by omega
                  have z8 : (z : Int) < (ma : Int) := by omega
                  clear hel
                  generalize ((arI l n)[z] : Int) + reachI (gt l (arI l n)[z]) = T at *
                  generalize ((gt l (arI l n)[z]).1 == 8) = D at *
                  have HFZ : Hid (∀ y, (hy : y < (arI l n).length) → y < z + 1 → (y < z ∨ (arI l n)[y] = (arI l n)[z])) := fun y hy hlt => (if e : y = z then .inr (by subst e; rfl) else .inl (by omega))
                  have HM2 : Hid ((arI l n)[z] ∈ arI l n) := hmem
                  clear hmem
                  generalize (arI l n)[z] = F at *
                  by_cases hd : inA l F j = inA l F k
                  · have dd : (inA l F j == inA l F k) = true := by simpa using hd
                    have HK : Hid (∀ y, (hy : y < (arI l n).length) → y < z + 1 → inA l (arI l n)[y] j = inA l (arI l n)[y] k) := fun y hy hlt => (HFZ.out y hy hlt).elim (fun h => HT.out y hy h) (fun h => by rw [h]; exact hd)
                    rw [hd] at hh1
                    clear hd dd
                    generalize inA l F k = D2 at *
                    generalize (F : Int) = G at *
                    go_wp2
                    refine wp_region_held_drew (S := fun w' => Below wr.heap.size wr w') (by kernel_rfl) (Below.refl _ _).drew (fun hHeld => ?_)
                    refine wpAnyH_take (i := 0) (oi := _) (v := ?_) rfl (by kernel_rfl) (by kernel_rfl) (by kernel_rfl) (fun _ _ _ h => h) (Or.inl ⟨by rfl, ?_⟩) hHeld ?_
                    rotate_left
                    · intro w' hSw
                      (go_simp <;> with_reducible rfl)
                    try simp only [Act.put, List.getElem_toArray, List.getElem_cons_zero, List.setIfInBounds_toArray, List.set_cons_zero, List.set_cons_succ]
                    refine wpAnyH_take (i := 1) (oi := _) (v := ?_) rfl (by kernel_rfl) (by kernel_rfl) (by kernel_rfl) (fun _ _ _ h => h) (Or.inl ⟨by rfl, ?_⟩) hHeld ?_
                    rotate_left
                    · intro w' hSw
                      (go_simp <;> with_reducible rfl)
                    try simp only [Act.put, List.getElem_toArray, List.getElem_cons_succ, List.getElem_cons_zero, List.setIfInBounds_toArray, List.set_cons_zero, List.set_cons_succ]
                    refine wpAnyH_take (i := 2) (oi := _) (v := ?_) rfl (by kernel_rfl) (by kernel_rfl) (by kernel_rfl) (fun _ _ _ h => h) (Or.inl ⟨by rfl, ?_⟩) hHeld ?_
                    rotate_left
                    · intro w' hSw
                      (go_simp <;> with_reducible rfl)
                    try simp only [Act.put, List.getElem_toArray, List.getElem_cons_succ, List.getElem_cons_zero, List.setIfInBounds_toArray, List.set_cons_zero, List.set_cons_succ]
                    refine wpAnyH_take (i := 3) (oi := _) (v := ?_) rfl (by kernel_rfl) (by kernel_rfl) (by kernel_rfl) (fun _ _ _ h => h) (Or.inl ⟨by rfl, ?_⟩) hHeld ?_
                    rotate_left
                    · intro w' hSw
                      have k0 := (hSw.cell (p := ⟨ba, oa + z * 4, none⟩) hba).trans a0
                      have k1 := (hSw.cell (p := ⟨ba, oa + z * 4 + 1, none⟩) hba).trans a1
                      have k2 := (hSw.cell (p := ⟨ba, oa + z * 4 + 2, none⟩) hba).trans a2
                      have k3 := (hSw.cell (p := ⟨ba, oa + z * 4 + 3, none⟩) hba).trans a3
                      (go_simp <;> with_reducible rfl)
                    try simp only [Act.put, List.getElem_toArray, List.getElem_cons_succ, List.getElem_cons_zero, List.setIfInBounds_toArray, List.set_cons_zero, List.set_cons_succ]
                    refine wpAnyH_take (i := 4) (oi := _) (v := ?_) rfl (by kernel_rfl) (by kernel_rfl) (by kernel_rfl) (fun _ _ _ h => h) (Or.inl ⟨by rfl, ?_⟩) hHeld ?_
                    rotate_left
                    · intro w' hSw
                      (go_simp <;> with_reducible rfl)
                    try simp only [Act.put, List.getElem_toArray, List.getElem_cons_succ, List.getElem_cons_zero, List.setIfInBounds_toArray, List.set_cons_zero, List.set_cons_succ]
                    refine wpAnyH_take (i := 6) (oi := _) (v := ?_) rfl (by kernel_rfl) (by kernel_rfl) (by kernel_rfl) (fun _ _ _ h => h) (Or.inl ⟨by rfl, ?_⟩) hHeld ?_
                    rotate_left
                    · intro w' hSw
                      (go_simp <;> with_reducible rfl)
                    try simp only [Act.put, List.getElem_toArray, List.getElem_cons_succ, List.getElem_cons_zero, List.setIfInBounds_toArray, List.set_cons_zero, List.set_cons_succ]
                    refine wpAnyH_take (i := 7) (oi := _) (v := ?_) rfl (by kernel_rfl) (by kernel_rfl) (by kernel_rfl) (fun _ _ _ h => h) (Or.inl ⟨by rfl, ?_⟩) hHeld ?_
                    rotate_left
                    · intro w' hSw
                      (go_simp <;> with_reducible rfl)
                    try simp only [Act.put, List.getElem_toArray, List.getElem_cons_succ, List.getElem_cons_zero, List.setIfInBounds_toArray, List.set_cons_zero, List.set_cons_succ]
                    refine wpAnyH_take (i := 8) (oi := _) (v := ?_) rfl (by kernel_rfl) (by kernel_rfl) (by kernel_rfl) (fun _ _ _ h => h) (Or.inl ⟨by rfl, ?_⟩) hHeld ?_
                    rotate_left
                    · intro w' hSw
                      (go_simp <;> with_reducible rfl)
                    try simp only [Act.put, List.getElem_toArray, List.getElem_cons_succ, List.getElem_cons_zero, List.setIfInBounds_toArray, List.set_cons_zero, List.set_cons_succ]
                    refine wpAnyH_take (i := 9) (oi := _) (v := ?_) rfl (by kernel_rfl) (by kernel_rfl) (by kernel_rfl) (fun _ _ _ h => h) (Or.inl ⟨by rfl, ?_⟩) hHeld ?_
                    rotate_left
                    · intro w' hSw
                      have k0 := (hSw.cell (p := ⟨ba, oa + z * 4, none⟩) hba).trans a0
                      have k1 := (hSw.cell (p := ⟨ba, oa + z * 4 + 1, none⟩) hba).trans a1
                      have k2 := (hSw.cell (p := ⟨ba, oa + z * 4 + 2, none⟩) hba).trans a2
                      have k3 := (hSw.cell (p := ⟨ba, oa + z * 4 + 3, none⟩) hba).trans a3
                      (go_simp <;> with_reducible rfl)
                    try simp only [Act.put, List.getElem_toArray, List.getElem_cons_succ, List.getElem_cons_zero, List.setIfInBounds_toArray, List.set_cons_zero, List.set_cons_succ]
                    refine wpAnyH_take (i := 10) (oi := _) (v := ?_) rfl (by kernel_rfl) (by kernel_rfl) (by kernel_rfl) (fun _ _ _ h => h) (Or.inl ⟨by rfl, ?_⟩) hHeld ?_
                    rotate_left
                    · intro w' hSw
                      (go_simp <;> with_reducible rfl)
                    try simp only [Act.put, List.getElem_toArray, List.getElem_cons_succ, List.getElem_cons_zero, List.setIfInBounds_toArray, List.set_cons_zero, List.set_cons_succ]
                    refine wpAnyH_ready (rs := [5]) (by kernel_rfl) (by simp) ?_
                    refine AllReadyH.cons (o := _) rfl (fun K hK => ?_) AllReadyH.nil
                    go_simp
                    go_at_call 46
                    (with_reducible (refine (hh1 _).mono ?_))
                    rintro e w8 ⟨rfl, b8⟩
                    have B8 : Below wr.heap.size wr w8 := (Below.refl _ _).drew.trans b8
                    refine hK.out _ _ B8 (fun _ => ?_)
                    refine wpAnyH_weaken (S' := fun w' => Below w8.heap.size w8 w') (fun w' h => bel_call B8 (Nat.le_refl _) h) _ _ _ _ ?_
                    clear hHeld hK K
                    have hHeld : Below w8.heap.size w8 w8 := Below.refl _ _
                    try simp only [Act.put, List.getElem_toArray, List.getElem_cons_succ, List.getElem_cons_zero, List.setIfInBounds_toArray, List.set_cons_zero, List.set_cons_succ]
                    refine wpAnyH_ready (rs := [11]) (by kernel_rfl) (by simp) ?_
                    refine AllReadyH.cons (o := _) rfl (fun K hK => ?_) AllReadyH.nil
                    go_simp
                    go_at_call 46
                    (with_reducible (refine (hh2 _).mono ?_))
                    rintro e w9 ⟨rfl, b9⟩
                    refine hK.out _ _ b9 (fun _ => ?_)
                    refine wpAnyH_weaken (S' := fun w' => Below w9.heap.size w9 w') (fun w' h => bel_call b9 (Nat.le_refl _) h) _ _ _ _ ?_
                    clear hHeld hK K
                    have hHeld : Below w9.heap.size w9 w9 := Below.refl _ _
                    try simp only [Act.put, List.getElem_toArray, List.getElem_cons_succ, List.getElem_cons_zero, List.setIfInBounds_toArray, List.set_cons_zero, List.set_cons_succ]
                    refine wpAnyH_take (i := 12) (oi := _) (v := ?_) rfl (by kernel_rfl) (by kernel_rfl) (by kernel_rfl) (fun _ _ _ h => h) (Or.inl ⟨by rfl, ?_⟩) hHeld ?_
                    rotate_left
                    · intro w' hSw
                      (go_simp <;> with_reducible rfl)
                    try simp only [Act.put, List.getElem_toArray, List.getElem_cons_succ, List.getElem_cons_zero, List.setIfInBounds_toArray, List.set_cons_zero, List.set_cons_succ]
                    refine wpAnyH_done (by kernel_rfl) ?_ _
                    go_wp2
                    go_roundw
                    case rel => exact ⟨z + 1, by omega, by go_num, HK, bel_call hbx (Nat.le_refl _) (bel_call B8 (Nat.le_refl _) b9)⟩
                    case measure => simp [intOf]; omega
                  · have hne : ¬ scL l j = scL l k := by
                      intro e
                      have := (scope_iff (by rw [HN.out]; exact hn)).1 e F (by rw [HN.out]; exact HM2.out)
                      exact hd this
                    have HF : Hid (okP l = false) := okP_no (k := k + 1) (by rw [HN.out]; omega) (by rw [run_step HR.out, step_un H10.out, if_neg (fun e => hne (site_eq.1 e).2)])
                    have dd : (inA l F j == inA l F k) = false := by simpa using hd
                    clear hd hne
                    generalize inA l F j = D1 at *
                    generalize inA l F k = D2 at *
                    generalize (F : Int) = G at *
                    go_wp2
                    refine wp_region_held_drew (S := fun w' => Below wr.heap.size wr w') (by kernel_rfl) (Below.refl _ _).drew (fun hHeld => ?_)
                    refine wpAnyH_take (i := 0) (oi := _) (v := ?_) rfl (by kernel_rfl) (by kernel_rfl) (by kernel_rfl) (fun _ _ _ h => h) (Or.inl ⟨by rfl, ?_⟩) hHeld ?_
                    rotate_left
                    · intro w' hSw
                      (go_simp <;> with_reducible rfl)
                    try simp only [Act.put, List.getElem_toArray, List.getElem_cons_zero, List.setIfInBounds_toArray, List.set_cons_zero, List.set_cons_succ]
                    refine wpAnyH_take (i := 1) (oi := _) (v := ?_) rfl (by kernel_rfl) (by kernel_rfl) (by kernel_rfl) (fun _ _ _ h => h) (Or.inl ⟨by rfl, ?_⟩) hHeld ?_
                    rotate_left
                    · intro w' hSw
                      (go_simp <;> with_reducible rfl)
                    try simp only [Act.put, List.getElem_toArray, List.getElem_cons_succ, List.getElem_cons_zero, List.setIfInBounds_toArray, List.set_cons_zero, List.set_cons_succ]
                    refine wpAnyH_take (i := 2) (oi := _) (v := ?_) rfl (by kernel_rfl) (by kernel_rfl) (by kernel_rfl) (fun _ _ _ h => h) (Or.inl ⟨by rfl, ?_⟩) hHeld ?_
                    rotate_left
                    · intro w' hSw
                      (go_simp <;> with_reducible rfl)
                    try simp only [Act.put, List.getElem_toArray, List.getElem_cons_succ, List.getElem_cons_zero, List.setIfInBounds_toArray, List.set_cons_zero, List.set_cons_succ]
                    refine wpAnyH_take (i := 3) (oi := _) (v := ?_) rfl (by kernel_rfl) (by kernel_rfl) (by kernel_rfl) (fun _ _ _ h => h) (Or.inl ⟨by rfl, ?_⟩) hHeld ?_
                    rotate_left
                    · intro w' hSw
                      have k0 := (hSw.cell (p := ⟨ba, oa + z * 4, none⟩) hba).trans a0
                      have k1 := (hSw.cell (p := ⟨ba, oa + z * 4 + 1, none⟩) hba).trans a1
                      have k2 := (hSw.cell (p := ⟨ba, oa + z * 4 + 2, none⟩) hba).trans a2
                      have k3 := (hSw.cell (p := ⟨ba, oa + z * 4 + 3, none⟩) hba).trans a3
                      (go_simp <;> with_reducible rfl)
                    try simp only [Act.put, List.getElem_toArray, List.getElem_cons_succ, List.getElem_cons_zero, List.setIfInBounds_toArray, List.set_cons_zero, List.set_cons_succ]
                    refine wpAnyH_take (i := 4) (oi := _) (v := ?_) rfl (by kernel_rfl) (by kernel_rfl) (by kernel_rfl) (fun _ _ _ h => h) (Or.inl ⟨by rfl, ?_⟩) hHeld ?_
                    rotate_left
                    · intro w' hSw
                      (go_simp <;> with_reducible rfl)
                    try simp only [Act.put, List.getElem_toArray, List.getElem_cons_succ, List.getElem_cons_zero, List.setIfInBounds_toArray, List.set_cons_zero, List.set_cons_succ]
                    refine wpAnyH_take (i := 6) (oi := _) (v := ?_) rfl (by kernel_rfl) (by kernel_rfl) (by kernel_rfl) (fun _ _ _ h => h) (Or.inl ⟨by rfl, ?_⟩) hHeld ?_
                    rotate_left
                    · intro w' hSw
                      (go_simp <;> with_reducible rfl)
                    try simp only [Act.put, List.getElem_toArray, List.getElem_cons_succ, List.getElem_cons_zero, List.setIfInBounds_toArray, List.set_cons_zero, List.set_cons_succ]
                    refine wpAnyH_take (i := 7) (oi := _) (v := ?_) rfl (by kernel_rfl) (by kernel_rfl) (by kernel_rfl) (fun _ _ _ h => h) (Or.inl ⟨by rfl, ?_⟩) hHeld ?_
                    rotate_left
                    · intro w' hSw
                      (go_simp <;> with_reducible rfl)
                    try simp only [Act.put, List.getElem_toArray, List.getElem_cons_succ, List.getElem_cons_zero, List.setIfInBounds_toArray, List.set_cons_zero, List.set_cons_succ]
                    refine wpAnyH_take (i := 8) (oi := _) (v := ?_) rfl (by kernel_rfl) (by kernel_rfl) (by kernel_rfl) (fun _ _ _ h => h) (Or.inl ⟨by rfl, ?_⟩) hHeld ?_
                    rotate_left
                    · intro w' hSw
                      (go_simp <;> with_reducible rfl)
                    try simp only [Act.put, List.getElem_toArray, List.getElem_cons_succ, List.getElem_cons_zero, List.setIfInBounds_toArray, List.set_cons_zero, List.set_cons_succ]
                    refine wpAnyH_take (i := 9) (oi := _) (v := ?_) rfl (by kernel_rfl) (by kernel_rfl) (by kernel_rfl) (fun _ _ _ h => h) (Or.inl ⟨by rfl, ?_⟩) hHeld ?_
                    rotate_left
                    · intro w' hSw
                      have k0 := (hSw.cell (p := ⟨ba, oa + z * 4, none⟩) hba).trans a0
                      have k1 := (hSw.cell (p := ⟨ba, oa + z * 4 + 1, none⟩) hba).trans a1
                      have k2 := (hSw.cell (p := ⟨ba, oa + z * 4 + 2, none⟩) hba).trans a2
                      have k3 := (hSw.cell (p := ⟨ba, oa + z * 4 + 3, none⟩) hba).trans a3
                      (go_simp <;> with_reducible rfl)
                    try simp only [Act.put, List.getElem_toArray, List.getElem_cons_succ, List.getElem_cons_zero, List.setIfInBounds_toArray, List.set_cons_zero, List.set_cons_succ]
                    refine wpAnyH_take (i := 10) (oi := _) (v := ?_) rfl (by kernel_rfl) (by kernel_rfl) (by kernel_rfl) (fun _ _ _ h => h) (Or.inl ⟨by rfl, ?_⟩) hHeld ?_
                    rotate_left
                    · intro w' hSw
                      (go_simp <;> with_reducible rfl)
                    try simp only [Act.put, List.getElem_toArray, List.getElem_cons_succ, List.getElem_cons_zero, List.setIfInBounds_toArray, List.set_cons_zero, List.set_cons_succ]
                    refine wpAnyH_ready (rs := [5]) (by kernel_rfl) (by simp) ?_
                    refine AllReadyH.cons (o := _) rfl (fun K hK => ?_) AllReadyH.nil
                    go_simp
                    go_at_call 46
                    (with_reducible (refine (hh1 _).mono ?_))
                    rintro e w8 ⟨rfl, b8⟩
                    have B8 : Below wr.heap.size wr w8 := (Below.refl _ _).drew.trans b8
                    refine hK.out _ _ B8 (fun _ => ?_)
                    refine wpAnyH_weaken (S' := fun w' => Below w8.heap.size w8 w') (fun w' h => bel_call B8 (Nat.le_refl _) h) _ _ _ _ ?_
                    clear hHeld hK K
                    have hHeld : Below w8.heap.size w8 w8 := Below.refl _ _
                    try simp only [Act.put, List.getElem_toArray, List.getElem_cons_succ, List.getElem_cons_zero, List.setIfInBounds_toArray, List.set_cons_zero, List.set_cons_succ]
                    refine wpAnyH_ready (rs := [11]) (by kernel_rfl) (by simp) ?_
                    refine AllReadyH.cons (o := _) rfl (fun K hK => ?_) AllReadyH.nil
                    go_simp
                    go_at_call 46
                    (with_reducible (refine (hh2 _).mono ?_))
                    rintro e w9 ⟨rfl, b9⟩
                    refine hK.out _ _ b9 (fun _ => ?_)
                    refine wpAnyH_weaken (S' := fun w' => Below w9.heap.size w9 w') (fun w' h => bel_call b9 (Nat.le_refl _) h) _ _ _ _ ?_
                    clear hHeld hK K
                    have hHeld : Below w9.heap.size w9 w9 := Below.refl _ _
                    try simp only [Act.put, List.getElem_toArray, List.getElem_cons_succ, List.getElem_cons_zero, List.setIfInBounds_toArray, List.set_cons_zero, List.set_cons_succ]
                    refine wpAnyH_take (i := 12) (oi := _) (v := ?_) rfl (by kernel_rfl) (by kernel_rfl) (by kernel_rfl) (fun _ _ _ h => h) (Or.inl ⟨by rfl, ?_⟩) hHeld ?_
                    rotate_left
                    · intro w' hSw
                      (go_simp <;> with_reducible rfl)
                    try simp only [Act.put, List.getElem_toArray, List.getElem_cons_succ, List.getElem_cons_zero, List.setIfInBounds_toArray, List.set_cons_zero, List.set_cons_succ]
                    refine wpAnyH_done (by kernel_rfl) ?_ _
                    go_wp2
                    go_ret2
                    exact ⟨⟨none, 0, 0, false, rfl, HF.out, fun h => by cases h⟩, by rw [HU.out]; exact hBw.trans ((bel_call hbx (Nat.le_refl _) (bel_call B8 (Nat.le_refl _) b9)).mono (by omega))⟩
                · have t0 : decide ((z : Int) < (ma : Int)) = false := by simpa using hlt2
                  have hsc : scL l j = scL l k := (scope_iff (by rw [HN.out]; exact hn)).2 (fun F hF => by
                    rw [HN.out] at hF
                    obtain ⟨y, hy, rfl⟩ := List.mem_iff_getElem.1 hF
                    exact HT.out y hy (by rw [← HMA.out] at hy; omega))
                  have HS : Hid (runO l (k + 1) = some o1) := by show _ = _; rw [run_step HR.out, step_un H10.out, if_pos (site_eq.2 ⟨HSA.out, hsc⟩)]
                  have HO : Hid (outO l (k + 1) = (outO l k).set j k) := out_un H10.out HR.out (by simp)
                  clear hsc
                  have hownux := own_below hownu hbx
                  obtain ⟨b', e', hb1', hb2', hfz', ⟨u, hu⟩, hset⟩ := own_setI hownux j (by rw [hlU]; exact hjn)
                  cases e'
                  have hzx := hbx.size
                  have hownTx := own_below hownT hbx
                  have hownrx := own_below hownr hbx
                  go_wp2
                  go_roundw
                  case rel => exact ⟨k + 1, m1, o1, _, _, by omega, by go_num, rfl, HM1.out, HS, own_lowE7 hownTx (by simp; omega) _, by rw [HO.out]; exact hset _, own_lowE7 hownrx (by simp; omega) _, by simp [World.setCell]; omega, (hBw.trans (hbx.mono (by omega))).setCell (Nat.le_refl _) _⟩
                  case measure => simp [intOf]; omega
            · have ds : (Y == xa) = false := by simpa using hs
              have HF : Hid (okP l = false) := okP_no (k := k + 1) (by rw [HN.out]; omega) (by rw [run_step HR.out, step_un H10.out, if_neg (fun e => hs (by have := (site_eq.1 e).1; rw [HJ.out, HG.out] at this; exact this))])
              clear hs
              go_wp2
              go_quiet (fail)
              go_wp2
              go_ret2
              exact ⟨⟨none, 0, 0, false, rfl, HF.out, fun h => by cases h⟩, by rw [HU.out]; exact hBw.trans (bel_draws (Below.refl _ _) _)⟩
        · have d10 : (xo == 10) = false := by simpa using h10
          have H10 : Hid ((gt l k).1 ≠ 10) := by show _ ≠ _; rw [HG.out]; exact h10
          have HS : Hid (runO l (k + 1) = some o) := by show _ = _; rw [run_step HR.out, step_other H9.out H10.out]
          have HO : Hid (outO l (k + 1) = outO l k) := out_other H10.out
          go_wp2
          go_roundw
          case rel => exact ⟨k + 1, m, o, q, d, by omega, by go_num, rfl, HM, HS, hown, by rw [HO.out]; exact hownu, hownr, hbs, hBw⟩
          case measure => simp [intOf]; omega
    · obtain rfl : k = n := by omega
      by_cases hm : 0 < m
      · have d : decide ((0 : Int) < (m : Int)) = true := by simpa using hm
        have HF : Hid (okP l = false) := by
          show _ = _
          unfold okP
          rw [HN.out, HR.out]
          exact decide_eq_false (by intro e; simp at e; have := HM.out; rw [e] at this; simp at this; omega)
        go_wp2
        go_ret2
        exact ⟨⟨none, 0, 0, false, rfl, HF.out, fun h => by cases h⟩, by rw [HU.out]; exact hBw⟩
      · have d : decide ((0 : Int) < (m : Int)) = false := by simpa using hm
        have HF : Hid (okP l = true) := by
          show _ = _
          unfold okP
          rw [HN.out, HR.out]
          have : o = [] := List.eq_nil_of_length_eq_zero (by rw [HM.out]; omega)
          exact decide_eq_true (by rw [this])
        go_wp2
        go_ret2
        exact ⟨⟨_, _, k, true, rfl, HF.out, fun _ => ⟨rfl, by unfold pairL; rw [HN.out, HU.out]; exact hownu⟩⟩, by rw [HU.out]; exact hBw⟩
end Go.Proofs.Ytonholadabebbaa
