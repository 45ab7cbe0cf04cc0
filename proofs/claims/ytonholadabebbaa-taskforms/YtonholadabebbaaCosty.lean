/-
  Put together:
  How often each instruction is done, by the document.
  How long a program is, by the document: the state of its walk.
  How long a program is, by the document.
-/
import Derived.Test.YtonholadabebbaaPlains
import Derived.Test.YtonholadabebbaaRefx
import Derived.Test.YtonholadabebbaaCostx
import Derived.Test.YtonholadabebbaaRefc
namespace Go.Proofs.Ytonholadabebbaa
open Go.ChangeShapes Go.WideShapes Go.ChangeAt Go.RowKit
attribute [local go_sem ↓] Go.wp_at_zero Go.wp_at_succ

theorem Try.info49 : (Try.prog.info? 2).map (fun i => (i.zero, i.size, i.bytes)) = some (some (.int .i64 0), 1, 8) := by kernel_rfl
theorem own_setL {w : World} {base : Nat} {e : TypeId} {p : Option Addr} {c : Nat} {l : List Int} (h : Own eI w base e p c l) (k : Nat) (hk : k < l.length) :
    ∃ b, p = some ⟨b, 0, none⟩ ∧ base ≤ b ∧ b < w.heap.size ∧ w.frozen? ⟨b, k, none⟩ = false ∧ w.cell? ⟨b, k, none⟩ = some (.int .i64 l[k]) ∧ ∀ v, Own eI (w.setCell ⟨b, k, none⟩ (.int .i64 v)) base e p c (l.set k v) := by
  have hc := (own_rd h).num k hk
  rcases h.2 with ⟨h1, h2⟩ | ⟨g, cap, cur, h1, h2, h3, h4, h5, h6, h7⟩
  · simp only [Value.slice.injEq] at h1
    omega
  · simp only [Value.slice.injEq, true_and] at h1
    obtain ⟨rfl, rfl⟩ := h1
    obtain ⟨b', o', e', _, hcell⟩ := hc
    cases e'
    refine ⟨g, rfl, h2, (Array.getElem?_eq_some_iff.1 h3).1, by simp [World.frozen?, h3], by rw [Nat.zero_add] at hcell; exact hcell, fun v => ?_⟩
    refine ⟨fl_length eI _, .inr ⟨g, c, cur.setIfInBounds k (.int .i64 v), by simp, h2, ?_, by simpa using h4, h5, by simpa using h6, ?_⟩⟩
    · rw [setCell_eq_setRow w g k _ _ _ _ h3]
      exact setRow_heap w g _ _ _ _ h3
    · have e1 : (fl eI (l.set k v)) = (fl eI l).set k (.int .i64 v) := by rw [flI, flI, List.map_set]
      rw [e1, ← h7, Array.toList_setIfInBounds, List.length_set, List.take_set]
theorem ar_get {l : List In} {n a : Nat} (ha : a < (arI l n).length) : (arL l n)[a]'(by rw [arL_len]; exact ha) = arE l (arI l n)[a] := by simp [arL]
theorem in_has {l : List In} {f k R : Nat} (hR : rch (gt l f) = R) (h8 : (gt l f).1 = 8) : inB l f k = (decide ((f : Int) + 1 ≤ (k : Int)) && decide ((k : Int) ≤ (f : Int) + (R : Int))) := by
  rw [Bool.eq_iff_iff, inB_iff, hR]
  simp only [Bool.and_eq_true, decide_eq_true_eq]
  omega
set_option maxRecDepth 100000 in
set_option maxHeartbeats 8000000 in
theorem times_any (p : Option Addr) (c : Nat) (l : List In) (w : World) (hr : Rd eIn w p c l) (n : Nat) (hN : l.length = n) (hP : Prg l) :
    Calls Try.prog 33 #[.slice p n c] w fun e w' => (∃ q d, e = .returned (.slice q n d) ∧ Own eI w' w.heap.size 2 q d (tmA l n n)) ∧ Below w.heap.size w w' := by
  obtain ⟨i0, hi0, hz0, hz1, hz2⟩ := info_parts Try.info49
  have hn := hP.le.2
  have h1n := hP.le.1
  rw [hN] at hn h1n
  have HN : Hid (l.length = n) := hN
  have HP : Hid (Prg l) := hP
  have har := fun w' (hb' : Below w.heap.size w w') => areas_any p c l w' (hr.below hb') n hN hn hP.all
  clear hN hP
  go_enter Try.func33, Try.ntmps33
  go_wp2_with (first
    | (at_make; refine wpList_make_full _ rfl _ _ 71 rfl w.heap.size 2 i0 _ 1 Try.underlying71 hi0 hz0 hz1 .i64 .i64 _ _ n rfl rfl rfl rfl (by rw [hz2]; omega) (by unfold maxLen; omega) (Nat.le_refl _) ?_; intro w0 hown0 hgrow0
       have hB0 : Below w.heap.size w w0 := (Below.refl _ _).grown hgrow0 (Nat.le_refl _) (fun k hk => by cases hk))
    | (go_at_call 45; refine (har _ hB0).mono ?_; rintro e w1 ⟨qa, da, ma, rfl, hma, howna, hb1⟩; have HMA : Hid (ma = (arI l n).length) := hma; clear hma))
  have hownU : Own eI w0 w.heap.size 2 (some ⟨w.heap.size, 0, none⟩) n (tmA l n 0) := by
    rw [tmA_zero]
    unfold Own
    rw [List.length_replicate, ← made_zero]
    exact hown0
  have hUlt := (World.ownsRow.lt hown0 w.heap.size rfl).2
  have hownU1 := own_below hownU hb1
  have hBw1 := bel_call hB0 (Nat.le_refl _) hb1
  have hma24 : ma ≤ 24 := by rw [HMA.out]; have := arI_le l n; omega
  have hz1' := hb1.size
  clear hown0 hgrow0 hownU hi0 hz0 hz1 hz2 har hB0 hb1
  generalize w0.heap.size = b1 at *
  go_loopw [5] (fun i wr => ∃ k : Nat, k ≤ n ∧ i = .int .i64 k ∧ Own eI wr w.heap.size 2 (some ⟨w.heap.size, 0, none⟩) n (tmA l n k) ∧ Own eAr wr b1 87 qa da (arL l n) ∧ Below w.heap.size w wr) (fun i _ => n - (intOf i).toNat)
  case atStart => exact ⟨0, Nat.zero_le _, rfl, hownU1, howna, hBw1⟩
  case round =>
    clear hownU1 howna hBw1 hz1'
    obtain ⟨k, hk, rfl, hU, hA, hbw⟩ := hrel
    by_cases hlt : k < n
    · have hkl : k < l.length := by rw [HN.out]; exact hlt
      obtain ⟨b', eb, g1, g2, g3, g4, g5⟩ := own_setL hU k (by rw [tmA_len]; exact hlt)
      obtain rfl : w.heap.size = b' := by cases eb; rfl
      have hU2 := g5 1
      have hA2 := own_lowE7 hA (a := ⟨w.heap.size, k, none⟩) hUlt (.int .i64 1)
      have hb2 := hbw.setCell (show w.heap.size ≤ (⟨w.heap.size, k, none⟩ : Addr).block from Nat.le_refl _) (.int .i64 1)
      clear g5 eb g1
      go_wp2
      have HT : Hid ((tmA l n k).set k 1 = (tmA l n k).set k ((prF l k ((arI l n).take 0) : Nat) : Int)) := rfl
      rw [HT.out] at hU2
      generalize wr.setCell ⟨w.heap.size, k, none⟩ (.int .i64 1) = wq at *
      clear g2 g3 g4 hU hA hbw HT
      go_loopw [6] (fun j wx => ∃ a : Nat, a ≤ ma ∧ j = .int .i64 a ∧ Own eI wx w.heap.size 2 (some ⟨w.heap.size, 0, none⟩) n ((tmA l n k).set k ((prF l k ((arI l n).take a) : Nat) : Int)) ∧ Own eAr wx b1 87 qa da (arL l n) ∧ Below w.heap.size w wx) (fun j _ => ma - (intOf j).toNat)
      case atStart => exact ⟨0, Nat.zero_le _, rfl, hU2, hA2, hb2⟩
      case round =>
        clear hU2 hA2 hb2
        obtain ⟨a, ha, rfl, hU, hA, hbw⟩ := hrel
        by_cases hlt2 : a < ma
        · have hal : a < (arI l n).length := by rw [← HMA.out]; exact hlt2
          have hal' : a < (arL l n).length := by rw [arL_len]; exact hal
          obtain ⟨ba, oa, rfl, hba, e0, e1, e2, e3⟩ := (own_rd hA).area a hal'
          rw [ar_get hal] at e0 e1 e2 e3
          have hmem := arI_mem.1 (List.getElem_mem hal)
          have hnx : prF l k ((arI l n).take (a + 1)) = if inB l (arI l n)[a] k = true then prF l k ((arI l n).take a) * nOf l (arI l n)[a] else prF l k ((arI l n).take a) := by rw [List.take_succ_eq_append_getElem hal, prF_snoc]
          have hbd : prF l k ((arI l n).take (a + 1)) ≤ 400 := by have := prF_take HP.out hkl (a + 1); rw [HN.out] at this; exact this
          have hbd0 : prF l k ((arI l n).take a) ≤ 400 := by have := prF_take HP.out hkl a; rw [HN.out] at this; exact this
          generalize (arI l n)[a] = f at *
          have hfl : f < l.length := by rw [HN.out]; exact hmem.1
          have hmy := (HP.out.ins f hfl).1
          have hrc := rch_eq hmy
          obtain ⟨R, hR⟩ : ∃ R, rch (gt l f) = R := ⟨_, rfl⟩
          rw [hR] at hrc
          have hR24 : R ≤ 24 := by have := reach_bd hmy; omega
          have hf24 : f < n := hmem.1
          unfold arE at e0 e1 e2 e3
          simp only [← hrc] at e0 e1 e2 e3
          obtain ⟨b5, eb, g1, g2, g3, g4, g5⟩ := own_setL hU k (by rw [List.length_set, tmA_len]; exact hlt)
          obtain rfl : w.heap.size = b5 := by cases eb; rfl
          rw [List.getElem_set_self] at g4
          have hstay : ∀ w4, Below wr.heap.size wr w4 → Own eI w4 w.heap.size 2 (some ⟨w.heap.size, 0, none⟩) n ((tmA l n k).set k ((prF l k ((arI l n).take a) : Nat) : Int)) ∧ Own eAr w4 b1 87 (some ⟨ba, oa, none⟩) da (arL l n) ∧ Below w.heap.size w w4 := fun w4 hb => ⟨own_below hU hb, own_below hA hb, bel_call hbw (Nat.le_refl _) hb⟩
          have hset : ∀ w4 (v : Int), Below wr.heap.size wr w4 → Own eI (w4.setCell ⟨w.heap.size, k, none⟩ (.int .i64 v)) w.heap.size 2 (some ⟨w.heap.size, 0, none⟩) n ((tmA l n k).set k v) ∧ Own eAr (w4.setCell ⟨w.heap.size, k, none⟩ (.int .i64 v)) b1 87 (some ⟨ba, oa, none⟩) da (arL l n) ∧ Below w.heap.size w (w4.setCell ⟨w.heap.size, k, none⟩ (.int .i64 v)) := fun w4 v hb => by
            obtain ⟨t1, t2, t3⟩ := hstay w4 hb
            obtain ⟨b6, eb6, _, _, _, _, g6⟩ := own_setL t1 k (by rw [List.length_set, tmA_len]; exact hlt)
            obtain rfl : w.heap.size = b6 := by cases eb6; rfl
            have := g6 v
            rw [List.set_set] at this
            exact ⟨this, own_lowE7 t2 (a := ⟨w.heap.size, k, none⟩) hUlt _, t3.setCell (show w.heap.size ≤ (⟨w.heap.size, k, none⟩ : Addr).block from Nat.le_refl _) _⟩
          generalize prF l k ((arI l n).take a) = P at *
          by_cases h8 : (gt l f).1 = 8
          · have d8 : ((gt l f).1 == 8) = true := by rw [h8]; rfl
            rw [d8] at e3
            rw [in_has hR h8] at hnx
            have hno := nOf_bd HP.out.all h8
            obtain ⟨bl, ol, rfl, hbl, f0, f1, f2, f3⟩ := (hr.below hbw).inst f hfl
            have ge : l[f] = gt l f := (gt_eq hfl).symm
            rw [ge] at f0 f1 f2 f3
            rw [← hno.2.2] at f3
            generalize nOf l f = N at *
            obtain ⟨hn1, hn2, hn3⟩ := hno
            clear hn3
            cases hh : (decide ((f : Int) + 1 ≤ (k : Int)) && decide ((k : Int) ≤ (f : Int) + (R : Int))) with
            | true =>
              rw [hh, if_pos rfl] at hnx
              obtain ⟨M, hM⟩ : ∃ M, P * N = M := ⟨_, rfl⟩
              rw [hM] at hnx
              have hM4 : M ≤ 400 := by rw [← hnx]; exact hbd
              have HNX : Hid (prF l k ((arI l n).take (a + 1)) = M) := hnx
              have hPN : (P : Int) * (N : Int) = (M : Int) := by rw [← hM]; simp
              have hc := fun w' => has_c ((f : Int) + 1) ((f : Int) + (R : Int)) (f : Int) true (k : Int) w' true hh
              clear hnx hM hbd hmem hal hal' hrc hR hmy g5 g1 eb ge d8 hh hfl f0 f1 f2 hU hA
              go_wp2_with (go_at_call 46; (with_reducible (refine (hc _).mono ?_)); rintro e w4 ⟨rfl, hb4⟩)
              have p0 := (hb4.cell (p := ⟨w.heap.size, k, none⟩) g2).trans g4
              have pz := (hb4.frozen (p := ⟨w.heap.size, k, none⟩) g2).trans g3
              have p2 := (hb4.cell (p := ⟨ba, oa + a * 4 + 2, none⟩) hba).trans e2
              have p3 := (hb4.cell (p := ⟨bl, ol + f * 4 + 3, none⟩) hbl).trans f3
              have wm : wrap64 (M : Int) = (M : Int) := by simp [wrap64]; omega
              clear g2 g3 g4 hba e0 e1 e2 e3 hbl f3 hbw
              go_region
              go_wp2
              go_roundw
              case rel => exact ⟨a + 1, by omega, by go_num, by rw [HNX.out]; exact own_below (hset w4 _ hb4).1 ((Below.refl _ _).drew), own_below (hset w4 _ hb4).2.1 ((Below.refl _ _).drew), (hset w4 _ hb4).2.2.drew⟩
              case measure => simp [intOf]; omega
            | false =>
              rw [hh, if_neg (by simp)] at hnx
              have HNX : Hid (prF l k ((arI l n).take (a + 1)) = P) := hnx
              have hc := fun w' => has_c ((f : Int) + 1) ((f : Int) + (R : Int)) (f : Int) true (k : Int) w' false hh
              clear hnx hbd hmem hal hal' hrc hR hmy g5 g1 eb ge d8 hh hfl f0 f1 f2 hU hA
              go_wp2_with (go_at_call 46; (with_reducible (refine (hc _).mono ?_)); rintro e w4 ⟨rfl, hb4⟩)
              go_roundw
              case rel => exact ⟨a + 1, by omega, by go_num, by rw [HNX.out]; exact (hstay w4 hb4).1, (hstay w4 hb4).2.1, (hstay w4 hb4).2.2⟩
              case measure => simp [intOf]; omega
          · have d8 : ((gt l f).1 == 8) = false := by simpa using h8
            rw [d8] at e3
            have hib : inB l f k = false := inB_no.2 (fun h => h8 h.2)
            rw [hib, if_neg (by simp)] at hnx
            have HNX : Hid (prF l k ((arI l n).take (a + 1)) = P) := hnx
            clear hnx hbd hmem hal hal' hrc hR hmy g5 g1 eb hfl
            go_wp2
            go_roundw
            case rel => exact ⟨a + 1, by omega, by go_num, by rw [HNX.out]; exact hU, hA, hbw⟩
            case measure => simp [intOf]; omega
        · obtain rfl : a = ma := by omega
          have da' : decide ((a : Int) < (a : Int)) = false := by simp
          have HF : Hid (prF l k ((arI l n).take a) = wt l 0 k) := by
            show _ = _
            rw [List.take_of_length_le (by rw [HMA.out]; exact Nat.le_refl _)]
            have := prF_all l hkl
            rw [HN.out] at this
            exact this
          rw [HF.out, ← tmA_next] at hU
          clear HF
          go_wp2
          go_roundw
          case rel => exact ⟨k + 1, by omega, by go_num, hU, hA, hbw⟩
          case measure => simp [intOf]; omega
    · obtain rfl : k = n := by omega
      have dk : decide ((k : Int) < (k : Int)) = false := by simp
      go_wp2
      go_ret
      exact ⟨⟨_, _, rfl, hU⟩, hbw⟩
end Go.Proofs.Ytonholadabebbaa

namespace Go.Proofs.Ytonholadabebbaa
open Go.ChangeShapes Go.WideShapes Go.ChangeAt Go.RowKit
attribute [local go_sem ↓] Go.wp_at_zero Go.wp_at_succ

theorem own_staysC {α β : Type} {E : Elt α} {F : Elt β} {w w' : World} {base base2 : Nat} {e e2 : TypeId} {q p : Option Addr} {d c2 : Nat} {l : List α} {l2 : List β} (h : Own E w base e q d l) (hO : Own F w base2 e2 p c2 l2) (hne : e ≠ e2) (hs : Stays w w' p) : Own E w' base e q d l := by
  refine ⟨h.1, ?_⟩
  rcases h.2 with hn | ⟨g, cap, cur, h1, h2, h3, h4⟩
  · exact .inl hn
  · exact .inr ⟨g, cap, cur, h1, h2, (hs g (lt_of_block h3) (own_apart hO h3 hne)).trans h3, h4⟩
structure Cs (l : List In) (n g0 r : Nat) (w wr : World) (qt : Option Addr) (dt : Nat) (qp : Option Addr) (dp : Nat) (A G : Int) (q : Option Addr) (m d : Nat) (SP : List (Int × Int)) : Prop where
  lt : g0 < r
  g : wr.heap[g0]? = some (.cells #[.int .i64 0, .int .i64 0, .slice none 0 0] 53 (0, 0))
  c : wr.heap[r]? = some (.cells #[.int .i64 A, .int .i64 G, .slice q m d] 53 (0, 0))
  ot : Own eI wr (r + 1) 2 qt dt (tmA l n n)
  op : Own eI wr (r + 1) 3 qp dp (pairL l)
  os : Own eSp wr (r + 1) 39 q d SP
  b : Below g0 w wr
section
variable {l : List In} {n g0 r : Nat} {w wr : World} {qt : Option Addr} {dt : Nat} {qp : Option Addr} {dp : Nat} {A G : Int} {q : Option Addr} {m d : Nat} {SP : List (Int × Int)}
theorem Cs.below {w' : World} (h : Cs l n g0 r w wr qt dt qp dp A G q m d SP) (hb : Below wr.heap.size wr w') : Cs l n g0 r w w' qt dt qp dp A G q m d SP :=
  ⟨h.lt, (hb.block _ (lt_of_block h.g)).trans h.g, (hb.block _ (lt_of_block h.c)).trans h.c, own_below h.ot hb, own_below h.op hb, own_below h.os hb, h.b.trans (hb.mono (Nat.le_of_lt (lt_of_block h.g)))⟩
theorem Cs.setA (h : Cs l n g0 r w wr qt dt qp dp A G q m d SP) (v : Int) : Cs l n g0 r w (wr.setCell ⟨r, 0, none⟩ (.int .i64 v)) qt dt qp dp v G q m d SP := by
  have h1 := setRow_heap wr r _ (#[.int .i64 A, .int .i64 G, .slice q m d].setIfInBounds 0 (.int .i64 v)) 53 _ h.c
  rw [← setCell_eq_setRow wr r 0 _ _ _ _ h.c] at h1
  have hl := h.lt
  exact ⟨h.lt, (heap_setCell_other _ _ _ _ (by show g0 ≠ r; omega)).trans h.g, by simpa using h1, own_lowE7 h.ot (a := ⟨r, 0, none⟩) (by show r < r + 1; omega) _, own_lowE7 h.op (a := ⟨r, 0, none⟩) (by show r < r + 1; omega) _, own_lowE7 h.os (a := ⟨r, 0, none⟩) (by show r < r + 1; omega) _, h.b.setCell (show g0 ≤ (⟨r, 0, none⟩ : Addr).block from Nat.le_of_lt hl) _⟩
theorem Cs.setG (h : Cs l n g0 r w wr qt dt qp dp A G q m d SP) (v : Int) : Cs l n g0 r w (wr.setCell ⟨r, 1, none⟩ (.int .i64 v)) qt dt qp dp A v q m d SP := by
  have h1 := setRow_heap wr r _ (#[.int .i64 A, .int .i64 G, .slice q m d].setIfInBounds 1 (.int .i64 v)) 53 _ h.c
  rw [← setCell_eq_setRow wr r 1 _ _ _ _ h.c] at h1
  have hl := h.lt
  exact ⟨h.lt, (heap_setCell_other _ _ _ _ (by show g0 ≠ r; omega)).trans h.g, by simpa using h1, own_lowE7 h.ot (a := ⟨r, 1, none⟩) (by show r < r + 1; omega) _, own_lowE7 h.op (a := ⟨r, 1, none⟩) (by show r < r + 1; omega) _, own_lowE7 h.os (a := ⟨r, 1, none⟩) (by show r < r + 1; omega) _, h.b.setCell (show g0 ≤ (⟨r, 1, none⟩ : Addr).block from Nat.le_of_lt hl) _⟩
/-- a span more, and where it lies -/
theorem Cs.app {X : Obj} {w7 : World} {p7 : Option Addr} {c7 m7 : Nat} {SP7 : List (Int × Int)} (h : Cs l n g0 r w wr qt dt qp dp A G q m d SP) (ho : Own eSp w7 (r + 1) 39 p7 c7 SP7) (hb : Below (r + 1) (wr.alloc X) w7) (hs : Stays (wr.alloc X) w7 q) : Cs l n g0 r w (w7.setCell ⟨r, 2, none⟩ (.slice p7 m7 c7)) qt dt qp dp A G p7 m7 c7 SP7 := by
  have h' := h.below (w' := wr.alloc X) ((Below.refl _ _).alloc (Nat.le_refl _) _)
  have hl := h.lt
  have k1 : w7.heap[g0]? = _ := (hb.block g0 (by omega)).trans h'.g
  have k2 : w7.heap[r]? = _ := (hb.block r (by omega)).trans h'.c
  have k3 := own_staysC h'.ot h'.os (by decide) hs
  have k4 := own_staysC h'.op h'.os (by decide) hs
  have h1 := setRow_heap w7 r _ (#[.int .i64 A, .int .i64 G, .slice q m d].setIfInBounds 2 (.slice p7 m7 c7)) 53 _ k2
  rw [← setCell_eq_setRow w7 r 2 _ _ _ _ k2] at h1
  exact ⟨h.lt, (heap_setCell_other _ _ _ _ (by show g0 ≠ r; omega)).trans k1, by simpa using h1, own_lowE7 k3 (a := ⟨r, 2, none⟩) (by show r < r + 1; omega) _, own_lowE7 k4 (a := ⟨r, 2, none⟩) (by show r < r + 1; omega) _, own_lowE7 ho (a := ⟨r, 2, none⟩) (by show r < r + 1; omega) _, (h'.b.trans (hb.mono (by omega))).setCell (show g0 ≤ (⟨r, 2, none⟩ : Addr).block from Nat.le_of_lt hl) _⟩
theorem Cs.facts (h : Cs l n g0 r w wr qt dt qp dp A G q m d SP) : ((wr.cell? ⟨r, 0, none⟩ = some (.int .i64 A) ∧ wr.cell? ⟨r, 1, none⟩ = some (.int .i64 G) ∧ wr.cell? ⟨r, 2, none⟩ = some (.slice q m d)) ∧ wr.frozen? ⟨r, 0, none⟩ = false ∧ wr.frozen? ⟨r, 1, none⟩ = false ∧ wr.frozen? ⟨r, 2, none⟩ = false) ∧ r < wr.heap.size := ⟨cellT h.c, lt_of_block h.c⟩
/-- how often it is done -/
theorem Cs.time (h : Cs l n g0 r w wr qt dt qp dp A G q m d SP) {k : Nat} (hk : k < n) : ∃ b, qt = some ⟨b, 0, none⟩ ∧ r < b ∧ b < wr.heap.size ∧ wr.cell? ⟨b, k, none⟩ = some (.int .i64 ((wt l 0 k : Nat) : Int)) := by
  obtain ⟨b, e, g1, g2, g3, g4, g5⟩ := own_setL h.ot k (by rw [tmA_len]; exact hk)
  rw [tmA_get hk] at g4
  exact ⟨b, e, by omega, g2, g4⟩
theorem Cs.pair (h : Cs l n g0 r w wr qt dt qp dp A G q m d SP) {k : Nat} (hk : k < (pairL l).length) : ∃ b, qp = some ⟨b, 0, none⟩ ∧ r < b ∧ b < wr.heap.size ∧ wr.cell? ⟨b, k, none⟩ = some (.int .i64 ((pairL l).getD k 0)) := by
  obtain ⟨b, e, g1, g2, g3, g4, g5⟩ := own_setL h.op k hk
  rw [getD_at7 hk]
  exact ⟨b, e, by omega, g2, g4⟩
end
theorem res14 {tmps : Array Value} {w : World} {r : Nat} {cs : Array Value} {ok : Bool} (h2 : tmps.getD 2 undef = .pointer (some ⟨r, 0, none⟩)) (h3 : tmps.getD 3 undef = .bool ok) (g2 : w.heap[r]? = some (.cells cs 53 (0, 0))) (hs : cs.size = 3) :
    (results Try.f22 tmps).run Try.prog w = .ok (.tuple #[.agg cs, .bool ok]) w := by
  have e2 := run_loadVar_row (P := Try.prog) w r 53 53 _ (0, 0) _ g2 Try.underlying53 rfl (by rw [hs]; exact info32)
  have k2 : tmps[2]?.getD undef = .pointer (some ⟨r, 0, none⟩) := by simpa using h2
  have k3 : tmps[3]?.getD undef = .bool ok := by simpa using h3
  simp [results, Try.results22, k2, k3, asAddr, e2]
set_option maxHeartbeats 2000000 in
set_option maxRecDepth 20000 in
theorem refCost_no (p : Option Addr) (c : Nat) (l : List In) (w : World) (hr : Rd eIn w p c l) (n : Nat) (hN : l.length = n) (hl : n ≤ 1000) (hk : okB l = false) :
    Calls Try.prog 22 #[.slice p n c] w fun e w' => e = .returned (.tuple #[.agg #[.int .i64 0, .int .i64 0, .slice none 0 0], .bool false]) ∧ Below w.heap.size w w' := by
  have h1 := fun w' (hb : Below w.heap.size w w') => mayCode_any p c l w' (hr.below hb) n hN hl
  rw [hk] at h1
  clear hN hk hr hl
  go_enter Try.func22, Try.ntmps22
  go_wp2_with (first
    | (go_at_call 32; refine (h1 _ ((Below.refl _ _).alloc (Nat.le_refl _) _)).mono ?_; rintro e w1 ⟨rfl, b1⟩; have B1 := bel_call ((Below.refl _ _).alloc (Nat.le_refl _) _) (Nat.le_refl _) b1; have g1 : w1.heap[w.heap.size]? = some (.cells #[.int .i64 0, .int .i64 0, .slice none 0 0] 53 (0, 0)) := (b1.block w.heap.size (by simp)).trans (heap_alloc_new w _); obtain ⟨⟨k0, k1, k2⟩, z0, z1, z2⟩ := cellT g1))
  obtain ⟨gf, _, bf⟩ := st3 g1 (own_nil (E := eSp) w1 (w.heap.size + 1) 39) (by omega) B1 (Nat.le_refl _) (.int .i64 0) (.int .i64 0) (.slice none 0 0)
  refine bodyPost_ret (v := .tuple #[.agg #[.int .i64 0, .int .i64 0, .slice none 0 0], .bool false]) (res14 rfl rfl gf rfl) rfl ?_
  exact ⟨rfl, bf⟩
end Go.Proofs.Ytonholadabebbaa

namespace Go.Proofs.Ytonholadabebbaa
open Go.ChangeShapes Go.WideShapes Go.ChangeAt Go.RowKit
attribute [local go_sem ↓] Go.wp_at_zero Go.wp_at_succ

theorem own_is {α : Type} {E : Elt α} {w : World} {base b : Nat} {e : TypeId} {c : Nat} {l : List α} (h : Own E w base e (some ⟨b, 0, none⟩) c l) : ∃ cs, w.heap[b]? = some (.cells cs e (0, 0)) := by
  rcases h.2 with ⟨h1, _⟩ | ⟨g, cap, cur, h1, h2, h3, _⟩
  · simp at h1
  · simp only [Value.slice.injEq, Option.some.injEq, Addr.mk.injEq] at h1
    obtain ⟨⟨rfl, _⟩, _⟩ := h1
    exact ⟨_, h3⟩
theorem pc_next {l : List In} {k : Nat} (h : isM l k = false) : Sm l 0 (frs l (k + 1)) (k + 1) = Sm l 0 (frs l k) k + wt l 0 k := by
  rw [(frs_no h).1, Sm_succ (frs_le l k)]
theorem pc_mark {l : List In} {k : Nat} (h : isM l k = true) : Sm l 0 (frs l (k + 1)) (k + 1) = 0 ∧ lgs l (k + 1) = max (lgs l k) (Sm l 0 (frs l k) k + wt l 0 k) := by
  rw [(frs_yes h).1, (frs_yes h).2, Sm_nil, Sm_succ (frs_le l k)]
  exact ⟨rfl, rfl⟩
set_option maxRecDepth 100000 in
set_option maxHeartbeats 8000000 in
theorem refCost_yes (p : Option Addr) (c : Nat) (l : List In) (w : World) (hr : Rd eIn w p c l) (n : Nat) (hN : l.length = n) (hk : okB l = true) :
    Calls Try.prog 22 #[.slice p n c] w fun e w' => (∃ q d m, e = .returned (.tuple #[.agg #[.int .i64 ((tk l : Nat) : Int), .int .i64 ((lgs l n : Nat) : Int), .slice q m d], .bool true]) ∧ m = (spL l n).length ∧ Own eSp w' w.heap.size 39 q d (spL l n)) ∧ Below w.heap.size w w' := by
  have hP := prg_of hk
  have hle := hP.le
  rw [hN] at hle
  have h1 := fun w' (hb : Below w.heap.size w w') => mayCode_any p c l w' (hr.below hb) n hN (by omega)
  rw [hk] at h1
  have h2 := fun w' (hb : Below w.heap.size w w') => times_any p c l w' (hr.below hb) n hN hP
  have h3 := fun w' (hb : Below w.heap.size w w') => refPairs_any p c l w' (hr.below hb) n hN (by omega) hP.all (by omega)
  have HN : Hid (l.length = n) := hN
  have HP : Hid (Prg l) := hP
  have HU : Hid ((pairL l).length = n) := by show _ = _; rw [← hN]; exact outO_len l _
  have HT : Hid (tk l = Sm l 0 0 n) := by show _ = _; unfold tk; rw [hN]
  rw [HT.out]
  have hokp := hP.pair
  clear hN hP hk
  go_enter Try.func22, Try.ntmps22
  go_wp2_with (first
    | (go_at_call 32; refine (h1 _ ((Below.refl _ _).alloc (Nat.le_refl _) _)).mono ?_; rintro e w1 ⟨rfl, b1⟩; have B1 := bel_call ((Below.refl _ _).alloc (Nat.le_refl _) _) (Nat.le_refl _) b1; have g1 : w1.heap[w.heap.size]? = some (.cells #[.int .i64 0, .int .i64 0, .slice none 0 0] 53 (0, 0)) := (b1.block w.heap.size (by simp)).trans (heap_alloc_new w _))
    | (go_at_call 33; refine (h2 _ (bel_call B1 (Nat.le_refl _) ((Below.refl _ _).alloc (Nat.le_refl _) _))).mono ?_; rintro e w2 ⟨⟨qt, dt, rfl, ot⟩, b2⟩
       have g2 : w2.heap[w.heap.size]? = _ := (b2.block w.heap.size (by have := lt_of_block g1; simp; omega)).trans ((Below.heap_alloc _ _ _ (lt_of_block g1)).trans g1)
       have c2 : w2.heap[w1.heap.size]? = some (.cells #[.int .i64 0, .int .i64 0, .slice none 0 0] 53 (0, 0)) := (b2.block w1.heap.size (by simp)).trans (heap_alloc_new w1 _)
       have B2 := bel_call (bel_call B1 (Nat.le_refl _) ((Below.refl _ _).alloc (Nat.le_refl _) _)) (Nat.le_refl _) b2)
    | (go_at_call 34; refine (h3 _ B2).mono ?_; rintro e w3 ⟨⟨qp, dp, mp, kp, rfl, e4, f4⟩, b3⟩; rw [hokp] at e4; subst e4; obtain ⟨rfl, op⟩ := f4 rfl
       have B3 := bel_call B2 (Nat.le_refl _) b3
       have hS : Cs l mp w.heap.size w1.heap.size w w3 qt dt qp dp 0 0 none 0 0 [] := ⟨lt_of_block g1, (b3.block _ (lt_of_block g2)).trans g2, (b3.block _ (lt_of_block c2)).trans c2, own_mono (own_below ot b3) (by simp), own_mono op (by have := b2.size; simp at this; omega), own_nil _ _ _, B3⟩
       clear f4 op ot g1 g2 c2 h1 h2 h3 b1 b2 b3 B1 B2 B3))
  generalize w1.heap.size = r at *
  go_loopw [8, 9] (fun s i wr => ∃ (k : Nat) (q : Option Addr) (m d : Nat), k ≤ mp ∧ i = .int .i64 k ∧ s = .int .i64 ((Sm l 0 (frs l k) k : Nat) : Int) ∧ Hid (m = (spL l k).length) ∧ Cs l mp w.heap.size r w wr qt dt qp dp ((Sm l 0 0 k : Nat) : Int) ((lgs l k : Nat) : Int) q m d (spL l k)) (fun _ i _ => mp - (intOf i).toNat)
  case atStart => exact ⟨0, none, 0, 0, Nat.zero_le _, rfl, rfl, rfl, hS⟩
  case round =>
    clear hS
    obtain ⟨k, q, m, d, hk, rfl, rfl, HM, hS⟩ := hrel
    have hml : m ≤ k := by rw [HM.out]; exact spL_len l k
    by_cases hlt : k < mp
    · have hkl : k < l.length := by rw [HN.out]; exact hlt
      have hku : k < (pairL l).length := by rw [HU.out]; exact hlt
      obtain ⟨b, o, rfl, hb, f0, f1, f2, f3⟩ := hr.inst k hkl
      have F0 := fun wx (hb' : Below w.heap.size w wx) => (hb'.cell (p := ⟨b, o + k * 4, none⟩) hb).trans f0
      have F1 := fun wx (hb' : Below w.heap.size w wx) => (hb'.cell (p := ⟨b, o + k * 4 + 1, none⟩) hb).trans f1
      have HG : Hid (gt l k = l[k]) := gt_eq hkl
      generalize l[k] = x at *
      obtain ⟨xo, xa, xb, xn⟩ := x
      simp only at F0 F1
      clear f0 f1 f2 f3
      have hA := HP.out.sm_le (a := 0) (b := k) (by omega) (by omega)
      have hPc := HP.out.sm_le (a := frs l k) (b := k) (frs_le l k) (by omega)
      have hGb := lgs_bd HP.out (k := k) (by omega)
      have hTb := HP.out.wt_le hkl
      have hTp := wt_pos HP.out.all (lo := 0) (i := k)
      have HA : Hid (Sm l 0 0 (k + 1) = Sm l 0 0 k + wt l 0 k) := Sm_succ (by omega)
      have HPn : Hid (isM l k = false → Sm l 0 (frs l (k + 1)) (k + 1) = Sm l 0 (frs l k) k + wt l 0 k) := pc_next
      have HPm : Hid (isM l k = true → Sm l 0 (frs l (k + 1)) (k + 1) = 0 ∧ lgs l (k + 1) = max (lgs l k) (Sm l 0 (frs l k) k + wt l 0 k)) := pc_mark
      have HGn : Hid (isM l k = false → lgs l (k + 1) = lgs l k) := fun h => (frs_no h).2
      obtain ⟨⟨⟨c0, c1, c2⟩, z0, z1, z2⟩, hrz⟩ := hS.facts
      obtain ⟨bt, rfl, hbt, hbt2, t0⟩ := hS.time hlt
      have hTime := fun (wx : World) A' G' q' m' d' SP' (h : Cs l mp w.heap.size r w wx (some ⟨bt, 0, none⟩) dt qp dp A' G' q' m' d' SP') (j : Nat) (hj : j < mp) => h.time hj
      generalize hAe : Sm l 0 0 k = A at *
      generalize hPe : Sm l 0 (frs l k) k = P at *
      generalize hGe : lgs l k = G at *
      generalize hTe : wt l 0 k = T at *
      have hrn : (r == bt) = false := by simp; omega
      have SA := hS.setA ((A : Int) + (T : Int))
      have SD := SA.below (Below.refl _ _).drew
      obtain ⟨⟨⟨a0, a1, a2⟩, y0, y1, y2⟩, hrz2⟩ := SD.facts
      have FF0 := F0 _ SD.b
      have FF1 := F1 _ SD.b
      have DW : decide ((k : Int) < (mp : Int)) = true := by simpa using hlt
      go_wp2
      go_region
      generalize (wr.setCell ⟨r, 0, none⟩ (.int .i64 ((A : Int) + (T : Int)))).drew = wd at *
      clear c0 c1 c2 z0 z1 z2 hrz t0 hbt2 SA hS y0 y2 a0 a2
      have HAi : Hid (((Sm l 0 0 (k + 1) : Nat) : Int) = (A : Int) + (T : Int)) := by show _ = _; rw [HA.out]; simp
      by_cases hm : isM l k = true
      · obtain ⟨p1, p2⟩ := HPm.out hm
        have hor : xo = 11 ∨ xo = 0 := by
          unfold isM at hm
          rw [HG.out] at hm
          simpa using hm
        have HSP : Hid (spL l (k + 1) = spL l k) := spL_no (by rw [HG.out]; show xo ≠ 9; omega)
        have HP1 : Hid (Sm l 0 (frs l (k + 1)) (k + 1) = 0) := p1
        have HG1 : Hid (((lgs l (k + 1) : Nat) : Int) = if (G : Int) < (P : Int) + (T : Int) then (P : Int) + (T : Int) else (G : Int)) := by show _ = _; rw [p2]; split <;> omega
        have d9 : (xo == 9) = false := by simp; omega
        have SG := SD.setG (if (G : Int) < (P : Int) + (T : Int) then (P : Int) + (T : Int) else (G : Int))
        have FG := F0 _ SG.b
        clear p1 p2 HPn HPm HGn hm F0 F1 FF1 hTime
        rcases hor with rfl | rfl
        · go_wp2
          go_roundw
          case rel => exact ⟨k + 1, q, m, d, by omega, by go_num, by rw [HP1.out]; rfl, by show _ = _; rw [HSP.out]; exact HM.out, by rw [HAi.out, HG1.out, HSP.out]; exact SG⟩
          case measure => simp [intOf]; omega
        · go_wp2
          go_roundw
          case rel => exact ⟨k + 1, q, m, d, by omega, by go_num, by rw [HP1.out]; rfl, by show _ = _; rw [HSP.out]; exact HM.out, by rw [HAi.out, HG1.out, HSP.out]; exact SG⟩
          case measure => simp [intOf]; omega
      · have hm' : isM l k = false := by simpa using hm
        have HP1 : Hid (Sm l 0 (frs l (k + 1)) (k + 1) = P + T) := HPn.out hm'
        have HG1 : Hid (lgs l (k + 1) = G) := HGn.out hm'
        have hne : (xo == 11) = false ∧ (xo == 0) = false := by
          unfold isM at hm'
          rw [HG.out] at hm'
          simpa using hm'
        obtain ⟨d11, d0⟩ := hne
        clear HPn HPm HGn hm hm' a1 y1
        by_cases h9 : xo = 9
        · subst h9
          have h9' : (gt l k).1 = 9 := by rw [HG.out]
          obtain ⟨u, hpr⟩ := pr_of HP.out.pair hkl h9'
          have hu1 := hpr.lt
          have hu2 : u < mp := by have := hpr.le; rw [HN.out] at this; exact this
          have hsp := spn_of hpr
          have hsy := spL_yes (l := l) h9'
          rw [HG.out] at hsp
          simp only at hsp
          rw [hsp] at hsy
          have hdv := spn_ref HP.out hpr h9'
          rw [hTe] at hdv
          obtain ⟨bp, rfl, hbp, hbp2, u0⟩ := SD.pair hku
          rw [hpr.out] at u0
          obtain ⟨bt', ebt, hbt1, hbt3, t0⟩ := SD.time hlt
          obtain rfl : bt = bt' := by cases ebt; rfl
          rw [hTe] at t0
          have HW : Hid (∀ j, j < mp → wd.cell? ⟨bt, j, none⟩ = some (.int .i64 ((wt l 0 j : Nat) : Int))) := fun j hj => by
            obtain ⟨b', eb, _, _, h⟩ := SD.time hj
            obtain rfl : bt = b' := by cases eb; rfl
            exact h
          have HSb : Hid (∀ j, k + 1 ≤ j → j ≤ mp → Sm l 0 (k + 1) j ≤ 9600) := fun j h1 h2 => HP.out.sm_le h1 (by rw [HN.out]; exact h2)
          have HWb : Hid (∀ j, j < mp → wt l 0 j ≤ 400) := fun j hj => HP.out.wt_le (by rw [HN.out]; exact hj)
          have HSY : Hid (spL l (k + 1) = spL l k ++ [(xa, ((Sm l (k + 1) (k + 1) (u + 1) : Nat) : Int))]) := hsy
          have HDV : Hid (Sm l 0 (k + 1) (u + 1) / T = Sm l (k + 1) (k + 1) (u + 1)) := hdv
          clear hsp hsy hdv hpr h9' ebt F0 F1 hTime hku
          go_wp2
          go_loopw [10, 11] (fun s i wx => ∃ j : Nat, k + 1 ≤ j ∧ j ≤ u + 1 ∧ i = .int .i64 j ∧ s = .int .i64 ((Sm l 0 (k + 1) j : Nat) : Int) ∧ wx = wd) (fun _ i _ => u + 1 - (intOf i).toNat)
          case atStart => exact ⟨k + 1, Nat.le_refl _, by omega, by go_num, by rw [Sm_nil]; rfl, rfl⟩
          case round =>
            obtain ⟨j, hj1, hj2, rfl, rfl, hwx⟩ := hrel
            subst hwx
            have hSj := HSb.out j hj1 (by omega)
            by_cases hju : j ≤ u
            · have tj := HW.out j (by omega)
              have dj : decide ((j : Int) ≤ (u : Int)) = true := by simp; omega
              have hWj := HWb.out j (by omega)
              have HS : Hid (Sm l 0 (k + 1) (j + 1) = Sm l 0 (k + 1) j + wt l 0 j) := Sm_succ hj1
              generalize Sm l 0 (k + 1) j = S at *
              generalize wt l 0 j = Tj at *
              clear HSY HDV HSb HWb HW
              go_wp2
              go_roundw
              case rel => exact ⟨j + 1, by omega, by omega, by go_num, by rw [HS.out]; go_num, trivial⟩
              case measure => simp [intOf]; omega
            · obtain rfl : j = u + 1 := by omega
              have dj : decide (((u + 1 : Nat) : Int) ≤ (u : Int)) = false := by simp; omega
              have dj2 : decide ((u : Int) + 1 ≤ (u : Int)) = false := by simp; omega
              generalize Sm l 0 (k + 1) (u + 1) = S at *
              generalize Sm l (k + 1) (k + 1) (u + 1) = V at *
              have hq : (S : Int).tdiv (T : Int) = (V : Int) := by rw [← HDV.out]; rfl
              have hV : V ≤ 9600 := by rw [← HDV.out]; exact Nat.le_trans (Nat.div_le_self _ _) hSj
              have dT : ((T : Int) == 0) = false := by simp; omega
              have hTn : ¬ T = 0 := by omega
              have hwV : IntKind.i64.wrap (V : Int) = (V : Int) := wrap_c (by omega) (by omega)
              clear HDV HSb HWb HW hSj
              go_wp2
              obtain ⟨cbt, gbt⟩ := own_is SD.ot
              obtain ⟨⟨⟨c0, c1, c2⟩, z0, z1, z2⟩, hrz⟩ := SD.facts
              refine wp_region_held_drew (S := fun w' => w'.cell? ⟨b, o + k * 4 + 1, none⟩ = some (.int .i64 xa) ∧ w'.cell? ⟨bt, k, none⟩ = some (.int .i64 (T : Int))) (by kernel_rfl) ⟨FF1, t0⟩ (fun hHeld => ?_)
              refine wpAnyH_take (i := 0) (oi := _) (v := ?_) rfl (by kernel_rfl) (by kernel_rfl) (by kernel_rfl) (fun _ _ _ h => h) (Or.inl ⟨by rfl, ?_⟩) hHeld ?_
              rotate_left
              · intro w' hSw
                (go_simp <;> with_reducible rfl)
              try simp only [Act.put, List.getElem_toArray, List.getElem_cons_zero, List.setIfInBounds_toArray, List.set_cons_zero, List.set_cons_succ]
              refine wpAnyH_take (i := 2) (oi := _) (v := ?_) rfl (by kernel_rfl) (by kernel_rfl) (by kernel_rfl) (fun _ _ _ h => h) (Or.inl ⟨by rfl, ?_⟩) hHeld ?_
              rotate_left
              · intro w' hSw
                (go_simp <;> with_reducible rfl)
              try simp only [Act.put, List.getElem_toArray, List.getElem_cons_succ, List.getElem_cons_zero, List.setIfInBounds_toArray, List.set_cons_zero, List.set_cons_succ]
              refine wpAnyH_take (i := 3) (oi := _) (v := ?_) rfl (by kernel_rfl) (by kernel_rfl) (by kernel_rfl) (fun _ _ _ h => h) (Or.inl ⟨by rfl, ?_⟩) hHeld ?_
              rotate_left
              · intro w' hSw
                (go_simp <;> with_reducible rfl)
              try simp only [Act.put, List.getElem_toArray, List.getElem_cons_succ, List.getElem_cons_zero, List.setIfInBounds_toArray, List.set_cons_zero, List.set_cons_succ]
              refine wpAnyH_take (i := 4) (oi := _) (v := ?_) rfl (by kernel_rfl) (by kernel_rfl) (by kernel_rfl) (fun _ _ _ h => h) (Or.inl ⟨by rfl, ?_⟩) hHeld ?_
              rotate_left
              · intro w' hSw
                (go_simp <;> with_reducible rfl)
              try simp only [Act.put, List.getElem_toArray, List.getElem_cons_succ, List.getElem_cons_zero, List.setIfInBounds_toArray, List.set_cons_zero, List.set_cons_succ]
              refine wpAnyH_take (i := 5) (oi := _) (v := ?_) rfl (by kernel_rfl) (by kernel_rfl) (by kernel_rfl) (fun _ _ _ h => h) (Or.inl ⟨by rfl, ?_⟩) hHeld ?_
              rotate_left
              · intro w' hSw
                (go_simp <;> with_reducible rfl)
              try simp only [Act.put, List.getElem_toArray, List.getElem_cons_succ, List.getElem_cons_zero, List.setIfInBounds_toArray, List.set_cons_zero, List.set_cons_succ]
              refine wpAnyH_take (i := 6) (oi := _) (v := ?_) rfl (by kernel_rfl) (by kernel_rfl) (by kernel_rfl) (fun _ _ _ h => h) (Or.inl ⟨by rfl, ?_⟩) hHeld ?_
              rotate_left
              · intro w' hSw
                obtain ⟨k5, _⟩ := hSw
                (go_simp <;> with_reducible rfl)
              try simp only [Act.put, List.getElem_toArray, List.getElem_cons_succ, List.getElem_cons_zero, List.setIfInBounds_toArray, List.set_cons_zero, List.set_cons_succ]
              refine wpAnyH_take (i := 7) (oi := _) (v := ?_) rfl (by kernel_rfl) (by kernel_rfl) (by kernel_rfl) (fun _ _ _ h => h) (Or.inl ⟨by rfl, ?_⟩) hHeld ?_
              rotate_left
              · intro w' hSw
                (go_simp <;> with_reducible rfl)
              try simp only [Act.put, List.getElem_toArray, List.getElem_cons_succ, List.getElem_cons_zero, List.setIfInBounds_toArray, List.set_cons_zero, List.set_cons_succ]
              refine wpAnyH_take (i := 8) (oi := _) (v := ?_) rfl (by kernel_rfl) (by kernel_rfl) (by kernel_rfl) (fun _ _ _ h => h) (Or.inl ⟨by rfl, ?_⟩) hHeld ?_
              rotate_left
              · intro w' hSw
                (go_simp <;> with_reducible rfl)
              try simp only [Act.put, List.getElem_toArray, List.getElem_cons_succ, List.getElem_cons_zero, List.setIfInBounds_toArray, List.set_cons_zero, List.set_cons_succ]
              refine wpAnyH_take (i := 9) (oi := _) (v := ?_) rfl (by kernel_rfl) (by kernel_rfl) (by kernel_rfl) (fun _ _ _ h => h) (Or.inl ⟨by rfl, ?_⟩) hHeld ?_
              rotate_left
              · intro w' hSw
                (go_simp <;> with_reducible rfl)
              try simp only [Act.put, List.getElem_toArray, List.getElem_cons_succ, List.getElem_cons_zero, List.setIfInBounds_toArray, List.set_cons_zero, List.set_cons_succ]
              refine wpAnyH_take (i := 10) (oi := _) (v := ?_) rfl (by kernel_rfl) (by kernel_rfl) (by kernel_rfl) (fun _ _ _ h => h) (Or.inl ⟨by rfl, ?_⟩) hHeld ?_
              rotate_left
              · intro w' hSw
                (go_simp <;> with_reducible rfl)
              try simp only [Act.put, List.getElem_toArray, List.getElem_cons_succ, List.getElem_cons_zero, List.setIfInBounds_toArray, List.set_cons_zero, List.set_cons_succ]
              refine wpAnyH_take (i := 11) (oi := _) (v := ?_) rfl (by kernel_rfl) (by kernel_rfl) (by kernel_rfl) (fun _ _ _ h => h) (Or.inl ⟨by rfl, ?_⟩) hHeld ?_
              rotate_left
              · intro w' hSw
                obtain ⟨_, k5⟩ := hSw
                (go_simp <;> with_reducible rfl)
              try simp only [Act.put, List.getElem_toArray, List.getElem_cons_succ, List.getElem_cons_zero, List.setIfInBounds_toArray, List.set_cons_zero, List.set_cons_succ]
              refine wpAnyH_take (i := 12) (oi := _) (v := ?_) rfl (by kernel_rfl) (by kernel_rfl) (by kernel_rfl) (fun _ _ _ h => h) (Or.inl ⟨by rfl, ?_⟩) hHeld ?_
              rotate_left
              · intro w' hSw
                (go_simp <;> with_reducible rfl)
              try simp only [Act.put, List.getElem_toArray, List.getElem_cons_succ, List.getElem_cons_zero, List.setIfInBounds_toArray, List.set_cons_zero, List.set_cons_succ]
              refine wpAnyH_take (i := 13) (oi := _) (v := ?_) rfl (by kernel_rfl) (by kernel_rfl) (by kernel_rfl) (fun _ _ _ h => h) (Or.inl ⟨by rfl, ?_⟩) hHeld ?_
              rotate_left
              · intro w' hSw
                (go_simp <;> with_reducible rfl)
              try simp only [Act.put, List.getElem_toArray, List.getElem_cons_succ, List.getElem_cons_zero, List.setIfInBounds_toArray, List.set_cons_zero, List.set_cons_succ]
              refine wpAnyH_ready (rs := [1, 14]) (by kernel_rfl) (by simp) ?_
              refine AllReadyH.cons (o := _) rfl (fun K hK => ?_) (AllReadyH.cons (o := _) rfl (fun K hK => ?_) AllReadyH.nil)
              · go_simp
                refine hK.out _ _ ⟨FF1, t0⟩ (fun hHeld => ?_)
                clear hK K
                try simp only [Act.put, List.getElem_toArray, List.getElem_cons_succ, List.getElem_cons_zero, List.setIfInBounds_toArray, List.set_cons_zero, List.set_cons_succ]
                have x1 : (wr.alloc (Obj.cells #[Value.int IntKind.i64 xa, Value.int IntKind.i64 (V : Int)] 39)).cell? ⟨b, o + k * 4 + 1, none⟩ = some (.int .i64 xa) := (((Below.refl _ wr).alloc (Nat.le_refl _) _).cell (p := ⟨b, o + k * 4 + 1, none⟩) (lt_of_cell FF1)).trans FF1
                have x2 : (wr.alloc (Obj.cells #[Value.int IntKind.i64 xa, Value.int IntKind.i64 (V : Int)] 39)).cell? ⟨bt, k, none⟩ = some (.int .i64 (T : Int)) := (((Below.refl _ wr).alloc (Nat.le_refl _) _).cell (p := ⟨bt, k, none⟩) hbt3).trans t0
                have x3 : (wr.alloc (Obj.cells #[Value.int IntKind.i64 xa, Value.int IntKind.i64 (V : Int)] 39)).cell? ⟨r, 2, none⟩ = some (.slice q m d) := (((Below.refl _ wr).alloc (Nat.le_refl _) _).cell (p := ⟨r, 2, none⟩) hrz).trans c2
                refine wpAnyH_ready (rs := [14]) (by kernel_rfl) (by simp) ?_
                refine AllReadyH.cons (o := _) rfl (fun K hK => ?_) AllReadyH.nil
                go_simp
                refine hK.out _ _ ⟨x1, x2⟩ (fun hHeld => ?_)
                clear hK K
                try simp only [Act.put, List.getElem_toArray, List.getElem_cons_succ, List.getElem_cons_zero, List.setIfInBounds_toArray, List.set_cons_zero, List.set_cons_succ]
                refine wpAnyH_ready (rs := [15]) (by kernel_rfl) (by simp) ?_
                refine AllReadyH.cons (o := _) rfl (fun K hK => ?_) AllReadyH.nil
                refine step_app tSp _ rfl _ _ rfl (r + 1) q d (spL l k) m HM.out.symm rfl (own_below SD.os (((Below.refl _ _).alloc (Nat.le_refl _) _).drew)) _ _ [(xa, (V : Int))] 1 rfl rfl ((rd_sp (heap_alloc_new wr _)).below ((Below.refl _ _).drew)) (by omega) (by simp; omega) (m + 1) rfl ?_
                intro p7 c7 w7 ho7 hb7a hst7a
                have hb7 := ((Below.refl (r + 1) (wr.alloc (Obj.cells #[Value.int IntKind.i64 xa, Value.int IntKind.i64 (V : Int)] 39))).drew).trans hb7a
                have hst7 : Stays (wr.alloc (Obj.cells #[Value.int IntKind.i64 xa, Value.int IntKind.i64 (V : Int)] 39)) w7 q := hst7a
                have S7 := Cs.app (m7 := m + 1) SD ho7 hb7 hst7
                have y1 : w7.cell? ⟨b, o + k * 4 + 1, none⟩ = some (.int .i64 xa) := (hb7.cell (p := ⟨b, o + k * 4 + 1, none⟩) (by have := SD.lt; show b < r + 1; omega)).trans x1
                have y2 : w7.cell? ⟨bt, k, none⟩ = some (.int .i64 (T : Int)) := (World.cell?_of_block (a := ⟨bt, k, none⟩) (hst7 bt (by simp; omega) (own_apart SD.os gbt (by decide)))).trans x2
                have y3 : w7.heap[r]? = _ := (hb7.block r (by omega)).trans ((Below.heap_alloc _ _ _ hrz).trans SD.c)
                obtain ⟨⟨v0, v1, v2⟩, n0, n1, n2⟩ := cellT y3
                refine hK.out _ _ ⟨y1, y2⟩ (fun hHeld => ?_)
                clear hK K
                try simp only [Act.put, List.getElem_toArray, List.getElem_cons_succ, List.getElem_cons_zero, List.setIfInBounds_toArray, List.set_cons_zero, List.set_cons_succ]
                refine wpAnyH_take (i := 16) (oi := _) (v := ?_) rfl (by kernel_rfl) (by kernel_rfl) (by kernel_rfl) (fun _ _ _ h => h) (Or.inl ⟨by rfl, ?_⟩) hHeld ?_
                rotate_left
                · intro w' hSw
                  (go_simp <;> with_reducible rfl)
                try simp only [Act.put, List.getElem_toArray, List.getElem_cons_succ, List.getElem_cons_zero, List.setIfInBounds_toArray, List.set_cons_zero, List.set_cons_succ]
                refine wpAnyH_ready (rs := [17]) (by kernel_rfl) (by simp) ?_
                refine AllReadyH.cons (o := _) rfl (fun K hK => ?_) AllReadyH.nil
                go_simp
                have s1 : (w7.setCell ⟨r, 2, none⟩ (.slice p7 (m + 1) c7)).cell? ⟨b, o + k * 4 + 1, none⟩ = some (.int .i64 xa) := (World.cell?_of_block (a := ⟨b, o + k * 4 + 1, none⟩) (heap_setCell_other _ _ _ _ (by show b ≠ r; have := SD.lt; omega))).trans y1
                have s2 : (w7.setCell ⟨r, 2, none⟩ (.slice p7 (m + 1) c7)).cell? ⟨bt, k, none⟩ = some (.int .i64 (T : Int)) := (World.cell?_of_block (a := ⟨bt, k, none⟩) (heap_setCell_other _ _ _ _ (by show bt ≠ r; omega))).trans y2
                refine hK.out _ _ ⟨s1, s2⟩ (fun hHeld => ?_)
                clear hK K
                refine wpAnyH_done (by kernel_rfl) ?_ _
                clear hHeld s1 s2 y1 y2 y3 x1 x2 x3 v0 v1 v2 n0 n1 n2 hst7 hb7 hst7a hb7a ho7
                go_wp2
                go_roundw
                case rel => exact ⟨k + 1, p7, m + 1, c7, by omega, by go_num, by rw [HP1.out]; go_num, by show _ = _; rw [HSY.out, List.length_append, ← HM.out]; rfl, by rw [HAi.out, HG1.out, HSY.out]; exact S7⟩
                case measure => simp [intOf]; omega
              · have x1 : (wr.alloc (Obj.cells #[Value.int IntKind.i64 xa, Value.int IntKind.i64 (V : Int)] 39)).cell? ⟨b, o + k * 4 + 1, none⟩ = some (.int .i64 xa) := (((Below.refl _ wr).alloc (Nat.le_refl _) _).cell (p := ⟨b, o + k * 4 + 1, none⟩) (lt_of_cell FF1)).trans FF1
                have x2 : (wr.alloc (Obj.cells #[Value.int IntKind.i64 xa, Value.int IntKind.i64 (V : Int)] 39)).cell? ⟨bt, k, none⟩ = some (.int .i64 (T : Int)) := (((Below.refl _ wr).alloc (Nat.le_refl _) _).cell (p := ⟨bt, k, none⟩) hbt3).trans t0
                have x3 : (wr.alloc (Obj.cells #[Value.int IntKind.i64 xa, Value.int IntKind.i64 (V : Int)] 39)).cell? ⟨r, 2, none⟩ = some (.slice q m d) := (((Below.refl _ wr).alloc (Nat.le_refl _) _).cell (p := ⟨r, 2, none⟩) hrz).trans c2
                go_simp
                refine hK.out _ _ ⟨x1, x2⟩ (fun hHeld => ?_)
                clear hK K
                try simp only [Act.put, List.getElem_toArray, List.getElem_cons_succ, List.getElem_cons_zero, List.setIfInBounds_toArray, List.set_cons_zero, List.set_cons_succ]
                refine wpAnyH_ready (rs := [1]) (by kernel_rfl) (by simp) ?_
                refine AllReadyH.cons (o := _) rfl (fun K hK => ?_) AllReadyH.nil
                go_simp
                refine hK.out _ _ ⟨x1, x2⟩ (fun hHeld => ?_)
                clear hK K
                try simp only [Act.put, List.getElem_toArray, List.getElem_cons_succ, List.getElem_cons_zero, List.setIfInBounds_toArray, List.set_cons_zero, List.set_cons_succ]
                refine wpAnyH_ready (rs := [15]) (by kernel_rfl) (by simp) ?_
                refine AllReadyH.cons (o := _) rfl (fun K hK => ?_) AllReadyH.nil
                refine step_app tSp _ rfl _ _ rfl (r + 1) q d (spL l k) m HM.out.symm rfl (own_below SD.os (((Below.refl _ _).alloc (Nat.le_refl _) _).drew)) _ _ [(xa, (V : Int))] 1 rfl rfl ((rd_sp (heap_alloc_new wr _)).below ((Below.refl _ _).drew)) (by omega) (by simp; omega) (m + 1) rfl ?_
                intro p7 c7 w7 ho7 hb7a hst7a
                have hb7 := ((Below.refl (r + 1) (wr.alloc (Obj.cells #[Value.int IntKind.i64 xa, Value.int IntKind.i64 (V : Int)] 39))).drew).trans hb7a
                have hst7 : Stays (wr.alloc (Obj.cells #[Value.int IntKind.i64 xa, Value.int IntKind.i64 (V : Int)] 39)) w7 q := hst7a
                have S7 := Cs.app (m7 := m + 1) SD ho7 hb7 hst7
                have y1 : w7.cell? ⟨b, o + k * 4 + 1, none⟩ = some (.int .i64 xa) := (hb7.cell (p := ⟨b, o + k * 4 + 1, none⟩) (by have := SD.lt; show b < r + 1; omega)).trans x1
                have y2 : w7.cell? ⟨bt, k, none⟩ = some (.int .i64 (T : Int)) := (World.cell?_of_block (a := ⟨bt, k, none⟩) (hst7 bt (by simp; omega) (own_apart SD.os gbt (by decide)))).trans x2
                have y3 : w7.heap[r]? = _ := (hb7.block r (by omega)).trans ((Below.heap_alloc _ _ _ hrz).trans SD.c)
                obtain ⟨⟨v0, v1, v2⟩, n0, n1, n2⟩ := cellT y3
                refine hK.out _ _ ⟨y1, y2⟩ (fun hHeld => ?_)
                clear hK K
                try simp only [Act.put, List.getElem_toArray, List.getElem_cons_succ, List.getElem_cons_zero, List.setIfInBounds_toArray, List.set_cons_zero, List.set_cons_succ]
                refine wpAnyH_take (i := 16) (oi := _) (v := ?_) rfl (by kernel_rfl) (by kernel_rfl) (by kernel_rfl) (fun _ _ _ h => h) (Or.inl ⟨by rfl, ?_⟩) hHeld ?_
                rotate_left
                · intro w' hSw
                  (go_simp <;> with_reducible rfl)
                try simp only [Act.put, List.getElem_toArray, List.getElem_cons_succ, List.getElem_cons_zero, List.setIfInBounds_toArray, List.set_cons_zero, List.set_cons_succ]
                refine wpAnyH_ready (rs := [17]) (by kernel_rfl) (by simp) ?_
                refine AllReadyH.cons (o := _) rfl (fun K hK => ?_) AllReadyH.nil
                go_simp
                have s1 : (w7.setCell ⟨r, 2, none⟩ (.slice p7 (m + 1) c7)).cell? ⟨b, o + k * 4 + 1, none⟩ = some (.int .i64 xa) := (World.cell?_of_block (a := ⟨b, o + k * 4 + 1, none⟩) (heap_setCell_other _ _ _ _ (by show b ≠ r; have := SD.lt; omega))).trans y1
                have s2 : (w7.setCell ⟨r, 2, none⟩ (.slice p7 (m + 1) c7)).cell? ⟨bt, k, none⟩ = some (.int .i64 (T : Int)) := (World.cell?_of_block (a := ⟨bt, k, none⟩) (heap_setCell_other _ _ _ _ (by show bt ≠ r; omega))).trans y2
                refine hK.out _ _ ⟨s1, s2⟩ (fun hHeld => ?_)
                clear hK K
                refine wpAnyH_done (by kernel_rfl) ?_ _
                clear hHeld s1 s2 y1 y2 y3 x1 x2 x3 v0 v1 v2 n0 n1 n2 hst7 hb7 hst7a hb7a ho7
                go_wp2
                go_roundw
                case rel => exact ⟨k + 1, p7, m + 1, c7, by omega, by go_num, by rw [HP1.out]; go_num, by show _ = _; rw [HSY.out, List.length_append, ← HM.out]; rfl, by rw [HAi.out, HG1.out, HSY.out]; exact S7⟩
                case measure => simp [intOf]; omega
        · have d9 : (xo == 9) = false := by simpa using h9
          have HSP : Hid (spL l (k + 1) = spL l k) := spL_no (by rw [HG.out]; exact h9)
          clear F0 F1 FF1 hTime
          go_wp2
          go_roundw
          case rel => exact ⟨k + 1, q, m, d, by omega, by go_num, by rw [HP1.out]; go_num, by show _ = _; rw [HSP.out]; exact HM.out, by rw [HAi.out, HG1.out, HSP.out]; exact SD⟩
          case measure => simp [intOf]; omega
    · obtain rfl : k = mp := by omega
      have dk : decide ((k : Int) < (k : Int)) = false := by simp
      obtain ⟨⟨⟨c0, c1, c2⟩, z0, z1, z2⟩, hrz⟩ := hS.facts
      obtain ⟨⟨k0, k1, k2⟩, v0, v1, v2⟩ := cellT hS.g
      have hg0 := lt_of_block hS.g
      generalize hAe : Sm l 0 0 k = A at *
      generalize hGe : lgs l k = G at *
      have hl := hS.lt
      have hrg : (r == w.heap.size) = false := by simp; omega
      obtain ⟨gf, of, bf⟩ := st3 hS.g hS.os (by omega) hS.b (Nat.le_refl _) (.int .i64 (A : Int)) (.int .i64 (G : Int)) (.slice q m d)
      go_wp2
      refine bodyPost_ret (v := .tuple #[.agg #[.int .i64 (A : Int), .int .i64 (G : Int), .slice q m d], .bool true]) (res14 rfl rfl gf rfl) rfl ?_
      exact ⟨⟨q, d, m, by rw [hAe, hGe], HM.out, own_mono of (by omega)⟩, bf⟩
end Go.Proofs.Ytonholadabebbaa
