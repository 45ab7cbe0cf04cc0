/-
  No step of a machine: it is over, it is at none of the row, or at one that may not be.
-/
import Derived.Test.YtonholadabebbaaVm7
import Derived.WalkSpells
namespace Go.Proofs.Ytonholadabebbaa
open Go.ChangeShapes Go.WideShapes Go.ChangeAt Go.RowKit
attribute [local go_sem ↓] Go.wp_at_zero Go.wp_at_succ

theorem res20 {tmps : Array Value} {w : World} {r : Nat} {pc : Int} {mem : List Int} {q : Option Addr} {k d : Nat} {ov b : Bool} {xo xa xb xn : Int} (h4 : tmps.getD 4 undef = .pointer (some ⟨r + 1, 0, none⟩)) (h5 : tmps.getD 5 undef = .pointer (some ⟨r + 1 + 1, 0, none⟩)) (h6 : tmps.getD 6 undef = .bool b)
    (g4 : w.heap[r + 1]? = some (.cells (mcell pc mem q k d ov) 63 (0, 0))) (hm : mem.length = 8) (g5 : w.heap[r + 1 + 1]? = some (.cells #[.int .i64 xo, .int .i64 xa, .int .i64 xb, .int .i64 xn] 42 (0, 0))) :
    (results Try.f25 tmps).run Try.prog w = .ok (.tuple #[.agg (mcell pc mem q k d ov), .agg #[.int .i64 xo, .int .i64 xa, .int .i64 xb, .int .i64 xn], .bool b]) w := by
  have e4 := run_loadVar_row (P := Try.prog) w (r + 1) 63 63 _ (0, 0) _ g4 Try.underlying63 rfl (by rw [mcell_size hm]; exact info38)
  have e5 := run_loadVar_row (P := Try.prog) w (r + 1 + 1) 42 42 _ (0, 0) _ g5 Try.underlying42 rfl info41
  have k4 : tmps[4]?.getD undef = .pointer (some ⟨r + 1, 0, none⟩) := by simpa using h4
  have k5 : tmps[5]?.getD undef = .pointer (some ⟨r + 1 + 1, 0, none⟩) := by simpa using h5
  have k6 : tmps[6]?.getD undef = .bool b := by simpa using h6
  simp [results, Try.results25, k4, k5, k6, asAddr, e4, e5]
/-- no step -/
def NoStep (pc : Int) (mem : List Int) (R : List Rp) (ov : Bool) (k : Nat) (w : World) (e : Ending) (w' : World) : Prop :=
  (∃ (q9 : Option Addr) (d9 : Nat), e = .returned (.tuple #[.agg (mcell pc mem q9 k d9 ov), .agg #[.int .i64 0, .int .i64 0, .int .i64 0, .int .i64 0], .bool false]) ∧ Own eRp w' (w.heap.size + 3) 79 q9 d9 R) ∧ Below w.heap.size w w'
theorem Vs.fin {w wl : World} {r : Nat} {pc : Int} {mem : List Int} {q : Option Addr} {k d : Nat} {ov : Bool} {RL : List Rp} (h : Vs w r wl pc mem q k d ov RL) (a b : Array Value) : Own eRp ((wl.setRow (r + 1) a).setRow (r + 1 + 1) b) (r + 3) 79 q d RL ∧ Below r w ((wl.setRow (r + 1) a).setRow (r + 1 + 1) b) :=
  ⟨own_row (own_row h.o (by omega) a) (by omega) b, below_setRow (below_setRow h.B (by omega) a) (by omega) b⟩
theorem Vs.first5 {w w5 : World} {pc : Int} {mem : List Int} {q p5 : Option Addr} {k d c5 : Nat} {ov : Bool} {R : List Rp} (hm : mem.length = 8) {w0 : World} {D : Obj} (hw0 : w0 = (((w.alloc (.cells (mcell pc mem q k d ov) 63)).alloc (.cells #[.int .i64 0, .int .i64 0, .int .i64 0, .int .i64 0, .int .i64 0, .int .i64 0, .int .i64 0, .int .i64 0, .int .i64 0, .slice none 0 0, .bool false] 63)).alloc (.cells #[.int .i64 0, .int .i64 0, .int .i64 0, .int .i64 0] 42)).alloc D) (b5 : Below (w.heap.size + 3) w0 w5) (o5 : Own eRp w5 (w.heap.size + 3) 79 p5 c5 ([] ++ R)) :
    Mc w5 w.heap.size pc mem q k d ov ∧ w.heap.size + 3 ≤ w5.heap.size ∧ Below w.heap.size w w5 ∧ Vs w w.heap.size (w5.setCell ⟨w.heap.size, 9, none⟩ (.slice p5 k c5)) pc mem p5 k c5 ov R := by
  subst hw0
  obtain ⟨H3, H4, H5, hz5, B5⟩ := four b5
  have M5 : Mc w5 w.heap.size pc mem q k d ov := ⟨H3, hm⟩
  exact ⟨M5, by omega, B5, M5.s9 p5 k c5, ⟨_, rfl, (heap_setCell_other _ _ _ _ (by simp)).trans H4⟩, ⟨_, rfl, (heap_setCell_other _ _ _ _ (by simp <;> omega)).trans H5⟩, B5.setCell (Nat.le_refl _) _, own_lowE o5 (by simp) _⟩

set_option maxRecDepth 100000 in
set_option maxHeartbeats 8000000 in
theorem rno_a (p : Option Addr) (c : Nat) (w : World)  (n : Nat) (mem : List Int) (hm : mem.length = 8) (q : Option Addr) (d k : Nat) (R : List Rp) (hR : Rd eRp w q d R) (hk : R.length = k) (hk3 : k ≤ 1000) (pc : Int) :
    Calls Try.prog 25 #[.slice p n c, .agg (mcell pc mem q k d true)] w fun e w' => NoStep pc mem R true k w e w' := by
  have HK : Hid (R.length = k) := hk
  have HM : Hid (mem.length = 8) := hm
  have q0 := mcell_0 pc mem q k d true
  have q9 := mcell_9 (pc := pc) (q := q) (k := k) (d := d) (ov := true) hm
  have q10 := mcell_10 (pc := pc) (q := q) (k := k) (d := d) (ov := true) hm
  clear hk hm
  go_enter Try.func25, Try.ntmps25
  go_wp2_with (first
    | (at_builtin; refine wpList_app tRp _ rfl _ _ rfl (w.heap.size + 3) _ _ [] 0 rfl rfl (own_blockg (by simp) (by omega) rfl 0 rfl (by decide)) q d R k HK.out rfl (hR.below ((by repeat (first | exact Below.refl _ _ | refine Below.alloc ?_ (by simp <;> omega) _ | refine Below.setCell ?_ (by simp <;> omega) _)) : Below w.heap.size w _)) (by omega) (by simp) k (by omega) ?_; intro q2 d2 w2 o2 b2 st2
       obtain ⟨M2, hz2, B2, V2⟩ := Vs.first5 HM.out rfl b2 o2
       clear o2 b2 st2
       have c0 := M2.c0
       have c9 := M2.c9
       have c10 := M2.c10
       have fr2 := M2.fr
       have hwz2 : w.heap.size < w2.heap.size := by omega
       obtain ⟨u4, n4, g4⟩ := V2.h4
       obtain ⟨u5, n5, g5⟩ := V2.h5)
    | (refine wpList_load_row rfl 63 (.tmp 3) rfl w.heap.size rfl 63 (mcell pc mem q2 k d2 true) (0, 0) _ V2.M.at_ Try.underlying63 rfl (by rw [mcell_size HM.out]; exact info38) ?_)
    | (refine wpList_store_row rfl 63 (.tmp 4) (.tmp 38) rfl (w.heap.size + 1) (mcell pc mem q2 k d2 true) rfl rfl 63 u4 g4 (by rw [mcell_size HM.out]; exact info38) (by rw [mcell_size HM.out]; exact n4) (mcell_one _ _ _ _ _ _) ?_)
    | (refine wpList_store_row rfl 42 (.tmp 5) (.tmp 39) rfl (w.heap.size + 1 + 1) #[.int .i64 0, .int .i64 0, .int .i64 0, .int .i64 0] rfl rfl 42 u5 ((setRow_other _ _ _ _ (by omega)).trans g5) info41 n5 (ins_one _ _ _ _) ?_))
  refine bodyPost_ret (v := .tuple #[.agg (mcell pc mem q2 k d2 true), .agg #[.int .i64 0, .int .i64 0, .int .i64 0, .int .i64 0], .bool false]) (res20 rfl rfl rfl ((setRow_other _ _ _ _ (by omega)).trans (setRow_heap _ _ _ _ _ _ g4)) HM.out (setRow_heap _ _ _ _ _ _ ((setRow_other _ _ _ _ (by omega)).trans g5))) rfl ?_
  exact ⟨⟨_, _, rfl, (V2.fin _ _).1⟩, (V2.fin _ _).2⟩

set_option maxRecDepth 100000 in
set_option maxHeartbeats 8000000 in
theorem rno_b (p : Option Addr) (c : Nat) (w : World)  (n : Nat) (mem : List Int) (hm : mem.length = 8) (q : Option Addr) (d k : Nat) (R : List Rp) (hR : Rd eRp w q d R) (hk : R.length = k) (hk3 : k ≤ 1000) (pc : Int) (hpc : pc < 0) :
    Calls Try.prog 25 #[.slice p n c, .agg (mcell pc mem q k d false)] w fun e w' => NoStep pc mem R false k w e w' := by
  have z2 : decide (pc < 0) = true := decide_eq_true hpc
  have HK : Hid (R.length = k) := hk
  have HM : Hid (mem.length = 8) := hm
  have q0 := mcell_0 pc mem q k d false
  have q9 := mcell_9 (pc := pc) (q := q) (k := k) (d := d) (ov := false) hm
  have q10 := mcell_10 (pc := pc) (q := q) (k := k) (d := d) (ov := false) hm
  clear hk hm
  go_enter Try.func25, Try.ntmps25
  go_wp2_with (first
    | (at_builtin; refine wpList_app tRp _ rfl _ _ rfl (w.heap.size + 3) _ _ [] 0 rfl rfl (own_blockg (by simp) (by omega) rfl 0 rfl (by decide)) q d R k HK.out rfl (hR.below ((by repeat (first | exact Below.refl _ _ | refine Below.alloc ?_ (by simp <;> omega) _ | refine Below.setCell ?_ (by simp <;> omega) _)) : Below w.heap.size w _)) (by omega) (by simp) k (by omega) ?_; intro q2 d2 w2 o2 b2 st2
       obtain ⟨M2, hz2, B2, V2⟩ := Vs.first5 HM.out rfl b2 o2
       clear o2 b2 st2
       have c0 := M2.c0
       have c9 := M2.c9
       have c10 := M2.c10
       have fr2 := M2.fr
       have hwz2 : w.heap.size < w2.heap.size := by omega
       obtain ⟨u4, n4, g4⟩ := V2.h4
       obtain ⟨u5, n5, g5⟩ := V2.h5)
    | (refine wpList_load_row rfl 63 (.tmp 3) rfl w.heap.size rfl 63 (mcell pc mem q2 k d2 false) (0, 0) _ V2.M.at_ Try.underlying63 rfl (by rw [mcell_size HM.out]; exact info38) ?_)
    | (refine wpList_store_row rfl 63 (.tmp 4) (.tmp 38) rfl (w.heap.size + 1) (mcell pc mem q2 k d2 false) rfl rfl 63 u4 g4 (by rw [mcell_size HM.out]; exact info38) (by rw [mcell_size HM.out]; exact n4) (mcell_one _ _ _ _ _ _) ?_)
    | (refine wpList_store_row rfl 42 (.tmp 5) (.tmp 39) rfl (w.heap.size + 1 + 1) #[.int .i64 0, .int .i64 0, .int .i64 0, .int .i64 0] rfl rfl 42 u5 ((setRow_other _ _ _ _ (by omega)).trans g5) info41 n5 (ins_one _ _ _ _) ?_))
  refine bodyPost_ret (v := .tuple #[.agg (mcell pc mem q2 k d2 false), .agg #[.int .i64 0, .int .i64 0, .int .i64 0, .int .i64 0], .bool false]) (res20 rfl rfl rfl ((setRow_other _ _ _ _ (by omega)).trans (setRow_heap _ _ _ _ _ _ g4)) HM.out (setRow_heap _ _ _ _ _ _ ((setRow_other _ _ _ _ (by omega)).trans g5))) rfl ?_
  exact ⟨⟨_, _, rfl, (V2.fin _ _).1⟩, (V2.fin _ _).2⟩

set_option maxRecDepth 100000 in
set_option maxHeartbeats 8000000 in
theorem rno_c (p : Option Addr) (c : Nat) (w : World)  (n : Nat) (mem : List Int) (hm : mem.length = 8) (q : Option Addr) (d k : Nat) (R : List Rp) (hR : Rd eRp w q d R) (hk : R.length = k) (hk3 : k ≤ 1000) (pc : Int) (hpc0 : 0 ≤ pc) (hpc : (n : Int) ≤ pc) :
    Calls Try.prog 25 #[.slice p n c, .agg (mcell pc mem q k d false)] w fun e w' => NoStep pc mem R false k w e w' := by
  have z2 : decide (pc < 0) = false := decide_eq_false (by omega)
  have z3 : decide ((n : Int) ≤ pc) = true := decide_eq_true hpc
  have HK : Hid (R.length = k) := hk
  have HM : Hid (mem.length = 8) := hm
  have q0 := mcell_0 pc mem q k d false
  have q9 := mcell_9 (pc := pc) (q := q) (k := k) (d := d) (ov := false) hm
  have q10 := mcell_10 (pc := pc) (q := q) (k := k) (d := d) (ov := false) hm
  clear hk hm
  go_enter Try.func25, Try.ntmps25
  go_wp2_with (first
    | (at_builtin; refine wpList_app tRp _ rfl _ _ rfl (w.heap.size + 3) _ _ [] 0 rfl rfl (own_blockg (by simp) (by omega) rfl 0 rfl (by decide)) q d R k HK.out rfl (hR.below ((by repeat (first | exact Below.refl _ _ | refine Below.alloc ?_ (by simp <;> omega) _ | refine Below.setCell ?_ (by simp <;> omega) _)) : Below w.heap.size w _)) (by omega) (by simp) k (by omega) ?_; intro q2 d2 w2 o2 b2 st2
       obtain ⟨M2, hz2, B2, V2⟩ := Vs.first5 HM.out rfl b2 o2
       clear o2 b2 st2
       have c0 := M2.c0
       have c9 := M2.c9
       have c10 := M2.c10
       have fr2 := M2.fr
       have hwz2 : w.heap.size < w2.heap.size := by omega
       obtain ⟨u4, n4, g4⟩ := V2.h4
       obtain ⟨u5, n5, g5⟩ := V2.h5)
    | (refine wpList_load_row rfl 63 (.tmp 3) rfl w.heap.size rfl 63 (mcell pc mem q2 k d2 false) (0, 0) _ V2.M.at_ Try.underlying63 rfl (by rw [mcell_size HM.out]; exact info38) ?_)
    | (refine wpList_store_row rfl 63 (.tmp 4) (.tmp 38) rfl (w.heap.size + 1) (mcell pc mem q2 k d2 false) rfl rfl 63 u4 g4 (by rw [mcell_size HM.out]; exact info38) (by rw [mcell_size HM.out]; exact n4) (mcell_one _ _ _ _ _ _) ?_)
    | (refine wpList_store_row rfl 42 (.tmp 5) (.tmp 39) rfl (w.heap.size + 1 + 1) #[.int .i64 0, .int .i64 0, .int .i64 0, .int .i64 0] rfl rfl 42 u5 ((setRow_other _ _ _ _ (by omega)).trans g5) info41 n5 (ins_one _ _ _ _) ?_))
  refine bodyPost_ret (v := .tuple #[.agg (mcell pc mem q2 k d2 false), .agg #[.int .i64 0, .int .i64 0, .int .i64 0, .int .i64 0], .bool false]) (res20 rfl rfl rfl ((setRow_other _ _ _ _ (by omega)).trans (setRow_heap _ _ _ _ _ _ g4)) HM.out (setRow_heap _ _ _ _ _ _ ((setRow_other _ _ _ _ (by omega)).trans g5))) rfl ?_
  exact ⟨⟨_, _, rfl, (V2.fin _ _).1⟩, (V2.fin _ _).2⟩

set_option maxRecDepth 100000 in
set_option maxHeartbeats 8000000 in
theorem rno_d (p : Option Addr) (c : Nat) (l : List In) (w : World) (hr : Rd eIn w p c l) (n : Nat) (hN : l.length = n) (mem : List Int) (hm : mem.length = 8) (q : Option Addr) (d k : Nat) (R : List Rp) (hR : Rd eRp w q d R) (hk : R.length = k) (hk3 : k ≤ 1000) (pc : Nat) (hpc : pc < n) (hmy : mayB (gt l pc) = false) :
    Calls Try.prog 25 #[.slice p n c, .agg (mcell (pc : Int) mem q k d false)] w fun e w' => NoStep (pc : Int) mem R false k w e w' := by
  rw [gt_eq (by omega)] at hmy
  have hpl : pc < l.length := by omega
  obtain ⟨b, o, rfl, hb, f0, f1, f2, f3⟩ := hr.inst pc hpl
  generalize l[pc] = x at *
  obtain ⟨xo, xa, xb, xn⟩ := x
  simp only at f0 f1 f2 f3
  have z0 : (0 : Int) ≤ (pc : Int) := by omega
  have z1 : (pc : Int) < (n : Int) := by omega
  have z2 : decide ((pc : Int) < 0) = false := decide_eq_false (by omega)
  have z3 : decide ((n : Int) ≤ (pc : Int)) = false := decide_eq_false (by omega)
  have z4 : decide (n ≤ pc) = false := decide_eq_false (by omega)
  clear hpl
  have HK : Hid (R.length = k) := hk
  have HM : Hid (mem.length = 8) := hm
  have q0 := mcell_0 (pc : Int) mem q k d false
  have q9 := mcell_9 (pc := (pc : Int)) (q := q) (k := k) (d := d) (ov := false) hm
  have q10 := mcell_10 (pc := (pc : Int)) (q := q) (k := k) (d := d) (ov := false) hm
  clear hk hm hN
  go_enter Try.func25, Try.ntmps25
  go_wp2_with (first
    | (at_builtin; refine wpList_app tRp _ rfl _ _ rfl (w.heap.size + 3) _ _ [] 0 rfl rfl (own_blockg (by simp) (by omega) rfl 0 rfl (by decide)) q d R k HK.out rfl (hR.below ((by repeat (first | exact Below.refl _ _ | refine Below.alloc ?_ (by simp <;> omega) _ | refine Below.setCell ?_ (by simp <;> omega) _)) : Below w.heap.size w _)) (by omega) (by simp) k (by omega) ?_; intro q2 d2 w2 o2 b2 st2
       obtain ⟨M2, hz2, B2, V2⟩ := Vs.first5 HM.out rfl b2 o2
       clear o2 b2 st2
       have c0 := M2.c0
       have c9 := M2.c9
       have c10 := M2.c10
       have fr2 := M2.fr
       have hwz2 : w.heap.size < w2.heap.size := by omega
       have hbz2 : b < w2.heap.size := by omega
       have g0 := (B2.cell (p := ⟨b, o + pc * 4, none⟩) hb).trans f0
       have g1 := (B2.cell (p := ⟨b, o + pc * 4 + 1, none⟩) hb).trans f1
       have g2 := (B2.cell (p := ⟨b, o + pc * 4 + 2, none⟩) hb).trans f2
       have g3 := (B2.cell (p := ⟨b, o + pc * 4 + 3, none⟩) hb).trans f3
       have hbw : ¬ b = w.heap.size := by omega)
    | (go_at_call 35; refine (mayInst_any (xo, xa, xb, xn) _).mono ?_; rw [hmy]; rintro e w6 ⟨rfl, b6⟩
       have V6 := V2.grow b6
       obtain ⟨u4, n4, g4⟩ := V6.h4
       obtain ⟨u5, n5, g5⟩ := V6.h5
       clear c0 c9 c10 fr2 g0 g1 g2 g3 M2 B2 hz2 hbz2 hwz2 b6 V2)
    | (refine wpList_load_row rfl 63 (.tmp 3) rfl w.heap.size rfl 63 (mcell (pc : Int) mem q2 k d2 false) (0, 0) _ V6.M.at_ Try.underlying63 rfl (by rw [mcell_size HM.out]; exact info38) ?_)
    | (refine wpList_store_row rfl 63 (.tmp 4) (.tmp 38) rfl (w.heap.size + 1) (mcell (pc : Int) mem q2 k d2 false) rfl rfl 63 u4 g4 (by rw [mcell_size HM.out]; exact info38) (by rw [mcell_size HM.out]; exact n4) (mcell_one _ _ _ _ _ _) ?_)
    | (refine wpList_store_row rfl 42 (.tmp 5) (.tmp 39) rfl (w.heap.size + 1 + 1) #[.int .i64 0, .int .i64 0, .int .i64 0, .int .i64 0] rfl rfl 42 u5 ((setRow_other _ _ _ _ (by omega)).trans g5) info41 n5 (ins_one _ _ _ _) ?_))
  refine bodyPost_ret (v := .tuple #[.agg (mcell (pc : Int) mem q2 k d2 false), .agg #[.int .i64 0, .int .i64 0, .int .i64 0, .int .i64 0], .bool false]) (res20 rfl rfl rfl ((setRow_other _ _ _ _ (by omega)).trans (setRow_heap _ _ _ _ _ _ g4)) HM.out (setRow_heap _ _ _ _ _ _ ((setRow_other _ _ _ _ (by omega)).trans g5))) rfl ?_
  exact ⟨⟨_, _, rfl, (V6.fin _ _).1⟩, (V6.fin _ _).2⟩
end Go.Proofs.Ytonholadabebbaa
