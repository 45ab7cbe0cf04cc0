/-
  Where a machine is behind an instruction, by the program.
-/
import Derived.Test.YtboffjabffcddaaStepl
import Derived.WalkSpells
namespace Go.Proofs.Ytboffjabffcddaa
open Go.ChangeShapes Go.WideShapes Go.ChangeAt Go.RowKit
attribute [local go_sem ↓] Go.wp_at_zero Go.wp_at_succ

theorem res29 {tmps : Array Value} {w : World} {r : Nat} {pc : Int} {mem : List Int} {q : Option Addr} {k d : Nat} {ov : Bool} (hm : mem.length = 8) (h4 : tmps.getD 4 undef = .pointer (some ⟨r, 0, none⟩)) (g4 : w.heap[r]? = some (.cells (mcell pc mem q k d ov) 47 (0, 0))) :
    (results Try.f39 tmps).run Try.prog w = .ok (.agg (mcell pc mem q k d ov)) w := by
  have e4 := run_loadVar_row (P := Try.prog) w r 47 47 _ (0, 0) _ g4 Try.underlying47 rfl (by rw [mcell_size hm]; exact info38)
  have k4 : tmps[4]?.getD undef = .pointer (some ⟨r, 0, none⟩) := by simpa using h4
  simp [results, Try.results39, k4, asAddr, e4]

set_option maxRecDepth 100000 in
set_option maxHeartbeats 8000000 in
theorem moved_end (pc : Int) (mem : List Int) (hm : mem.length = 8) (q : Option Addr) (k d : Nat) (xo xa xb xn : Int) (w : World) (hx : xo = 0) : Calls Try.prog 39 #[.agg (mcell pc mem q k d false), .agg #[.int .i64 xo, .int .i64 xa, .int .i64 xb, .int .i64 xn]] w fun e w' => e = .returned (.agg (mcell pc mem q k d true)) ∧ Below w.heap.size w w' := by
  have e0 : (xo == 0) = true := by simp [hx]
  clear hx
  have q10 := mcell_10 (pc := pc) (q := q) (k := k) (d := d) (ov := false) hm
  go_enter Try.func39, Try.ntmps39
  go_wp2_with (first
    | (refine wpList_load_row rfl 47 (.tmp 2) rfl w.heap.size rfl 47 (mcell pc mem q k d true) (0, 0) _ (((Below.heap_alloc _ _ _ (by simp <;> omega)).trans ((Below.heap_alloc _ _ _ (by simp <;> omega)).trans (heap_at rfl))).trans (by rw [mset_10 hm])) Try.underlying47 rfl (by rw [mcell_size hm]; exact info38) ?_)
    | (refine wpList_store_row rfl 47 (.tmp 4) (.tmp 9) rfl (w.heap.size + 1 + 1) (mcell pc mem q k d true) rfl rfl 47 _ (heap_at (by simp)) (by rw [mcell_size hm]; exact info38) (by rw [mcell_size hm]; rfl) (mcell_one _ _ _ _ _ _) ?_))
  refine bodyPost_ret (v := .agg (mcell pc mem q k d true)) (res29 hm rfl (setRow_heap _ _ _ _ _ _ (heap_at (by simp)))) rfl ?_
  exact ⟨rfl, below_setRow (by repeat (first | exact Below.refl _ _ | refine Below.alloc ?_ (by simp <;> omega) _ | refine Below.setCell ?_ (by simp <;> omega) _)) (by omega) _⟩

theorem mcell_V {pc : Int} {mem : List Int} {q : Option Addr} {k d : Nat} {ov : Bool} {j : Nat} {V : Int} (hj : mem[j]? = some V) : (mcell pc mem q k d ov)[1 + j]? = some (.int .i64 V) := by
  obtain ⟨hl, rfl⟩ := List.getElem?_eq_some_iff.1 hj
  exact mcell_m hl

set_option maxRecDepth 100000 in
set_option maxHeartbeats 8000000 in
theorem moved_plain (pc : Int) (hp0 : 0 ≤ pc) (hp1 : pc ≤ 1000) (mem : List Int) (hm : mem.length = 8) (q : Option Addr) (k d : Nat) (xo xa xb xn : Int) (w : World) (hx : xo ≠ 0 ∧ xo ≠ 7 ∧ xo ≠ 8) : Calls Try.prog 39 #[.agg (mcell pc mem q k d false), .agg #[.int .i64 xo, .int .i64 xa, .int .i64 xb, .int .i64 xn]] w fun e w' => e = .returned (.agg (mcell (pc + 1) mem q k d false)) ∧ Below w.heap.size w w' := by
  have e0 : (xo == 0) = false := by simp; omega
  have e7 : (xo == 7) = false := by simp; omega
  have e8 : (xo == 8) = false := by simp; omega
  have q0 := mcell_0 pc mem q k d false
  have q1 := mcell_0 (pc + 1) mem q k d false
  have q2 := mset_0 pc (pc + 1) mem q k d false
  go_enter Try.func39, Try.ntmps39
  go_wp2_with (first
    | (refine wpList_load_row rfl 47 (.tmp 2) rfl w.heap.size rfl 47 (mcell (pc + 1) mem q k d false) (0, 0) _ ((Below.heap_alloc _ _ _ (by simp <;> omega)).trans ((Below.heap_alloc _ _ _ (by simp <;> omega)).trans (heap_at rfl))) Try.underlying47 rfl (by rw [mcell_size hm]; exact info38) ?_)
    | (refine wpList_store_row rfl 47 (.tmp 4) (.tmp 53) rfl (w.heap.size + 1 + 1) (mcell (pc + 1) mem q k d false) rfl rfl 47 _ (heap_at (by simp)) (by rw [mcell_size hm]; exact info38) (by rw [mcell_size hm]; rfl) (mcell_one _ _ _ _ _ _) ?_))
  refine bodyPost_ret (v := .agg (mcell (pc + 1) mem q k d false)) (res29 hm rfl (setRow_heap _ _ _ _ _ _ (heap_at (by simp)))) rfl ?_
  exact ⟨rfl, below_setRow (by repeat (first | exact Below.refl _ _ | refine Below.alloc ?_ (by simp <;> omega) _ | refine Below.setCell ?_ (by simp <;> omega) _)) (by omega) _⟩

set_option maxRecDepth 100000 in
set_option maxHeartbeats 8000000 in
theorem moved_stay (pc : Int) (hp0 : 0 ≤ pc) (hp1 : pc ≤ 1000) (mem : List Int) (hm : mem.length = 8) (q : Option Addr) (k d : Nat) (xo xa xb xn : Int) (w : World) (hx : xo = 7) (ha : 0 ≤ xa ∧ xa ≤ 7) (V : Int) (HV : Hid (mem[xa.toNat]? = some V)) (hv : V ≠ 0) : Calls Try.prog 39 #[.agg (mcell pc mem q k d false), .agg #[.int .i64 xo, .int .i64 xa, .int .i64 xb, .int .i64 xn]] w fun e w' => e = .returned (.agg (mcell (pc + 1) mem q k d false)) ∧ Below w.heap.size w w' := by
  have e0 : (xo == 0) = false := by simp; omega
  have e7 : (xo == 7) = true := by simp [hx]
  have e8 : (xo == 8) = false := by simp; omega
  have ev : (V == 0) = false := by simp [hv]
  have q7 := mcell_V (pc := pc + 1) (q := q) (k := k) (d := d) (ov := false) HV.out
  have za : 0 ≤ xa := ha.1
  have zb : xa < 8 := by omega
  have zc : xa.toNat < 8 := by omega
  have q0 := mcell_0 pc mem q k d false
  have q1 := mcell_0 (pc + 1) mem q k d false
  have q2 := mset_0 pc (pc + 1) mem q k d false
  go_enter Try.func39, Try.ntmps39
  go_wp2_with (first
    | (refine wpList_load_row rfl 47 (.tmp 2) rfl w.heap.size rfl 47 (mcell (pc + 1) mem q k d false) (0, 0) _ ((Below.heap_alloc _ _ _ (by simp <;> omega)).trans ((Below.heap_alloc _ _ _ (by simp <;> omega)).trans (heap_at rfl))) Try.underlying47 rfl (by rw [mcell_size hm]; exact info38) ?_)
    | (refine wpList_store_row rfl 47 (.tmp 4) (.tmp 53) rfl (w.heap.size + 1 + 1) (mcell (pc + 1) mem q k d false) rfl rfl 47 _ (heap_at (by simp)) (by rw [mcell_size hm]; exact info38) (by rw [mcell_size hm]; rfl) (mcell_one _ _ _ _ _ _) ?_))
  refine bodyPost_ret (v := .agg (mcell (pc + 1) mem q k d false)) (res29 hm rfl (setRow_heap _ _ _ _ _ _ (heap_at (by simp)))) rfl ?_
  exact ⟨rfl, below_setRow (by repeat (first | exact Below.refl _ _ | refine Below.alloc ?_ (by simp <;> omega) _ | refine Below.setCell ?_ (by simp <;> omega) _)) (by omega) _⟩

set_option maxRecDepth 100000 in
set_option maxHeartbeats 8000000 in
theorem moved_skip (pc : Int) (hp0 : 0 ≤ pc) (hp1 : pc ≤ 1000) (mem : List Int) (hm : mem.length = 8) (q : Option Addr) (k d : Nat) (xo xa xb xn : Int) (w : World) (hx : xo = 7) (ha : 0 ≤ xa ∧ xa ≤ 7) (V : Int) (HV : Hid (mem[xa.toNat]? = some V)) (hv : V = 0) (hn0 : 0 ≤ xn) (hn1 : xn ≤ 1000) : Calls Try.prog 39 #[.agg (mcell pc mem q k d false), .agg #[.int .i64 xo, .int .i64 xa, .int .i64 xb, .int .i64 xn]] w fun e w' => e = .returned (.agg (mcell (pc + 1 + xn) mem q k d false)) ∧ Below w.heap.size w w' := by
  have e0 : (xo == 0) = false := by simp; omega
  have e7 : (xo == 7) = true := by simp [hx]
  have e8 : (xo == 8) = false := by simp; omega
  have ev : (V == 0) = true := by simp [hv]
  have q7 := mcell_V (pc := pc + 1) (q := q) (k := k) (d := d) (ov := false) HV.out
  have za : 0 ≤ xa := ha.1
  have zb : xa < 8 := by omega
  have zc : xa.toNat < 8 := by omega
  have q5 := mset_0 (pc + 1) (pc + 1 + xn) mem q k d false
  have q0 := mcell_0 pc mem q k d false
  have q1 := mcell_0 (pc + 1) mem q k d false
  have q2 := mset_0 pc (pc + 1) mem q k d false
  go_enter Try.func39, Try.ntmps39
  go_wp2_with (first
    | (refine wpList_load_row rfl 47 (.tmp 2) rfl w.heap.size rfl 47 (mcell (pc + 1 + xn) mem q k d false) (0, 0) _ ((Below.heap_alloc _ _ _ (by simp <;> omega)).trans ((Below.heap_alloc _ _ _ (by simp <;> omega)).trans (heap_at rfl))) Try.underlying47 rfl (by rw [mcell_size hm]; exact info38) ?_)
    | (refine wpList_store_row rfl 47 (.tmp 4) (.tmp 53) rfl (w.heap.size + 1 + 1) (mcell (pc + 1 + xn) mem q k d false) rfl rfl 47 _ (heap_at (by simp)) (by rw [mcell_size hm]; exact info38) (by rw [mcell_size hm]; rfl) (mcell_one _ _ _ _ _ _) ?_))
  refine bodyPost_ret (v := .agg (mcell (pc + 1 + xn) mem q k d false)) (res29 hm rfl (setRow_heap _ _ _ _ _ _ (heap_at (by simp)))) rfl ?_
  exact ⟨rfl, below_setRow (by repeat (first | exact Below.refl _ _ | refine Below.alloc ?_ (by simp <;> omega) _ | refine Below.setCell ?_ (by simp <;> omega) _)) (by omega) _⟩
end Go.Proofs.Ytboffjabffcddaa
