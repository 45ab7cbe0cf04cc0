/-
  A machine's row of what is repeated, copied; memories behind an instruction, by the program.
-/
import Derived.Test.YtboffjabffcddaaStepl
import Derived.WalkSpells
import Derived.Lib.Overlaps
namespace Go.Proofs.Ytboffjabffcddaa
open Go.ChangeShapes Go.WideShapes Go.ChangeAt Go.RowKit
attribute [local go_sem ↓] Go.wp_at_zero Go.wp_at_succ

set_option maxHeartbeats 2000000 in
theorem clone_any (q : Option Addr) (d k : Nat) (R : List Rp) (w : World) (hR : Rd eRp w q d R) (hk : R.length = k) (hk3 : k ≤ 1000) : Calls Try.prog 35 #[.slice q k d] w fun e w' => (∃ (q9 : Option Addr) (d9 : Nat), e = .returned (.slice q9 k d9) ∧ Own eRp w' w.heap.size 73 q9 d9 R) ∧ Below w.heap.size w w' := by
  have hnil : ∀ (w : World) (a : Option Addr) (n c : Nat), (binOp .eql 45 (.slice a n c) (.slice none 0 0)).run Try.prog w = .ok (.bool a.isNone) w := fun w a n c => Lib.run_eql_slice_nil w 45 73 a n c 0 0 Try.underlying45
  have HK : Hid (R.length = k) := hk
  cases q with
  | none =>
    obtain ⟨rfl, rfl⟩ : R = [] ∧ d = 0 := by
      rcases hR.at_ with ⟨_, h1, h2⟩ | ⟨b, o, s, h, _, _⟩
      · exact ⟨h1, h2⟩
      · cases h
    obtain rfl : k = 0 := hk.symm
    clear hk
    go_enter Try.func35, Try.ntmps35
    go_wp2
    go_ret
    exact ⟨⟨_, _, rfl, own_nil _ _ _⟩, Below.refl _ _⟩
  | some a =>
    clear hk
    go_enter Try.func35, Try.ntmps35
    go_wp2_with (first
      | (at_builtin; refine wpList_app tRp _ rfl _ _ rfl w.heap.size _ _ [] 0 rfl rfl (own_blockg (by simp) (by omega) rfl 0 rfl (by decide)) (some a) d R k HK.out rfl (hR.below ((by repeat (first | exact Below.refl _ _ | refine Below.alloc ?_ (by simp <;> omega) _ | refine Below.setCell ?_ (by simp <;> omega) _)) : Below w.heap.size w _)) (by omega) (by simp) k (by omega) ?_; intro p5 c5 w5 o5 b5 st5))
    go_ret
    exact ⟨⟨_, _, rfl, o5⟩, ((by repeat (first | exact Below.refl _ _ | refine Below.alloc ?_ (by simp <;> omega) _ | refine Below.setCell ?_ (by simp <;> omega) _)) : Below w.heap.size w _).trans b5⟩
def cI (l : List Int) : Array Value := (l.map (Value.int .i64)).toArray
theorem cI_size (l : List Int) : (cI l).size = l.length := by simp [cI]
theorem cI_set (l : List Int) (k : Nat) (v : Int) : (cI l).setIfInBounds k (.int .i64 v) = cI (l.set k v) := by simp [cI, List.map_set]
theorem cI_get {l : List Int} {k : Nat} (h : k < l.length) : (cI l)[k]? = some (.int .i64 l[k]) := by simp [cI, List.getElem?_eq_getElem h]
theorem cI_one (l : List Int) : (cI l).all (·.oneCell') = true := by
  rw [Array.all_eq_true_iff_forall_mem]
  intro v hv
  simp [cI] at hv
  obtain ⟨x, _, rfl⟩ := hv
  rfl
theorem info24 : (Try.prog.info? 44).map (·.size) = some 8 := by kernel_rfl
theorem res27 {tmps : Array Value} {w : World} {r : Nat} {mem : List Int} (hm : mem.length = 8) (h4 : tmps.getD 4 undef = .pointer (some ⟨r, 0, none⟩)) (g4 : w.heap[r]? = some (.cells (cI mem) 44 (0, 0))) :
    (results Try.f37 tmps).run Try.prog w = .ok (.agg (cI mem)) w := by
  have e4 := run_loadVar_row (P := Try.prog) w r 44 44 _ (0, 0) _ g4 Try.underlying44 rfl (by rw [cI_size, hm]; exact info24)
  have k4 : tmps[4]?.getD undef = .pointer (some ⟨r, 0, none⟩) := by simpa using h4
  simp [results, Try.results37, k4, asAddr, e4]

theorem at_setI {mem : List Int} {w : World} {b j : Nat} {v : Int} (h : w.heap[b]? = some (.cells (cI mem) 44 (0, 0))) : (w.setCell ⟨b, j, none⟩ (.int .i64 v)).heap[b]? = some (.cells (cI (mem.set j v)) 44 (0, 0)) := by
  rw [heap_setCell_same _ _ _ _ _ _ h, cI_set]
theorem at_other {w : World} {b c j : Nat} {o : Obj} {v : Value} (h : w.heap[c]? = some o) (hne : c ≠ b) : (w.setCell ⟨b, j, none⟩ v).heap[c]? = some o := (heap_setCell_other _ _ _ _ (by simpa using hne)).trans h
theorem cI_getV {mem : List Int} {j : Nat} {V : Int} (hj : mem[j]? = some V) : (cI mem)[j]? = some (.int .i64 V) := by
  obtain ⟨hl, rfl⟩ := List.getElem?_eq_some_iff.1 hj
  exact cI_get hl
theorem cI_cell {mem : List Int} {w : World} {b j : Nat} {V : Int} (h : w.heap[b]? = some (.cells (cI mem) 44 (0, 0))) (hj : mem[j]? = some V) : w.cell? ⟨b, j, none⟩ = some (.int .i64 V) := by
  obtain ⟨hl, rfl⟩ := List.getElem?_eq_some_iff.1 hj
  rw [cell_of_row _ _ _ _ _ _ h]
  exact cI_get hl

set_option maxRecDepth 100000 in
set_option maxHeartbeats 8000000 in
theorem reck_no (mem : List Int) (hm : mem.length = 8) (xo xa xb xn : Int) (w : World) (hx : xo = 0 ∨ 7 ≤ xo) : Calls Try.prog 37 #[.agg (cI mem), .agg #[.int .i64 xo, .int .i64 xa, .int .i64 xb, .int .i64 xn]] w fun e w' => e = .returned (.agg (cI mem)) ∧ Below w.heap.size w w' := by
  have e1 : (xo == 1) = false := by simp; omega
  have e2 : (xo == 2) = false := by simp; omega
  have e3 : (xo == 3) = false := by simp; omega
  have e4 : (xo == 4) = false := by simp; omega
  have e5 : (xo == 5) = false := by simp; omega
  have e6 : (xo == 6) = false := by simp; omega
  clear hx
  have HS8 : Hid ((cI mem).size = 8) := by show _ = _; rw [cI_size]; simp [hm]
  go_enter Try.func37, Try.ntmps37
  go_wp2_with (first
    | (refine wpList_load_row rfl 44 (.tmp 2) rfl w.heap.size rfl 44 (cI mem) (0, 0) _ ((Below.heap_alloc _ _ _ (by simp <;> omega)).trans ((Below.heap_alloc _ _ _ (by simp <;> omega)).trans (heap_at rfl))) Try.underlying44 rfl (by rw [HS8.out]; exact info24) ?_)
    | (refine wpList_store_row rfl 44 (.tmp 4) (.tmp 74) rfl (w.heap.size + 1 + 1) (cI mem) rfl rfl 44 #[.int .i64 0, .int .i64 0, .int .i64 0, .int .i64 0, .int .i64 0, .int .i64 0, .int .i64 0, .int .i64 0] (heap_at (by simp)) (by rw [HS8.out]; exact info24) (by rw [HS8.out]; rfl) (cI_one _) ?_))
  refine bodyPost_ret (v := .agg (cI mem)) (res27 (by simp [hm]) rfl (setRow_heap _ _ _ _ _ _ (heap_at (by simp)))) rfl ?_
  exact ⟨rfl, below_setRow (by repeat (first | exact Below.refl _ _ | refine Below.alloc ?_ (by simp <;> omega) _ | refine Below.setCell ?_ (by simp <;> omega) _)) (by omega) _⟩

set_option maxRecDepth 100000 in
set_option maxHeartbeats 8000000 in
theorem reck_put (mem : List Int) (hm : mem.length = 8) (xo xa xb xn : Int) (w : World) (hx : xo = 1) (ha : 0 ≤ xa ∧ xa ≤ 7) : Calls Try.prog 37 #[.agg (cI mem), .agg #[.int .i64 xo, .int .i64 xa, .int .i64 xb, .int .i64 xn]] w fun e w' => e = .returned (.agg (cI (mem.set xa.toNat xn))) ∧ Below w.heap.size w w' := by
  have e1 : (xo == 1) = true := by simp [hx]
  clear hx
  obtain ⟨V, hja, zb, HV⟩ : ∃ V : Int, xa.toNat < 8 ∧ xa < 8 ∧ Hid (mem[xa.toNat]? = some V) := mem_at hm ha.1 ha.2
  have za : (0 : Int) ≤ xa := ha.1
  have hcv := cI_getV HV.out
  have HS8 : Hid ((cI (mem.set xa.toNat xn)).size = 8) := by show _ = _; rw [cI_size]; simp [hm]
  go_enter Try.func37, Try.ntmps37
  go_wp2_with (first
    | (refine wpList_load_row rfl 44 (.tmp 2) rfl w.heap.size rfl 44 (cI (mem.set xa.toNat xn)) (0, 0) _ (((Below.heap_alloc _ _ _ (by simp <;> omega)).trans ((Below.heap_alloc _ _ _ (by simp <;> omega)).trans (heap_at rfl))).trans (by rw [cI_set])) Try.underlying44 rfl (by rw [HS8.out]; exact info24) ?_)
    | (refine wpList_store_row rfl 44 (.tmp 4) (.tmp 74) rfl (w.heap.size + 1 + 1) (cI (mem.set xa.toNat xn)) rfl rfl 44 #[.int .i64 0, .int .i64 0, .int .i64 0, .int .i64 0, .int .i64 0, .int .i64 0, .int .i64 0, .int .i64 0] (heap_at (by simp)) (by rw [HS8.out]; exact info24) (by rw [HS8.out]; rfl) (cI_one _) ?_))
  refine bodyPost_ret (v := .agg (cI (mem.set xa.toNat xn))) (res27 (by simp [hm]) rfl (setRow_heap _ _ _ _ _ _ (heap_at (by simp)))) rfl ?_
  exact ⟨rfl, below_setRow (by repeat (first | exact Below.refl _ _ | refine Below.alloc ?_ (by simp <;> omega) _ | refine Below.setCell ?_ (by simp <;> omega) _)) (by omega) _⟩

set_option maxRecDepth 100000 in
set_option maxHeartbeats 8000000 in
theorem reck_add (mem : List Int) (hm : mem.length = 8) (xo xa xb xn : Int) (w : World) (hx : xo = 2) (ha : 0 ≤ xa ∧ xa ≤ 7) (hb : 0 ≤ xb ∧ xb ≤ 7) (V U : Int) (HV : Hid (mem[xa.toNat]? = some V)) (HU : Hid (mem[xb.toNat]? = some U)) : Calls Try.prog 37 #[.agg (cI mem), .agg #[.int .i64 xo, .int .i64 xa, .int .i64 xb, .int .i64 xn]] w fun e w' => e = .returned (.agg (cI (mem.set xa.toNat (wrap64 (V + U))))) ∧ Below w.heap.size w w' := by
  have e1 : (xo == 1) = false := by simp; omega
  have e2 : (xo == 2) = true := by simp [hx]
  clear hx
  have hja : xa.toNat < 8 := by omega
  have zb : xa < 8 := by omega
  have za : 0 ≤ xa := ha.1
  have hjb : xb.toNat < 8 := by omega
  have zd : xb < 8 := by omega
  have zc : 0 ≤ xb := hb.1
  have hcv := cI_getV HV.out
  have hcu := cI_getV HU.out
  have HS8 : Hid ((cI (mem.set xa.toNat (wrap64 (V + U)))).size = 8) := by show _ = _; rw [cI_size]; simp [hm]
  go_enter Try.func37, Try.ntmps37
  go_wp2_with (fail)
  go_region
  go_wp2_with (first
    | (refine wpList_load_row rfl 44 (.tmp 2) rfl w.heap.size rfl 44 (cI (mem.set xa.toNat (wrap64 (V + U)))) (0, 0) _ (((Below.heap_alloc _ _ _ (by simp <;> omega)).trans ((Below.heap_alloc _ _ _ (by simp <;> omega)).trans (heap_at rfl))).trans (by rw [cI_set])) Try.underlying44 rfl (by rw [HS8.out]; exact info24) ?_)
    | (refine wpList_store_row rfl 44 (.tmp 4) (.tmp 74) rfl (w.heap.size + 1 + 1) (cI (mem.set xa.toNat (wrap64 (V + U)))) rfl rfl 44 #[.int .i64 0, .int .i64 0, .int .i64 0, .int .i64 0, .int .i64 0, .int .i64 0, .int .i64 0, .int .i64 0] (heap_at (by simp)) (by rw [HS8.out]; exact info24) (by rw [HS8.out]; rfl) (cI_one _) ?_))
  refine bodyPost_ret (v := .agg (cI (mem.set xa.toNat (wrap64 (V + U))))) (res27 (by simp [hm]) rfl (setRow_heap _ _ _ _ _ _ (heap_at (by simp)))) rfl ?_
  exact ⟨rfl, below_setRow (Below.drew (by repeat (first | exact Below.refl _ _ | refine Below.alloc ?_ (by simp <;> omega) _ | refine Below.setCell ?_ (by simp <;> omega) _))) (by omega) _⟩

set_option maxRecDepth 100000 in
set_option maxHeartbeats 8000000 in
theorem reck_sub (mem : List Int) (hm : mem.length = 8) (xo xa xb xn : Int) (w : World) (hx : xo = 3) (ha : 0 ≤ xa ∧ xa ≤ 7) (hb : 0 ≤ xb ∧ xb ≤ 7) (V U : Int) (HV : Hid (mem[xa.toNat]? = some V)) (HU : Hid (mem[xb.toNat]? = some U)) : Calls Try.prog 37 #[.agg (cI mem), .agg #[.int .i64 xo, .int .i64 xa, .int .i64 xb, .int .i64 xn]] w fun e w' => e = .returned (.agg (cI (mem.set xa.toNat (wrap64 (V - U))))) ∧ Below w.heap.size w w' := by
  have e1 : (xo == 1) = false := by simp; omega
  have e2 : (xo == 2) = false := by simp; omega
  have e3 : (xo == 3) = true := by simp [hx]
  clear hx
  have hja : xa.toNat < 8 := by omega
  have zb : xa < 8 := by omega
  have za : 0 ≤ xa := ha.1
  have hjb : xb.toNat < 8 := by omega
  have zd : xb < 8 := by omega
  have zc : 0 ≤ xb := hb.1
  have hcv := cI_getV HV.out
  have hcu := cI_getV HU.out
  have HS8 : Hid ((cI (mem.set xa.toNat (wrap64 (V - U)))).size = 8) := by show _ = _; rw [cI_size]; simp [hm]
  go_enter Try.func37, Try.ntmps37
  go_wp2_with (fail)
  go_region
  go_wp2_with (first
    | (refine wpList_load_row rfl 44 (.tmp 2) rfl w.heap.size rfl 44 (cI (mem.set xa.toNat (wrap64 (V - U)))) (0, 0) _ (((Below.heap_alloc _ _ _ (by simp <;> omega)).trans ((Below.heap_alloc _ _ _ (by simp <;> omega)).trans (heap_at rfl))).trans (by rw [cI_set])) Try.underlying44 rfl (by rw [HS8.out]; exact info24) ?_)
    | (refine wpList_store_row rfl 44 (.tmp 4) (.tmp 74) rfl (w.heap.size + 1 + 1) (cI (mem.set xa.toNat (wrap64 (V - U)))) rfl rfl 44 #[.int .i64 0, .int .i64 0, .int .i64 0, .int .i64 0, .int .i64 0, .int .i64 0, .int .i64 0, .int .i64 0] (heap_at (by simp)) (by rw [HS8.out]; exact info24) (by rw [HS8.out]; rfl) (cI_one _) ?_))
  refine bodyPost_ret (v := .agg (cI (mem.set xa.toNat (wrap64 (V - U))))) (res27 (by simp [hm]) rfl (setRow_heap _ _ _ _ _ _ (heap_at (by simp)))) rfl ?_
  exact ⟨rfl, below_setRow (Below.drew (by repeat (first | exact Below.refl _ _ | refine Below.alloc ?_ (by simp <;> omega) _ | refine Below.setCell ?_ (by simp <;> omega) _))) (by omega) _⟩

set_option maxRecDepth 100000 in
set_option maxHeartbeats 8000000 in
theorem reck_mul (mem : List Int) (hm : mem.length = 8) (xo xa xb xn : Int) (w : World) (hx : xo = 4) (ha : 0 ≤ xa ∧ xa ≤ 7) (hb : 0 ≤ xb ∧ xb ≤ 7) (V U : Int) (HV : Hid (mem[xa.toNat]? = some V)) (HU : Hid (mem[xb.toNat]? = some U)) : Calls Try.prog 37 #[.agg (cI mem), .agg #[.int .i64 xo, .int .i64 xa, .int .i64 xb, .int .i64 xn]] w fun e w' => e = .returned (.agg (cI (mem.set xa.toNat (wrap64 (V * U))))) ∧ Below w.heap.size w w' := by
  have e1 : (xo == 1) = false := by simp; omega
  have e2 : (xo == 2) = false := by simp; omega
  have e3 : (xo == 3) = false := by simp; omega
  have e4 : (xo == 4) = true := by simp [hx]
  clear hx
  have hja : xa.toNat < 8 := by omega
  have zb : xa < 8 := by omega
  have za : 0 ≤ xa := ha.1
  have hjb : xb.toNat < 8 := by omega
  have zd : xb < 8 := by omega
  have zc : 0 ≤ xb := hb.1
  have hcv := cI_getV HV.out
  have hcu := cI_getV HU.out
  have HS8 : Hid ((cI (mem.set xa.toNat (wrap64 (V * U)))).size = 8) := by show _ = _; rw [cI_size]; simp [hm]
  go_enter Try.func37, Try.ntmps37
  go_wp2_with (fail)
  go_region
  go_wp2_with (first
    | (refine wpList_load_row rfl 44 (.tmp 2) rfl w.heap.size rfl 44 (cI (mem.set xa.toNat (wrap64 (V * U)))) (0, 0) _ (((Below.heap_alloc _ _ _ (by simp <;> omega)).trans ((Below.heap_alloc _ _ _ (by simp <;> omega)).trans (heap_at rfl))).trans (by rw [cI_set])) Try.underlying44 rfl (by rw [HS8.out]; exact info24) ?_)
    | (refine wpList_store_row rfl 44 (.tmp 4) (.tmp 74) rfl (w.heap.size + 1 + 1) (cI (mem.set xa.toNat (wrap64 (V * U)))) rfl rfl 44 #[.int .i64 0, .int .i64 0, .int .i64 0, .int .i64 0, .int .i64 0, .int .i64 0, .int .i64 0, .int .i64 0] (heap_at (by simp)) (by rw [HS8.out]; exact info24) (by rw [HS8.out]; rfl) (cI_one _) ?_))
  refine bodyPost_ret (v := .agg (cI (mem.set xa.toNat (wrap64 (V * U))))) (res27 (by simp [hm]) rfl (setRow_heap _ _ _ _ _ _ (heap_at (by simp)))) rfl ?_
  exact ⟨rfl, below_setRow (Below.drew (by repeat (first | exact Below.refl _ _ | refine Below.alloc ?_ (by simp <;> omega) _ | refine Below.setCell ?_ (by simp <;> omega) _))) (by omega) _⟩

set_option maxRecDepth 100000 in
set_option maxHeartbeats 8000000 in
theorem reck_shift (mem : List Int) (hm : mem.length = 8) (xo xa xb xn : Int) (w : World) (hx : xo = 5) (ha : 0 ≤ xa ∧ xa ≤ 7) (V : Int) (HV : Hid (mem[xa.toNat]? = some V)) (V0 : -9223372036854775808 ≤ V) (V1 : V ≤ 9223372036854775807) : Calls Try.prog 37 #[.agg (cI mem), .agg #[.int .i64 xo, .int .i64 xa, .int .i64 xb, .int .i64 xn]] w fun e w' => e = .returned (.agg (cI (mem.set xa.toNat (shf V xn)))) ∧ Below w.heap.size w w' := by
  have e1 : (xo == 1) = false := by simp; omega
  have e2 : (xo == 2) = false := by simp; omega
  have e3 : (xo == 3) = false := by simp; omega
  have e4 : (xo == 4) = false := by simp; omega
  have e5 : (xo == 5) = true := by simp [hx]
  clear hx
  have hja : xa.toNat < 8 := by omega
  have zb : xa < 8 := by omega
  have za : 0 ≤ xa := ha.1
  have hcv := cI_getV HV.out
  have HS8 : Hid ((cI (mem.set xa.toNat (shf V xn))).size = 8) := by show _ = _; rw [cI_size]; simp [hm]
  go_enter Try.func37, Try.ntmps37
  go_wp2_with (fail)
  go_region_with (go_at_call 19; refine (vshift _ _ _ V0 V1).mono ?_; rintro e w8 ⟨rfl, rfl⟩)
  go_wp2_with (first
    | (refine wpList_load_row rfl 44 (.tmp 2) rfl w.heap.size rfl 44 (cI (mem.set xa.toNat (shf V xn))) (0, 0) _ (((Below.heap_alloc _ _ _ (by simp <;> omega)).trans ((Below.heap_alloc _ _ _ (by simp <;> omega)).trans (heap_at rfl))).trans (by rw [cI_set])) Try.underlying44 rfl (by rw [HS8.out]; exact info24) ?_)
    | (refine wpList_store_row rfl 44 (.tmp 4) (.tmp 74) rfl (w.heap.size + 1 + 1) (cI (mem.set xa.toNat (shf V xn))) rfl rfl 44 #[.int .i64 0, .int .i64 0, .int .i64 0, .int .i64 0, .int .i64 0, .int .i64 0, .int .i64 0, .int .i64 0] (heap_at (by simp)) (by rw [HS8.out]; exact info24) (by rw [HS8.out]; rfl) (cI_one _) ?_))
  all_goals
    refine bodyPost_ret (v := .agg (cI (mem.set xa.toNat (shf V xn)))) (res27 (by simp [hm]) rfl (setRow_heap _ _ _ _ _ _ (heap_at (by simp)))) rfl ?_
    exact ⟨rfl, below_setRow (Below.drew (by repeat (first | exact Below.refl _ _ | refine Below.alloc ?_ (by simp <;> omega) _ | refine Below.setCell ?_ (by simp <;> omega) _))) (by omega) _⟩

set_option maxRecDepth 100000 in
set_option maxHeartbeats 8000000 in
theorem reck_narrow (mem : List Int) (hm : mem.length = 8) (xo xa xb xn : Int) (w : World) (hx : xo = 6) (ha : 0 ≤ xa ∧ xa ≤ 7) (V : Int) (HV : Hid (mem[xa.toNat]? = some V)) (V0 : -9223372036854775808 ≤ V) (V1 : V ≤ 9223372036854775807) : Calls Try.prog 37 #[.agg (cI mem), .agg #[.int .i64 xo, .int .i64 xa, .int .i64 xb, .int .i64 xn]] w fun e w' => e = .returned (.agg (cI (mem.set xa.toNat (nrw V xn)))) ∧ Below w.heap.size w w' := by
  have e1 : (xo == 1) = false := by simp; omega
  have e2 : (xo == 2) = false := by simp; omega
  have e3 : (xo == 3) = false := by simp; omega
  have e4 : (xo == 4) = false := by simp; omega
  have e5 : (xo == 5) = false := by simp; omega
  have e6 : (xo == 6) = true := by simp [hx]
  clear hx
  have hja : xa.toNat < 8 := by omega
  have zb : xa < 8 := by omega
  have za : 0 ≤ xa := ha.1
  have hcv := cI_getV HV.out
  have HS8 : Hid ((cI (mem.set xa.toNat (nrw V xn))).size = 8) := by show _ = _; rw [cI_size]; simp [hm]
  go_enter Try.func37, Try.ntmps37
  go_wp2_with (fail)
  go_region_with (go_at_call 17; refine (vnarrow _ _ _ V0 V1).mono ?_; rintro e w8 ⟨rfl, rfl⟩)
  go_wp2_with (first
    | (refine wpList_load_row rfl 44 (.tmp 2) rfl w.heap.size rfl 44 (cI (mem.set xa.toNat (nrw V xn))) (0, 0) _ (((Below.heap_alloc _ _ _ (by simp <;> omega)).trans ((Below.heap_alloc _ _ _ (by simp <;> omega)).trans (heap_at rfl))).trans (by rw [cI_set])) Try.underlying44 rfl (by rw [HS8.out]; exact info24) ?_)
    | (refine wpList_store_row rfl 44 (.tmp 4) (.tmp 74) rfl (w.heap.size + 1 + 1) (cI (mem.set xa.toNat (nrw V xn))) rfl rfl 44 #[.int .i64 0, .int .i64 0, .int .i64 0, .int .i64 0, .int .i64 0, .int .i64 0, .int .i64 0, .int .i64 0] (heap_at (by simp)) (by rw [HS8.out]; exact info24) (by rw [HS8.out]; rfl) (cI_one _) ?_))
  all_goals
    refine bodyPost_ret (v := .agg (cI (mem.set xa.toNat (nrw V xn)))) (res27 (by simp [hm]) rfl (setRow_heap _ _ _ _ _ _ (heap_at (by simp)))) rfl ?_
    exact ⟨rfl, below_setRow (Below.drew (by repeat (first | exact Below.refl _ _ | refine Below.alloc ?_ (by simp <;> omega) _ | refine Below.setCell ?_ (by simp <;> omega) _))) (by omega) _⟩

/-- what the memories are behind an instruction, by the program -/
theorem reck_any (mem : List Int) (hm : mem.length = 8) (hMb : ∀ v ∈ mem, -9223372036854775808 ≤ v ∧ v ≤ 9223372036854775807) (xo xa xb xn : Int) (hmy : mayB (xo, xa, xb, xn) = true) (w : World) : Calls Try.prog 37 #[.agg (cI mem), .agg #[.int .i64 xo, .int .i64 xa, .int .i64 xb, .int .i64 xn]] w fun e w' => e = .returned (.agg (cI (memA (xo, xa, xb, xn) mem))) ∧ Below w.heap.size w w' := by
  have hbd := may_bd hmy
  simp only at hbd
  have hmp := may_iff.1 hmy
  unfold mayP at hmp
  simp only at hmp
  obtain ⟨V, _, _, hV⟩ : ∃ V : Int, xa.toNat < 8 ∧ xa < 8 ∧ mem[xa.toNat]? = some V := mem_at hm hbd.2.1.1 hbd.2.1.2
  have hVb := hMb V (List.mem_of_getElem? hV)
  rcases (by omega : xo = 1 ∨ (xo = 2 ∨ xo = 3 ∨ xo = 4) ∨ xo = 5 ∨ xo = 6 ∨ (xo = 0 ∨ 7 ≤ xo)) with h | h | h | h | h
  · have e : memA (xo, xa, xb, xn) mem = mem.set xa.toNat xn := by simp [memA, h]
    rw [e]
    exact reck_put mem hm xo xa xb xn w h hbd.2.1
  · obtain ⟨U, _, _, hU⟩ : ∃ V : Int, xb.toNat < 8 ∧ xb < 8 ∧ mem[xb.toNat]? = some V := mem_at hm hbd.2.2.1.1 (by omega)
    rcases h with h | h | h
    · have e : memA (xo, xa, xb, xn) mem = mem.set xa.toNat (wrap64 (V + U)) := by simp only [memA, getD_of hV, getD_of hU]; simp [h]
      rw [e]
      exact reck_add mem hm xo xa xb xn w h hbd.2.1 (by omega) V U hV hU
    · have e : memA (xo, xa, xb, xn) mem = mem.set xa.toNat (wrap64 (V - U)) := by simp only [memA, getD_of hV, getD_of hU]; simp [h]
      rw [e]
      exact reck_sub mem hm xo xa xb xn w h hbd.2.1 (by omega) V U hV hU
    · have e : memA (xo, xa, xb, xn) mem = mem.set xa.toNat (wrap64 (V * U)) := by simp only [memA, getD_of hV, getD_of hU]; simp [h]
      rw [e]
      exact reck_mul mem hm xo xa xb xn w h hbd.2.1 (by omega) V U hV hU
  · have e : memA (xo, xa, xb, xn) mem = mem.set xa.toNat (shf V xn) := by simp only [memA, getD_of hV]; simp [h]
    rw [e]
    exact reck_shift mem hm xo xa xb xn w h hbd.2.1 V hV hVb.1 hVb.2
  · have e : memA (xo, xa, xb, xn) mem = mem.set xa.toNat (nrw V xn) := by simp only [memA, getD_of hV]; simp [h]
    rw [e]
    exact reck_narrow mem hm xo xa xb xn w h hbd.2.1 V hV hVb.1 hVb.2
  · have e : memA (xo, xa, xb, xn) mem = mem := by
      unfold memA
      simp only
      rw [if_neg (by omega), if_neg (by omega), if_neg (by omega), if_neg (by omega), if_neg (by omega), if_neg (by omega)]
    rw [e]
    exact reck_no mem hm xo xa xb xn w h
end Go.Proofs.Ytboffjabffcddaa
