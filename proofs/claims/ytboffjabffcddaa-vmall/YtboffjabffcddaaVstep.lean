/-
  A step of a machine, by the program.
-/
import Derived.Test.YtboffjabffcddaaVmany
import Derived.WalkSpells
namespace Go.Proofs.Ytboffjabffcddaa
open Go.ChangeShapes Go.WideShapes Go.ChangeAt Go.RowKit
attribute [local go_sem ↓] Go.wp_at_zero Go.wp_at_succ

theorem res19 {tmps : Array Value} {w : World} {r : Nat} {pc : Int} {mem : List Int} {q : Option Addr} {k d : Nat} {ov b : Bool} {xo xa xb xn : Int} (h4 : tmps.getD 4 undef = .pointer (some ⟨r + 1, 0, none⟩)) (h5 : tmps.getD 5 undef = .pointer (some ⟨r + 1 + 1, 0, none⟩)) (h6 : tmps.getD 6 undef = .bool b)
    (g4 : w.heap[r + 1]? = some (.cells (mcell pc mem q k d ov) 47 (0, 0))) (hm : mem.length = 8) (g5 : w.heap[r + 1 + 1]? = some (.cells #[.int .i64 xo, .int .i64 xa, .int .i64 xb, .int .i64 xn] 34 (0, 0))) :
    (results Try.f24 tmps).run Try.prog w = .ok (.tuple #[.agg (mcell pc mem q k d ov), .agg #[.int .i64 xo, .int .i64 xa, .int .i64 xb, .int .i64 xn], .bool b]) w := by
  have e4 := run_loadVar_row (P := Try.prog) w (r + 1) 47 47 _ (0, 0) _ g4 Try.underlying47 rfl (by rw [mcell_size hm]; exact info38)
  have e5 := run_loadVar_row (P := Try.prog) w (r + 1 + 1) 34 34 _ (0, 0) _ g5 Try.underlying34 rfl info41
  have k4 : tmps[4]?.getD undef = .pointer (some ⟨r + 1, 0, none⟩) := by simpa using h4
  have k5 : tmps[5]?.getD undef = .pointer (some ⟨r + 1 + 1, 0, none⟩) := by simpa using h5
  have k6 : tmps[6]?.getD undef = .bool b := by simpa using h6
  simp [results, Try.results24, k4, k5, k6, asAddr, e4, e5]
theorem memA_len (x : In) (mem : List Int) : (memA x mem).length = mem.length := by
  unfold memA
  repeat (split; · simp)
  rfl
theorem nxt_memA (pc : Int) (x : In) (mem : List Int) : nxt pc x (memA x mem) = nxt pc x mem := by
  by_cases h : x.1 = 7
  · have e : memA x mem = mem := by unfold memA; simp [h]
    rw [e]
  · unfold nxt
    simp [h]
theorem repA_len (pc : Int) (x : In) (R : List Rp) : (repA pc x R).length ≤ R.length + 1 := by
  unfold repA
  split <;> simp
theorem repA_bd {pc : Int} {x : In} {R : List Rp} (hmy : mayB x = true) (hR : ∀ r ∈ R, -9223372036854775808 ≤ r.2.2 ∧ r.2.2 ≤ 9223372036854775807) : ∀ r ∈ repA pc x R, -9223372036854775808 ≤ r.2.2 ∧ r.2.2 ≤ 9223372036854775807 := by
  have hm2 := may_iff.1 hmy
  unfold mayP at hm2
  unfold repA
  split
  · intro r hr
    rcases List.mem_append.1 hr with h | h
    · exact hR r h
    · obtain rfl := List.mem_singleton.1 h
      simp only
      omega
  · exact hR
/-- a machine at block r on its way through a step of the program's: w the world at first -/
structure Vs (w : World) (r : Nat) (wl : World) (pc : Int) (mem : List Int) (q : Option Addr) (k d : Nat) (ov : Bool) (RL : List Rp) : Prop where
  M : Mc wl r pc mem q k d ov
  h4 : ∃ cs, cs.size = 11 ∧ wl.heap[r + 1]? = some (.cells cs 47 (0, 0))
  h5 : ∃ cs, cs.size = 4 ∧ wl.heap[r + 1 + 1]? = some (.cells cs 34 (0, 0))
  B : Below r w wl
  o : Own eRp wl (r + 3) 73 q d RL
section
variable {w : World} {r : Nat} {wl : World} {pc : Int} {mem : List Int} {q : Option Addr} {k d : Nat} {ov : Bool} {RL : List Rp}
theorem Vs.z (h : Vs w r wl pc mem q k d ov RL) : r + 3 ≤ wl.heap.size := by
  obtain ⟨c5, s5, e5⟩ := h.h5
  have := lt_of_block e5
  omega
theorem Vs.grow (h : Vs w r wl pc mem q k d ov RL) {w' : World} (hb : Below wl.heap.size wl w') : Vs w r w' pc mem q k d ov RL := by
  obtain ⟨c4, s4, e4⟩ := h.h4
  obtain ⟨c5, s5, e5⟩ := h.h5
  have hz := h.z
  exact ⟨h.M.below hb, ⟨c4, s4, (hb.block _ (by omega)).trans e4⟩, ⟨c5, s5, (hb.block _ (by omega)).trans e5⟩, h.B.trans (hb.mono (by omega)), own_below h.o hb⟩
/-- the copied row is the machine's -/
theorem Vs.first {w0 w2 : World} {R : List Rp} {q2 : Option Addr} {d2 : Nat} (hm : mem.length = 8) (hw0 : w0 = ((w.alloc (.cells (mcell pc mem q k d ov) 47)).alloc (.cells #[.int .i64 0, .int .i64 0, .int .i64 0, .int .i64 0, .int .i64 0, .int .i64 0, .int .i64 0, .int .i64 0, .int .i64 0, .slice none 0 0, .bool false] 47)).alloc (.cells #[.int .i64 0, .int .i64 0, .int .i64 0, .int .i64 0] 34)) (b2 : Below w0.heap.size w0 w2) (o2 : Own eRp w2 w0.heap.size 73 q2 d2 R) :
    Mc w2 w.heap.size pc mem q k d ov ∧ w.heap.size + 3 ≤ w2.heap.size ∧ Below w.heap.size w w2 ∧ Vs w w.heap.size (w2.setCell ⟨w.heap.size, 9, none⟩ (.slice q2 k d2)) pc mem q2 k d2 ov R := by
  have hz : w0.heap.size = w.heap.size + 3 := by rw [hw0]; simp
  have e3 : w0.heap[w.heap.size]? = some (.cells (mcell pc mem q k d ov) 47 (0, 0)) := by rw [hw0]; exact (Below.heap_alloc _ _ _ (by simp <;> omega)).trans ((Below.heap_alloc _ _ _ (by simp)).trans (heap_at rfl))
  have e4 : w0.heap[w.heap.size + 1]? = some (.cells #[.int .i64 0, .int .i64 0, .int .i64 0, .int .i64 0, .int .i64 0, .int .i64 0, .int .i64 0, .int .i64 0, .int .i64 0, .slice none 0 0, .bool false] 47) := by rw [hw0]; exact (Below.heap_alloc _ _ _ (by simp)).trans (heap_at (by simp))
  have e5 : w0.heap[w.heap.size + 1 + 1]? = some (.cells #[.int .i64 0, .int .i64 0, .int .i64 0, .int .i64 0] 34) := by rw [hw0]; exact heap_at (by simp)
  have b0 : Below w.heap.size w w0 := by rw [hw0]; exact (by repeat (first | exact Below.refl _ _ | refine Below.alloc ?_ (by simp <;> omega) _ | refine Below.setCell ?_ (by simp <;> omega) _))
  rw [hz] at b2 o2
  have M2 : Mc w2 w.heap.size pc mem q k d ov := ⟨(b2.block _ (by omega)).trans e3, hm⟩
  have hz2 := b2.size
  refine ⟨M2, by omega, b0.trans (b2.mono (by omega)), ?_⟩
  exact ⟨M2.s9 q2 k d2, ⟨_, rfl, (heap_setCell_other _ _ _ _ (by simp)).trans ((b2.block _ (by omega)).trans e4)⟩, ⟨_, rfl, (heap_setCell_other _ _ _ _ (by simp <;> omega)).trans ((b2.block _ (by omega)).trans e5)⟩, (b0.trans (b2.mono (by omega))).setCell (Nat.le_refl _) _, own_lowE o2 (by simp) _⟩
theorem Vs.mems (h : Vs w r wl pc mem q k d ov RL) {mem' : List Int} (hm : mem'.length = 8) : Vs w r (wl.setCells r 1 (cI mem').toList) pc mem' q k d ov RL := by
  obtain ⟨c4, s4, e4⟩ := h.h4
  obtain ⟨c5, s5, e5⟩ := h.h5
  exact ⟨h.M.mems hm, ⟨c4, s4, (setCells_other _ _ _ (by omega)).trans e4⟩, ⟨c5, s5, (setCells_other _ _ _ (by omega)).trans e5⟩, setCells_below (Nat.le_refl _) _ _ _ h.B, own_other h.o h.M.at_ (by decide) (fun b hb => setCells_other _ _ _ hb)⟩
/-- behind a call that leaves all but what is repeated -/
theorem Vs.call (h : Vs w r wl pc mem q k d ov RL) {w' : World} (hb : Below (r + 3) wl w') (hs : Stays wl w' q) {g : Nat} {cs : Array Value} (hg : wl.heap[g]? = some (.cells cs 34 (0, 0))) :
    (∃ cs, cs.size = 11 ∧ w'.heap[r + 1]? = some (.cells cs 47 (0, 0))) ∧ (∃ cs, cs.size = 4 ∧ w'.heap[r + 1 + 1]? = some (.cells cs 34 (0, 0))) ∧ Below r w w' ∧ w'.heap[g]? = some (.cells cs 34 (0, 0)) ∧ w'.heap[r]? = wl.heap[r]? := by
  obtain ⟨c4, s4, e4⟩ := h.h4
  obtain ⟨c5, s5, e5⟩ := h.h5
  exact ⟨⟨c4, s4, (hb.block _ (by omega)).trans e4⟩, ⟨c5, s5, (hb.block _ (by omega)).trans e5⟩, h.B.trans (hb.mono (by omega)), (hs g (lt_of_block hg) (own_apart h.o hg (by decide))).trans hg, hb.block _ (by omega)⟩
end

set_option maxRecDepth 100000 in
set_option maxHeartbeats 8000000 in
theorem vstep_ok (p : Option Addr) (c : Nat) (l : List In) (w : World) (hr : Rd eIn w p c l) (n : Nat) (hN : l.length = n) (hn : n ≤ 1000) (pc : Nat) (hpc : pc < n) (mem : List Int) (hm : mem.length = 8) (hMb : ∀ v ∈ mem, -9223372036854775808 ≤ v ∧ v ≤ 9223372036854775807) (q : Option Addr) (d k : Nat) (R : List Rp) (hR : Rd eRp w q d R) (hk : R.length = k) (hk3 : k ≤ 1000) (hRb : ∀ r ∈ R, -9223372036854775808 ≤ r.2.2 ∧ r.2.2 ≤ 9223372036854775807) (hmy : mayB (gt l pc) = true) :
    Calls Try.prog 24 #[.slice p n c, .agg (mcell pc mem q k d false)] w fun e w' => StepTold pc mem R (gt l pc) w e w' := by
  rw [gt_eq (by omega)] at hmy ⊢
  have hpl : pc < l.length := by omega
  obtain ⟨b, o, rfl, hb, f0, f1, f2, f3⟩ := hr.inst pc hpl
  generalize l[pc] = x at *
  obtain ⟨xo, xa, xb, xn⟩ := x
  simp only at f0 f1 f2 f3
  have HK : Hid (R.length = k) := hk
  have HM : Hid (mem.length = 8) := hm
  have HMB : Hid (∀ v ∈ mem, -9223372036854775808 ≤ v ∧ v ≤ 9223372036854775807) := hMb
  have HRb : Hid (∀ r ∈ R, -9223372036854775808 ≤ r.2.2 ∧ r.2.2 ≤ 9223372036854775807) := hRb
  have q0 := mcell_0 (pc : Int) mem q k d false
  have q9 := mcell_9 (pc := (pc : Int)) (q := q) (k := k) (d := d) (ov := false) hm
  have q10 := mcell_10 (pc := (pc : Int)) (q := q) (k := k) (d := d) (ov := false) hm
  have z0 : (0 : Int) ≤ (pc : Int) := by omega
  have z1 : (pc : Int) < (n : Int) := by omega
  have z2 : decide ((pc : Int) < 0) = false := decide_eq_false (by omega)
  have z3 : decide ((n : Int) ≤ (pc : Int)) = false := decide_eq_false (by omega)
  have z4 : decide (n ≤ pc) = false := decide_eq_false (by omega)
  have HL8 : Hid ((memA (xo, xa, xb, xn) mem).length = 8) := by show _ = _; rw [memA_len, hm]
  have HS8 : Hid ((cI (memA (xo, xa, xb, xn) mem)).size = 8) := by show _ = _; rw [cI_size, HL8.out]
  clear hk hm hN hpl hMb hRb
  go_enter Try.func24, Try.ntmps24
  go_wp2_with (first
    | (go_at_call 35; refine (clone_any q d k R _ (hR.below (by repeat (first | exact Below.refl _ _ | refine Below.alloc ?_ (by simp <;> omega) _ | refine Below.setCell ?_ (by simp <;> omega) _))) HK.out (by omega)).mono ?_; rintro e w2 ⟨⟨q2, d2, rfl, o2⟩, b2⟩
       obtain ⟨M2, hz2, B2, V2⟩ := Vs.first HM.out rfl b2 o2
       clear o2 b2
       have c0 := M2.c0
       have c9 := M2.c9
       have c10 := M2.c10
       have fr2 := M2.fr
       have hbz2 : b < w2.heap.size := by omega
       have hwz2 : w.heap.size < w2.heap.size := by omega
       have g0 := (B2.cell (p := ⟨b, o + pc * 4, none⟩) hb).trans f0
       have g1 := (B2.cell (p := ⟨b, o + pc * 4 + 1, none⟩) hb).trans f1
       have g2 := (B2.cell (p := ⟨b, o + pc * 4 + 2, none⟩) hb).trans f2
       have g3 := (B2.cell (p := ⟨b, o + pc * 4 + 3, none⟩) hb).trans f3
       have hbw : ¬ b = w.heap.size := by omega)
    | (go_at_call 36; refine (may_any (xo, xa, xb, xn) _).mono ?_; rw [hmy]; rintro e w6 ⟨rfl, b6⟩
       have V6 := V2.grow b6
       have hz6 := V6.z
       have c60 := V6.M.c0
       have fr6 := V6.M.fr
       have hbz6 : b < w6.heap.size := by omega
       have hw6 : w.heap.size < w6.heap.size := by omega
       have hw6n : ¬ w.heap.size = w6.heap.size := by omega
       have hw7n : ¬ w6.heap.size = w.heap.size := by omega
       have h0 := (V6.B.cell (p := ⟨b, o + pc * 4, none⟩) hb).trans f0
       have h1 := (V6.B.cell (p := ⟨b, o + pc * 4 + 1, none⟩) hb).trans f1
       have h2 := (V6.B.cell (p := ⟨b, o + pc * 4 + 2, none⟩) hb).trans f2
       have h3 := (V6.B.cell (p := ⟨b, o + pc * 4 + 3, none⟩) hb).trans f3
       clear c0 c9 c10 fr2 g0 g1 g2 g3 M2 B2 hz2 hbz2 hwz2 b6 V2)
    | (refine wpList_load_mid rfl 44 (.tmp 42) rfl w.heap.size 1 rfl (cI mem).toList _ (V6.grow (by repeat (first | exact Below.refl _ _ | refine Below.alloc ?_ (by simp <;> omega) _ | refine Below.setCell ?_ (by simp <;> omega) _))).M.range Try.underlying44 rfl (by rw [Array.length_toList, cI_size, HM.out]; exact info24) ?_)
    | (go_at_call 37; refine (reck_any mem HM.out HMB.out xo xa xb xn hmy _).mono ?_; rintro e w8 ⟨rfl, b8⟩
       have V8 := (V6.grow (by repeat (first | exact Below.refl _ _ | refine Below.alloc ?_ (by simp <;> omega) _ | refine Below.setCell ?_ (by simp <;> omega) _))).grow b8
       have H78 : Hid (w8.heap[w6.heap.size]? = some (.cells #[.int .i64 xo, .int .i64 xa, .int .i64 xb, .int .i64 xn] 34)) := (b8.block _ (by simp)).trans (heap_at rfl)
       have hz8 : w6.heap.size < w8.heap.size := lt_of_block H78.out)
    | (refine wpList_store_mid rfl 44 (.tmp 46) (.tmp 45) rfl w.heap.size 1 (cI (memA (xo, xa, xb, xn) mem)) rfl rfl (by rw [HS8.out]; exact V8.M.there) (by rw [HS8.out]; exact info24) (cI_one _) ?_))
  have V9 := V8.mems HL8.out
  have H79 : Hid ((w8.setCells w.heap.size 1 (cI (memA (xo, xa, xb, xn) mem)).toList).heap[w6.heap.size]? = some (.cells #[.int .i64 xo, .int .i64 xa, .int .i64 xb, .int .i64 xn] 34)) := (setCells_other _ _ _ (by omega)).trans H78.out
  generalize w8.setCells w.heap.size 1 (cI (memA (xo, xa, xb, xn) mem)).toList = w9 at V9 H79 ⊢
  have hr7 : w.heap.size + 3 ≤ w6.heap.size := hz6
  clear V8 H78 hz8 V6 hz6 c60 fr6 hbz6 hw6 hw6n hw7n h0 h1 h2 h3 f0 f1 f2 f3 hr hR q0 q9 q10 z1 z2 z3 z4 b8 hb hbw
  have HFIN : Hid (∀ pcF RF, normR (nxt pc (xo, xa, xb, xn) (memA (xo, xa, xb, xn) mem)) (repA pc (xo, xa, xb, xn) R).reverse = (pcF, RF.reverse) → StepX pc mem R (xo, xa, xb, xn) pcF (memA (xo, xa, xb, xn) mem) RF (decide (xo = 0))) := fun pcF RF h => ⟨rfl, rfl, by rw [nxt_memA] at h; exact h⟩
  have HRA : Hid (∀ r ∈ repA pc (xo, xa, xb, xn) R, -9223372036854775808 ≤ r.2.2 ∧ r.2.2 ≤ 9223372036854775807) := repA_bd hmy HRb.out
  have hlen9 : (repA pc (xo, xa, xb, xn) R).length ≤ k + 1 := by rw [← HK.out]; exact repA_len _ _ _
  clear HMB HM HRb HS8
  generalize memA (xo, xa, xb, xn) mem = mm at *
  generalize w6.heap.size = r7 at H79 hr7 ⊢
  generalize hr3 : w.heap.size = r3 at V9 hr7 ⊢
  have HR3 : Hid (w.heap.size = r3) := hr3
  clear hr3
  have t3 := V9.M.at_
  have hz9 := V9.z
  refine wp_region_held_drew (S := fun w' => w'.heap[r3]? = w9.heap[r3]? ∧ w'.heap[r7]? = w9.heap[r7]?) (by kernel_rfl) ⟨rfl, rfl⟩ (fun hHeld => ?_)
  refine wpAnyH_take (i := 0) (oi := _) (v := .agg (mcell _ _ _ _ _ _)) rfl (by kernel_rfl) (by kernel_rfl) (by kernel_rfl) (fun _ _ _ h => h) (Or.inl ⟨by rfl, fun w' hSw => load_yields 47 (.tmp 3) rfl r3 rfl (run_loadVar_row w' r3 47 47 _ (0, 0) _ (hSw.1.trans t3) Try.underlying47 rfl (by rw [mcell_size V9.M.len]; exact info38))⟩) hHeld ?_
  try simp only [Act.put, List.getElem_toArray, List.getElem_cons_zero, List.setIfInBounds_toArray, List.set_cons_zero, List.set_cons_succ]
  refine wpAnyH_take (i := 1) (oi := _) (v := .agg #[.int .i64 xo, .int .i64 xa, .int .i64 xb, .int .i64 xn]) rfl (by kernel_rfl) (by kernel_rfl) (by kernel_rfl) (fun _ _ _ h => h) (Or.inl ⟨by rfl, fun w' hSw => load_yields 34 (.tmp 7) rfl r7 rfl (run_loadVar_row w' r7 34 34 _ (0, 0) _ (hSw.2.trans H79.out) Try.underlying34 rfl info41)⟩) hHeld ?_
  try simp only [Act.put, List.getElem_toArray, List.getElem_cons_succ, List.getElem_cons_zero, List.setIfInBounds_toArray, List.set_cons_zero, List.set_cons_succ]
  refine wpAnyH_take (i := 4) (oi := _) (v := .agg #[.int .i64 xo, .int .i64 xa, .int .i64 xb, .int .i64 xn]) rfl (by kernel_rfl) (by kernel_rfl) (by kernel_rfl) (fun _ _ _ h => h) (Or.inl ⟨by rfl, fun w' hSw => load_yields 34 (.tmp 7) rfl r7 rfl (run_loadVar_row w' r7 34 34 _ (0, 0) _ (hSw.2.trans H79.out) Try.underlying34 rfl info41)⟩) hHeld ?_
  try simp only [Act.put, List.getElem_toArray, List.getElem_cons_succ, List.getElem_cons_zero, List.setIfInBounds_toArray, List.set_cons_zero, List.set_cons_succ]
  refine wpAnyH_ready (rs := [2]) (by kernel_rfl) (by simp) ?_
  refine AllReadyH.cons (o := _) rfl (fun K hK => ?_) AllReadyH.nil
  go_simp
  have V9d := V9.grow (Below.refl _ _).drew
  refine (moved_any (pc : Int) z0 (by omega) mm HL8.out q2 k d2 xo xa xb xn hmy _ (r3 + 3) V9d.z R HK.out hk3 V9d.o).mono ?_
  rintro e w10 ⟨⟨q9, k9, d9, rfl, HK9, o10⟩, b10, st10⟩
  obtain ⟨X4, X5, B10, H710, HR10⟩ := V9d.call b10 st10 (show w9.drew.heap[r7]? = _ from H79.out)
  refine hK.out _ _ ⟨HR10, H710.trans H79.out.symm⟩ (fun hHeld => ?_)
  clear hK K
  try simp only [Act.put, List.getElem_toArray, List.getElem_cons_succ, List.getElem_cons_zero, List.setIfInBounds_toArray, List.set_cons_zero, List.set_cons_succ]
  refine wpAnyH_ready (rs := [3]) (by kernel_rfl) (by simp) ?_
  refine AllReadyH.cons (o := _) rfl (fun K hK => ?_) AllReadyH.nil
  go_simp
  have hz10 : r3 + 3 ≤ w10.heap.size := Nat.le_trans V9d.z b10.size
  refine (repeated_any _ mm HL8.out q9 k9 d9 _ _ (r3 + 3) hz10 _ HK9 (by omega) HRA.out o10).mono ?_
  rintro e w11 ⟨⟨pcF, kF, RF, rfl, HKF, o11, HNX⟩, b11, st11⟩
  obtain ⟨u4, n4, e4⟩ := X4
  obtain ⟨u5, n5, e5⟩ := X5
  have g4 := (b11.block (r3 + 1) (by omega)).trans e4
  have g5 := (b11.block (r3 + 1 + 1) (by omega)).trans e5
  have H711 := (st11 r7 (lt_of_block H710) (own_apart o10 H710 (by decide))).trans H710
  have B11 := B10.trans (b11.mono (by omega))
  refine hK.out _ _ ⟨(b11.block r3 (by omega)).trans HR10, H711.trans H79.out.symm⟩ (fun hHeld => ?_)
  clear hK K
  try simp only [Act.put, List.getElem_toArray, List.getElem_cons_succ, List.getElem_cons_zero, List.setIfInBounds_toArray, List.set_cons_zero, List.set_cons_succ]
  refine wpAnyH_ready (rs := [5]) (by kernel_rfl) (by simp) ?_
  refine AllReadyH.cons (o := _) rfl (fun K hK => ?_) AllReadyH.nil
  refine step_store_row rfl 47 (.tmp 4) (.tmp 50) rfl (r3 + 1) (mcell _ _ _ _ _ _) rfl rfl 47 _ g4 (by rw [mcell_size HL8.out]; exact info38) (by rw [mcell_size HL8.out]; exact n4) (mcell_one _ _ _ _ _ _) ?_
  refine hK.out _ _ ⟨(setRow_other _ _ _ _ (by omega)).trans ((b11.block r3 (by omega)).trans HR10), (setRow_other _ _ _ _ (by omega)).trans (H711.trans H79.out.symm)⟩ (fun hHeld => ?_)
  clear hK K
  simp only [Act.put, List.getElem_toArray, List.getElem_cons_succ, List.getElem_cons_zero]
  refine wpAnyH_ready (rs := [6]) (by kernel_rfl) (by simp) ?_
  refine AllReadyH.cons (o := _) rfl (fun K hK => ?_) AllReadyH.nil
  refine step_store_row rfl 34 (.tmp 5) (.tmp 51) rfl (r3 + 1 + 1) #[.int .i64 xo, .int .i64 xa, .int .i64 xb, .int .i64 xn] rfl rfl 34 _ ((setRow_other _ _ _ _ (by omega)).trans g5) info41 n5 (ins_one _ _ _ _) ?_
  refine hK.out _ _ ⟨(setRow_other _ _ _ _ (by omega)).trans ((setRow_other _ _ _ _ (by omega)).trans ((b11.block r3 (by omega)).trans HR10)), (setRow_other _ _ _ _ (by omega)).trans ((setRow_other _ _ _ _ (by omega)).trans (H711.trans H79.out.symm))⟩ (fun hHeld => ?_)
  clear hK K
  simp only [Act.put, List.getElem_toArray, List.getElem_cons_succ, List.getElem_cons_zero]
  refine wpAnyH_take (i := 7) (oi := _) (v := ?_) rfl (by kernel_rfl) (by kernel_rfl) (by kernel_rfl) (fun _ _ _ h => h) (Or.inl ⟨by rfl, ?_⟩) hHeld ?_
  rotate_left
  · intro w' hSw
    (go_simp <;> with_reducible rfl)
  try simp only [Act.put, List.getElem_toArray, List.getElem_cons_succ, List.getElem_cons_zero, List.setIfInBounds_toArray, List.set_cons_zero, List.set_cons_succ]
  refine wpAnyH_done (by kernel_rfl) ?_ _
  go_wp2
  refine bodyPost_ret (v := .tuple #[.agg (mcell _ _ _ _ _ _), .agg #[.int .i64 xo, .int .i64 xa, .int .i64 xb, .int .i64 xn], .bool true]) (res19 rfl rfl rfl ((setRow_other _ _ _ _ (by omega)).trans (setRow_heap _ _ _ _ _ _ g4)) HL8.out (setRow_heap _ _ _ _ _ _ ((setRow_other _ _ _ _ (by omega)).trans g5))) rfl ?_
  exact ⟨⟨pcF, mm, _, _, _, RF, _, rfl, HL8.out, HKF, by rw [HR3.out]; exact own_row (own_row o11 (by omega) _) (by omega) _, HFIN.out _ _ HNX⟩, by rw [HR3.out]; exact below_setRow (below_setRow B11 (by omega) _) (by omega) _⟩
end Go.Proofs.Ytboffjabffcddaa
