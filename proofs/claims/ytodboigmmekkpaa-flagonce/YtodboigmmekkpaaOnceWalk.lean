/-
  The law FlagOnce, walked.
-/
import Derived.Test.YtodboigmmekkpaaUse
import Derived.Test.YtodboigmmekkpaaHand
import Derived.Deep.CutRange
import Derived.Test.YtodboigmmekkpaaTold
import Derived.Test.YtodboigmmekkpaaArgs
import Derived.Deep.RegionLaw
import Derived.BigQuiet
namespace Go.Proofs.Ytodboigmmekkpaa
open Go.ChangeShapes Go.WideShapes Go.ChangeAt Go.RowKit
attribute [local go_sem ↓] Go.wp_at_zero Go.wp_at_succ

def wc7 (f : Nat → Nat) : Array Value := #[.int .u32 (f 0 : Int), .int .u32 (f 1 : Int), .int .u32 (f 2 : Int), .int .u32 (f 3 : Int), .int .u32 (f 4 : Int), .int .u32 (f 5 : Int), .int .u32 (f 6 : Int)]
/-- what each waits for: a variable -/
def Wv (w : World) (g : Nat) (f : Nat → Nat) : Prop := Lv w g (wc7 f) 40
theorem Wv.lt {w : World} {g : Nat} {f : Nat → Nat} (h : Wv w g f) : g < w.heap.size := Lv.lt h
theorem Wv.below {w w' : World} {g : Nat} {f : Nat → Nat} (h : Wv w g f) (hb : Below w.heap.size w w') : Wv w' g f := Lv.below h hb
theorem Wv.fz {w : World} {g : Nat} {f : Nat → Nat} (h : Wv w g f) (j : Nat) : w.frozen? ⟨g, j, none⟩ = false := Lv.fz h j
theorem Wv.at_ {w : World} {g : Nat} {f : Nat → Nat} (h : Wv w g f) (j : Nat) (hj : j < 7) : w.cell? ⟨g, j, none⟩ = some (.int .u32 ((f j : Nat) : Int)) :=
  Lv.c h j (by
    have : j = 0 ∨ j = 1 ∨ j = 2 ∨ j = 3 ∨ j = 4 ∨ j = 5 ∨ j = 6 := by omega
    rcases this with rfl | rfl | rfl | rfl | rfl | rfl | rfl <;> rfl)
theorem Wv.congr {w : World} {g : Nat} {f f' : Nat → Nat} (h : Wv w g f) (e : ∀ j, f' j = f j) : Wv w g f' := by
  have : f' = f := funext e
  rw [this]; exact h
theorem wc7_set (f f' : Nat → Nat) (j v : Nat) (hj : j < 7) (e : ∀ i, f' i = if i = j then v else f i) : (wc7 f).setIfInBounds j (.int .u32 (v : Int)) = wc7 f' := by
  have : j = 0 ∨ j = 1 ∨ j = 2 ∨ j = 3 ∨ j = 4 ∨ j = 5 ∨ j = 6 := by omega
  unfold wc7
  rw [e 0, e 1, e 2, e 3, e 4, e 5, e 6]
  rcases this with rfl | rfl | rfl | rfl | rfl | rfl | rfl <;> rfl
theorem Wv.set {w : World} {g : Nat} {f : Nat → Nat} (h : Wv w g f) (f' : Nat → Nat) (j v : Nat) (hj : j < 7) (e : ∀ i, f' i = if i = j then v else f i) : Wv (w.setCell ⟨g, j, none⟩ (.int .u32 (v : Int))) g f' := by
  have := Lv.set h j (.int .u32 (v : Int))
  rw [wc7_set f f' j v hj e] at this
  exact this
theorem want_no (f : Nat → Nat) (j : Nat) (x : Int) : (wc7 f)[j]? ≠ some (.int .i64 x) := by
  match j with
  | 0 => simp [wc7]
  | 1 => simp [wc7]
  | 2 => simp [wc7]
  | 3 => simp [wc7]
  | 4 => simp [wc7]
  | 5 => simp [wc7]
  | 6 => simp [wc7]
  | j + 7 => simp [wc7]
theorem Rd.want {w w' : World} {p : Option Addr} {c : Nat} {L : List Wt} (h : Rd eW w p c L) {g : Nat} {f : Nat → Nat} (hg : Wv w g f) (hk : Kp g w w') : Rd eW w' p c L :=
  h.keep hg (want_no f) (fun b hb hne => hk.block b hb (by intro e; cases e; exact hne rfl))
theorem Fx.want {w w' : World} {b : Nat} {p : Option Addr} {c n : Nat} {l : List Wt} (h : Fx w b p c n l) {g : Nat} {f : Nat → Nat} (hg : Wv w g f) (hk : Kp g w w') : Fx w' b p c n l := ⟨h.rd.want hg hk, h.ln, h.u, h.b32, h.n9⟩
theorem Fv.kp {w w' : World} {g x b : Nat} {p : Option Addr} {n c : Nat} (h : Fv w g b p n c) (hk : Kp x w w') (hn : g ≠ x) : Fv w' g b p n c := (hk.block g (Lv.lt h) (by intro e; cases e; exact hn rfl)).trans h
theorem Wv.kp {w w' : World} {g x : Nat} {f : Nat → Nat} (h : Wv w g f) (hk : Kp x w w') (hn : g ≠ x) : Wv w' g f := (hk.block g (Lv.lt h) (by intro e; cases e; exact hn rfl)).trans h
theorem aw_no {b : Nat} {l : List Wt} {c : Int} {m : Nat} (h : awO b l c m = false) : awG b c m = 0 := by
  unfold awO at h
  unfold awG
  cases hk : okc c m with
  | false => simp
  | true =>
    rw [hk] at h
    simp at h
    simpa using h.1
theorem aw_got {b : Nat} {l : List Wt} {c : Int} {m : Nat} (hG : awG b c m ≠ 0) : awG b c m = b &&& m ∧ awB b c m = dn b m ∧ awW b l c m = l := by
  unfold awG at hG
  cases hk : okc c m with
  | false => rw [hk] at hG; simp at hG
  | true =>
    rw [hk] at hG
    simp at hG
    refine ⟨by unfold awG; rw [hk]; rfl, by unfold awB; rw [hk]; rfl, ?_⟩
    unfold awW awJ
    rw [hk]
    simp [hG]
theorem aw_wait {b : Nat} {l : List Wt} {c : Int} {m : Nat} (h : awO b l c m = true) (hG : awG b c m = 0) : b &&& m = 0 ∧ awB b c m = b ∧ awW b l c m = l ++ [(c, m)] ∧ l.any (·.1 == c) = false := by
  unfold awO at h
  cases hk : okc c m with
  | false => rw [hk] at h; simp at h
  | true =>
    unfold awG at hG
    rw [hk] at h hG
    have hz : b &&& m = 0 := by simpa using hG
    simp only [hz, decide_true, Bool.not_true, Bool.false_or, Bool.true_and] at h
    refine ⟨hz, by unfold awB; rw [hk]; exact dn_zero hz, by unfold awW; rw [h]; rfl, ?_⟩
    unfold awJ at h
    simp only [Bool.and_eq_true, Bool.not_eq_true'] at h
    exact h.1.2
theorem Gd.told {b : Nat} {l : List Wt} (h : Gd b l) (B k : Nat) (hk : k < (tl B l).length) : ∃ x : Nat, ((tl B l)[k]).1 = (x : Int) ∧ 1 ≤ x ∧ x ≤ 6 ∧ ((tl B l)[k]).2 ≠ 0 := by
  obtain ⟨h0, y, hy, h1, _⟩ := tl_mem B l _ (List.getElem_mem hk)
  have := h.cl y hy
  rw [h1] at this
  obtain ⟨x, hx⟩ := Int.eq_ofNat_of_zero_le (show 0 ≤ ((tl B l)[k]).1 by omega)
  exact ⟨x, hx, by omega, by omega, h0⟩
set_option maxRecDepth 100000 in
set_option maxHeartbeats 16000000 in
theorem once_walk (p : Option Addr) (c : Nat) (zs : List (Int × Int × Int)) (w : World) (h : Rd e3 w p c zs) (n : Nat) (hn : zs.length = n) (hz : ∀ y ∈ zs, Byte3 y) :
    Calls Try.prog 4 #[.slice p n c] w fun e w' => e = .returned (.bool true) ∧ Below w.heap.size w w' := by
  have HN : Hid (zs.length = n) := hn
  have HZ : Hid (∀ y ∈ zs, Byte3 y) := hz
  clear hn hz
  by_cases c1 : 40 < n
  · have d1 : decide ((40 : Int) < (n : Int)) = true := by simp; omega
    go_enter Try.func4, Try.ntmps4
    go_wp2_with (go_at_call 7; refine (begun_any _).mono ?_; rintro e w1 ⟨rfl, b1⟩)
    go_ret
    exact ⟨rfl, b1⟩
  have d1 : decide ((40 : Int) < (n : Int)) = false := by simp; omega
  go_enter Try.func4, Try.ntmps4
  go_wp2_with (go_at_call 7; refine (begun_any _).mono ?_; rintro e w1 ⟨rfl, b1⟩)
  obtain ⟨W, hW⟩ : ∃ W, W = (w1.alloc (.cells #[.int .u32 0, .slice none 0 0] 25)).alloc (.cells #[.int .u32 0, .int .u32 0, .int .u32 0, .int .u32 0, .int .u32 0, .int .u32 0, .int .u32 0] 40) := ⟨_, rfl⟩
  have v1 : Fv W w1.heap.size 0 none 0 0 := by rw [hW]; exact (Fv.new _ _ _ _ _).below (bel_self _ _)
  have k1 : Wv W (w1.heap.size + 1) (wantOf []) := by rw [hW]; exact heap_at (by simp)
  have B1 : Below w.heap.size w W := by rw [hW]; exact bel_call (bel_call b1 (Nat.le_refl _) (bel_self _ _)) (Nat.le_refl _) (bel_self _ _)
  rw [← hW]
  obtain ⟨gw, hgw⟩ : ∃ g, g = w1.heap.size + 1 := ⟨_, rfl⟩
  obtain ⟨gf, hgf⟩ : ∃ g, g = w1.heap.size := ⟨_, rfl⟩
  have hfw : gf ≠ gw := by omega
  have hww : w.heap.size ≤ gw := by have := b1.size; omega
  have hwf : w.heap.size ≤ gf := by rw [hgf]; exact b1.size
  rw [← hgw] at k1
  rw [← hgf] at v1
  simp only [← hgw]
  simp only [← hgf]
  have x1 : Fx W 0 none 0 0 [] := Fx.nil W (by decide)
  clear hgw hgf hW b1 w1
  go_loopw [5] (fun i wr => ∃ (k b : Nat) (p : Option Addr) (c nW : Nat) (l : List Wt), k ≤ n ∧ i = .int .i64 k ∧ Fv wr gf b p nW c ∧ Fx wr b p c nW l ∧ Gd b l ∧ Wv wr gw (wantOf l) ∧ Below w.heap.size w wr) (fun i _ => n - (intOf i).toNat)
  case atStart => exact ⟨0, 0, none, 0, 0, [], Nat.zero_le _, rfl, v1, x1, Gd.nil, k1, B1⟩
  case round =>
    obtain ⟨k, b, pf, cf, nW, l, hk, rfl, hv, hx, hG, hw7, hbw⟩ := hrel
    clear v1 x1 k1 B1
    obtain ⟨w0r, hw0⟩ : ∃ x : World, x = wr := ⟨_, rfl⟩
    subst hw0
    by_cases hlt : k < n
    · have hkl : k < zs.length := by rw [HN.out]; exact hlt
      obtain ⟨bz, oz, rfl, hbz, hz0, hz1, hz2⟩ := (h.below hbw).three k hkl
      obtain ⟨⟨a0, a1⟩, ⟨m0, m1⟩, ⟨u0, u1⟩⟩ := HZ.out zs[k] (List.getElem_mem hkl)
      generalize (zs[k]).1 = A at *
      generalize (zs[k]).2.1 = M at *
      generalize (zs[k]).2.2 = C at *
      obtain ⟨m, rfl⟩ := Int.eq_ofNat_of_zero_le m0
      have hm32 : m < 4294967296 := by omega
      obtain ⟨x, hxC⟩ : ∃ x : Nat, (x : Int) = 1 + C % 6 := by
        have : 0 ≤ 1 + C % 6 := by omega
        obtain ⟨x, hx⟩ := Int.eq_ofNat_of_zero_le this
        exact ⟨x, hx.symm⟩
      have hx1 : 1 ≤ x := by omega
      have hx6 : x ≤ 6 := by omega
      have HXC : Hid ((x : Int) = 1 + C % 6) := hxC
      have dk : decide ((k : Int) < (n : Int)) = true := by simp; omega
      have dk2 : (k : Int) < (n : Int) := by omega
      clear hxC
      go_upto_region 10 with fail
      go_cut [6, 7] from 29 to 42 (fun y z wx => y = .int .u32 (m : Int) ∧ z = .int .i64 (x : Int) ∧ Below w0r.heap.size w0r wx)
      case first =>
        refine wp_region_held_drew (S := fun w' => Below w0r.heap.size w0r w') (by kernel_rfl) (Below.refl _ _).drew (fun hHeld => ?_)
        refine wpAnyH_take (i := 0) (oi := _) (v := ?_) rfl (by kernel_rfl) (by kernel_rfl) (by kernel_rfl) (fun _ _ _ h => h) (Or.inl ⟨by rfl, ?_⟩) hHeld ?_
        rotate_left
        · intro w' hSw
          (go_simp <;> with_reducible rfl)
        try simp only [Act.put, List.getElem_toArray, List.getElem_cons_zero, List.setIfInBounds_toArray, List.set_cons_zero, List.set_cons_succ]
        refine wpAnyH_take (i := 1) (oi := _) (v := ?_) rfl (by kernel_rfl) (by kernel_rfl) (by kernel_rfl) (fun _ _ _ h => h) (Or.inl ⟨by rfl, ?_⟩) hHeld ?_
        rotate_left
        · intro w' hSw
          (go_simp <;> with_reducible rfl)
        try simp only [Act.put, List.getElem_toArray, List.getElem_cons_succ, List.getElem_cons_zero, List.setIfInBounds_toArray, List.set_cons_zero, List.set_cons_succ]
        refine wpAnyH_take (i := 2) (oi := _) (v := ?_) rfl (by kernel_rfl) (by kernel_rfl) (by kernel_rfl) (fun _ _ _ h => h) (Or.inl ⟨by rfl, ?_⟩) hHeld ?_
        rotate_left
        · intro w' hSw
          (go_simp <;> with_reducible rfl)
        try simp only [Act.put, List.getElem_toArray, List.getElem_cons_succ, List.getElem_cons_zero, List.setIfInBounds_toArray, List.set_cons_zero, List.set_cons_succ]
        refine wpAnyH_take (i := 3) (oi := _) (v := ?_) rfl (by kernel_rfl) (by kernel_rfl) (by kernel_rfl) (fun _ _ _ h => h) (Or.inl ⟨by rfl, ?_⟩) hHeld ?_
        rotate_left
        · intro w' hSw
          (go_simp <;> with_reducible rfl)
        try simp only [Act.put, List.getElem_toArray, List.getElem_cons_succ, List.getElem_cons_zero, List.setIfInBounds_toArray, List.set_cons_zero, List.set_cons_succ]
        refine wpAnyH_take (i := 4) (oi := _) (v := ?_) rfl (by kernel_rfl) (by kernel_rfl) (by kernel_rfl) (fun _ _ _ h => h) (Or.inl ⟨by rfl, ?_⟩) hHeld ?_
        rotate_left
        · intro w' hSw
          have s0 := (hSw.cell (p := ⟨bz, oz + k * 3 + 1, none⟩) hbz).trans hz1
          (go_simp <;> with_reducible rfl)
        try simp only [Act.put, List.getElem_toArray, List.getElem_cons_succ, List.getElem_cons_zero, List.setIfInBounds_toArray, List.set_cons_zero, List.set_cons_succ]
        refine wpAnyH_take (i := 5) (oi := _) (v := ?_) rfl (by kernel_rfl) (by kernel_rfl) (by kernel_rfl) (fun _ _ _ h => h) (Or.inl ⟨by rfl, ?_⟩) hHeld ?_
        rotate_left
        · intro w' hSw
          (go_simp <;> with_reducible rfl)
        try simp only [Act.put, List.getElem_toArray, List.getElem_cons_succ, List.getElem_cons_zero, List.setIfInBounds_toArray, List.set_cons_zero, List.set_cons_succ]
        refine wpAnyH_take (i := 6) (oi := _) (v := ?_) rfl (by kernel_rfl) (by kernel_rfl) (by kernel_rfl) (fun _ _ _ h => h) (Or.inl ⟨by rfl, ?_⟩) hHeld ?_
        rotate_left
        · intro w' hSw
          (go_simp <;> with_reducible rfl)
        try simp only [Act.put, List.getElem_toArray, List.getElem_cons_succ, List.getElem_cons_zero, List.setIfInBounds_toArray, List.set_cons_zero, List.set_cons_succ]
        refine wpAnyH_take (i := 7) (oi := _) (v := ?_) rfl (by kernel_rfl) (by kernel_rfl) (by kernel_rfl) (fun _ _ _ h => h) (Or.inl ⟨by rfl, ?_⟩) hHeld ?_
        rotate_left
        · intro w' hSw
          (go_simp <;> with_reducible rfl)
        try simp only [Act.put, List.getElem_toArray, List.getElem_cons_succ, List.getElem_cons_zero, List.setIfInBounds_toArray, List.set_cons_zero, List.set_cons_succ]
        refine wpAnyH_take (i := 8) (oi := _) (v := ?_) rfl (by kernel_rfl) (by kernel_rfl) (by kernel_rfl) (fun _ _ _ h => h) (Or.inl ⟨by rfl, ?_⟩) hHeld ?_
        rotate_left
        · intro w' hSw
          (go_simp <;> with_reducible rfl)
        try simp only [Act.put, List.getElem_toArray, List.getElem_cons_succ, List.getElem_cons_zero, List.setIfInBounds_toArray, List.set_cons_zero, List.set_cons_succ]
        refine wpAnyH_take (i := 9) (oi := _) (v := ?_) rfl (by kernel_rfl) (by kernel_rfl) (by kernel_rfl) (fun _ _ _ h => h) (Or.inl ⟨by rfl, ?_⟩) hHeld ?_
        rotate_left
        · intro w' hSw
          (go_simp <;> with_reducible rfl)
        try simp only [Act.put, List.getElem_toArray, List.getElem_cons_succ, List.getElem_cons_zero, List.setIfInBounds_toArray, List.set_cons_zero, List.set_cons_succ]
        refine wpAnyH_take (i := 10) (oi := _) (v := ?_) rfl (by kernel_rfl) (by kernel_rfl) (by kernel_rfl) (fun _ _ _ h => h) (Or.inl ⟨by rfl, ?_⟩) hHeld ?_
        rotate_left
        · intro w' hSw
          have s0 := (hSw.cell (p := ⟨bz, oz + k * 3 + 2, none⟩) hbz).trans hz2
          (go_simp <;> with_reducible rfl)
        try simp only [Act.put, List.getElem_toArray, List.getElem_cons_succ, List.getElem_cons_zero, List.setIfInBounds_toArray, List.set_cons_zero, List.set_cons_succ]
        refine wpAnyH_take (i := 11) (oi := _) (v := ?_) rfl (by kernel_rfl) (by kernel_rfl) (by kernel_rfl) (fun _ _ _ h => h) (Or.inl ⟨by rfl, ?_⟩) hHeld ?_
        rotate_left
        · intro w' hSw
          (go_simp <;> with_reducible rfl)
        try simp only [Act.put, List.getElem_toArray, List.getElem_cons_succ, List.getElem_cons_zero, List.setIfInBounds_toArray, List.set_cons_zero, List.set_cons_succ]
        refine wpAnyH_take (i := 12) (oi := _) (v := ?_) rfl (by kernel_rfl) (by kernel_rfl) (by kernel_rfl) (fun _ _ _ h => h) (Or.inl ⟨by rfl, ?_⟩) hHeld ?_
        rotate_left
        · intro w' hSw
          (go_simp <;> with_reducible rfl)
        try simp only [Act.put, List.getElem_toArray, List.getElem_cons_succ, List.getElem_cons_zero, List.setIfInBounds_toArray, List.set_cons_zero, List.set_cons_succ]
        refine wpAnyH_take (i := 13) (oi := _) (v := ?_) rfl (by kernel_rfl) (by kernel_rfl) (by kernel_rfl) (fun _ _ _ h => h) (Or.inl ⟨by rfl, ?_⟩) hHeld ?_
        rotate_left
        · intro w' hSw
          (go_simp <;> with_reducible rfl)
        try simp only [Act.put, List.getElem_toArray, List.getElem_cons_succ, List.getElem_cons_zero, List.setIfInBounds_toArray, List.set_cons_zero, List.set_cons_succ]
        refine wpAnyH_take (i := 14) (oi := _) (v := ?_) rfl (by kernel_rfl) (by kernel_rfl) (by kernel_rfl) (fun _ _ _ h => h) (Or.inl ⟨by rfl, ?_⟩) hHeld ?_
        rotate_left
        · intro w' hSw
          (go_simp <;> with_reducible rfl)
        try simp only [Act.put, List.getElem_toArray, List.getElem_cons_succ, List.getElem_cons_zero, List.setIfInBounds_toArray, List.set_cons_zero, List.set_cons_succ]
        refine wpAnyH_take (i := 15) (oi := _) (v := ?_) rfl (by kernel_rfl) (by kernel_rfl) (by kernel_rfl) (fun _ _ _ h => h) (Or.inl ⟨by rfl, ?_⟩) hHeld ?_
        rotate_left
        · intro w' hSw
          (go_simp <;> with_reducible rfl)
        try simp only [Act.put, List.getElem_toArray, List.getElem_cons_succ, List.getElem_cons_zero, List.setIfInBounds_toArray, List.set_cons_zero, List.set_cons_succ]
        refine wpAnyH_done (by kernel_rfl) ?_ _
        go_wp2_with fail
        go_meet
        case rel =>
          exact ⟨by rw [IntKind.wrap_u32']; congr 1; omega, by rw [Int.tmod_eq_emod_of_nonneg u0, IntKind.wrap_i64, IntKind.wrap_i64, HXC.out]; congr 1; omega, hHeld⟩
      case rest =>
        obtain ⟨rfl, rfl, hb0⟩ := hcut
        obtain ⟨wa, hwa⟩ : ∃ y : World, y = wc := ⟨_, rfl⟩
        subst hwa
        have qz0 := (hb0.cell (p := ⟨bz, oz + k * 3, none⟩) hbz).trans hz0
        have hv := hv.below hb0
        have hx := hx.below hb0
        have hw7 := hw7.below hb0
        have hbw := bel_call hbw (Nat.le_refl _) hb0
        have hbz := Nat.lt_of_lt_of_le hbz hb0.size
        clear hb0 HXC
        by_cases hev : A % 2 = 0
        · obtain ⟨Z, hZ⟩ : ∃ Z, b ||| m = Z := ⟨_, rfl⟩
          have hZ32 : Z < 4294967296 := by rw [← hZ]; exact or_lt hG.b32 hm32
          have hor := u32_or_nat b m hG.b32 hm32
          rw [hZ] at hor
          obtain ⟨B1, hB1⟩ : ∃ y, lf Z l = y := ⟨_, rfl⟩
          obtain ⟨K1, hK1⟩ : ∃ y, kp Z l = y := ⟨_, rfl⟩
          obtain ⟨T1, hT1⟩ : ∃ y, tl Z l = y := ⟨_, rfl⟩
          obtain ⟨k1, hk1⟩ : ∃ y, K1.length = y := ⟨_, rfl⟩
          obtain ⟨t1, ht1⟩ : ∃ y, T1.length = y := ⟨_, rfl⟩
          have HGd : Hid (Gd B1 K1) := by
            have := hG.raise hm32
            rw [hZ, hB1, hK1] at this
            exact this
          have HTd : Hid (∀ j (hj : j < T1.length), ∃ y : Nat, (T1[j]).1 = (y : Int) ∧ 1 ≤ y ∧ y ≤ 6 ∧ (T1[j]).2 ≠ 0) := by
            subst hT1
            exact fun j hj => hG.told Z j hj
          have HWt : Hid (∀ j (hj : j < T1.length) (y : Nat), (T1[j]).1 = (y : Int) → wantK l T1 j y &&& (T1[j]).2 = (T1[j]).2) := by
            subst hT1
            exact fun j hj y hy => wantK_told hG.nd Z j hj y hy
          have HNx : Hid (∀ j (hj : j < T1.length), (T1[j]).2 &&& lf Z (T1.take j) = (T1[j]).2) := by
            subst hT1
            exact fun j hj => told_next Z l j hj
          have HLs : Hid (∀ j (hj : j < T1.length), lf Z (T1.take (j + 1)) = dn (lf Z (T1.take j)) (T1[j]).2) := by
            intro j hj
            rw [take_next T1 j hj, lf_snoc]
          have HEn : Hid (lf Z (T1.take t1) = B1) := by
            show _ = _
            rw [← ht1, List.take_length, ← hT1, lf_told, hB1]
          have HWe : Hid (∀ y, wantOf K1 y = wantK l T1 t1 y) := by
            intro y
            have := wantK_all hG.nd Z y
            rw [hT1, ht1, hK1] at this
            exact this.symm
          have HWl : Hid (∀ j y, wantK l T1 j y < 4294967296) := fun j y => wantK_lt hG.u T1 j y
          have HTl : Hid (UL T1) := by rw [← hT1]; exact hG.u.tl Z
          have ht9 : t1 ≤ 1000 := by
            have e1 := tl_le Z l
            have e2 := hG.le
            rw [hT1, ht1] at e1
            omega
          have HB1 : Hid (lf (b ||| m) l = B1) := by rw [hZ]; exact hB1
          have HK1 : Hid (kp (b ||| m) l = K1) := by rw [hZ]; exact hK1
          have HT1 : Hid (tl (b ||| m) l = T1) := by rw [hZ]; exact hT1
          have HNk : Hid (K1.length = k1) := hk1
          have HNt : Hid (T1.length = t1) := ht1
          clear hZ hB1 hK1 hT1 hk1 ht1
          have y0 := hv.c0
          have y1 := hv.c1
          go_wp2_with (go_at_call 8; (with_reducible (refine (raise_c hx (b : Int) rfl m hm32 (m : Int) rfl B1 HB1.out (B1 : Int) rfl K1 T1 HK1.out HT1.out k1 t1 HNk.out HNt.out).mono ?_)); rintro e w2 ⟨q2, d2, u2, v2, rfl, x2, r2, b2⟩
                       have s2 := bel_self w2 (.cells #[.int .u32 (B1 : Int), .slice q2 k1 d2] 25)
                       have hv2 := (hv.below b2).below s2
                       have e0 := hv2.c0)
          have V2 := Fv.new w2 B1 q2 k1 d2
          have X2 := x2.below s2
          have R2 := r2.below s2
          have K2 := (hw7.below b2).below s2
          have BW2 := bel_call (bel_call hbw (Nat.le_refl _) b2) (Nat.le_refl _) s2
          have hgl := (hw7.below b2).lt
          obtain ⟨W2, hW2⟩ : ∃ y, y = w2.alloc (.cells #[.int .u32 (B1 : Int), .slice q2 k1 d2] 25) := ⟨_, rfl⟩
          rw [← hW2] at BW2 V2 R2 X2 K2 hv2 ⊢
          obtain ⟨gx, hgx⟩ : ∃ g, g = w2.heap.size := ⟨_, rfl⟩
          have hgxw : gx ≠ gw := by omega
          rw [← hgx] at V2
          simp only [← hgx]
          clear hW2 hgx e0 s2 x2 r2 b2 y0 y1 hv hx hbw HB1 HK1 HT1 hgl hbz hz0 hz1 hz2
          go_loopw [10, 11] (fun y i wr => ∃ j : Nat, j ≤ t1 ∧ i = .int .i64 j ∧ y = .int .u32 ((lf Z (T1.take j) : Nat) : Int) ∧ Wv wr gw (wantK l T1 j) ∧ Kp gw W2 wr) (fun _ i _ => t1 - (intOf i).toNat)
          case atStart => exact ⟨0, Nat.zero_le _, rfl, by rw [List.take_zero]; rfl, K2.congr (wantK_zero l T1), Kp.refl _ _⟩
          case round =>
            obtain ⟨j, hj, rfl, rfl, hwj, hkp⟩ := hrel
            by_cases hltj : j < t1
            · have hjT : j < T1.length := by rw [HNt.out]; exact hltj
              obtain ⟨y, hTy, hy1, hy6, hg0⟩ := HTd.out j hjT
              have hwt := HWt.out j hjT y hTy
              have hnx := HNx.out j hjT
              have hls := HLs.out j hjT
              have hwn := fun i => wantK_next l T1 j i hjT
              have hlG := HTl.out.get j hjT
              have hlW := HWl.out j y
              have hlL := lf_lt hZ32 (T1.take j)
              obtain ⟨tb, tz, rfl, htb, ta0, ta1⟩ := (R2.want K2 hkp).wt j hjT
              rw [hTy] at ta0 hwn
              clear hTy
              generalize (T1[j]).2 = G at *
              have s1 := bel_self wr (.cells #[.int .i64 (y : Int), .int .u32 (G : Int)] 43)
              have hwj1 := hwj.below s1
              have cy := hwj1.at_ y (by omega)
              have HWN : Hid (∀ i, wantK l T1 (j + 1) i = if i = y then 0 else wantK l T1 j i) := by
                intro i
                rw [hwn i]
                by_cases e : i = y
                · subst e; rw [if_pos rfl, if_pos rfl]
                · rw [if_neg e, if_neg (by intro e2; exact e (by omega))]
              generalize wantK l T1 j y = WX at *
              obtain ⟨AL, hAL⟩ : ∃ AL, lf Z (T1.take j) = AL := ⟨_, rfl⟩
              rw [hAL] at hnx hls hlL ⊢
              obtain ⟨DD, hDD⟩ : ∃ DD, dn AL G = DD := ⟨_, rfl⟩
              rw [hDD] at hls
              have HDD : Hid (lf Z (T1.take (j + 1)) = DD) := hls
              have f1 : decide ((y : Int) < 1) = false := by simp; omega
              have f2 : decide ((6 : Int) < (y : Int)) = false := by simp; omega
              have f3 : ((G : Int) == 0) = false := by simpa using hg0
              have f3' : (G == 0) = false := by simpa using hg0
              have f4 : bits .and .u32 (G : Int) (AL : Int) = (G : Int) := by rw [u32_and_nat G AL hlG hlL, hnx]
              have f5 : bits .and .u32 (WX : Int) (G : Int) = (G : Int) := by rw [u32_and_nat WX G hlW hlG, hwt]
              have f6 : bits .andNot .u32 (AL : Int) (G : Int) = (DD : Int) := by rw [u32_andNot_nat AL G hlL hlG, andNot_dn hlL hlG, hDD]
              have tv := Lv.new wr #[.int .i64 (y : Int), .int .u32 (G : Int)] 43
              have n0 := tv.c 0 rfl
              have n1 := tv.c 1 rfl
              have hy7 : y < 7 := by omega
              have hyI : (y : Int) < 7 := by omega
              clear hnx hls hwt hwn hAL hDD hg0 hlG hlL hlW
              go_wp2
              go_quiet (fail)
              have bq : Below wr.heap.size wr ((wr.alloc (.cells #[.int .i64 (y : Int), .int .u32 (G : Int)] 43)).drewN nq) := bel_draws s1 nq
              have tvq : Lv ((wr.alloc (.cells #[.int .i64 (y : Int), .int .u32 (G : Int)] 43)).drewN nq) wr.heap.size #[.int .i64 (y : Int), .int .u32 (G : Int)] 43 := tv
              have hwq := hwj.below bq
              have kq := hkp.trans (Kp.of_below bq)
              clear cy n0 n1 tv hwj1 s1 bq hwj hkp
              generalize (wr.alloc (.cells #[.int .i64 (y : Int), .int .u32 (G : Int)] 43)).drewN nq = wq at *
              have n0 := tvq.c 0 rfl
              have n1 := tvq.c 1 rfl
              have cy := hwq.at_ y hy7
              have fy := hwq.fz y
              go_wp2
              go_region
              have hws := hwq.set (wantK l T1 (j + 1)) y 0 hy7 HWN.out
              have kqs := kq.trans (Kp.set (g := gw) (a := ⟨gw, y, none⟩) rfl (.int .u32 ((0 : Nat) : Int)))
              go_wp2
              go_roundw
              case rel => exact ⟨j + 1, by omega, by go_num, by rw [HDD.out], hws, kqs.drew⟩
              case measure => simp [intOf]; omega
            · obtain rfl : j = t1 := by omega
              obtain ⟨wo, hwo⟩ : ∃ wo : World, wo = wr := ⟨_, rfl⟩
              subst hwo
              have V3 := V2.kp hkp hgxw
              have hv3 := hv2.kp hkp hfw
              have X3 := X2.want K2 hkp
              have hw3 : Wv wo gw (wantOf K1) := hwj.congr HWe.out
              have B3 : Below w.heap.size w wo := BW2.trans (hkp.below hww BW2.size)
              have i0 := V3.c0
              have i1 := V3.c1
              have o0 := hv3.c0
              have o1 := hv3.c1
              have z0 := hv3.f0
              have z1 := hv3.f1
              rw [HEn.out]
              go_wp2
              have hvE := hv3.put B1 q2 k1 d2
              have FxE := X3.stored hv3 (.int .u32 (B1 : Int)) (.slice q2 k1 d2)
              have WvE : Wv ((wo.setCell ⟨gf, 0, none⟩ (.int .u32 (B1 : Int))).setCell ⟨gf, 1, none⟩ (.slice q2 k1 d2)) gw (wantOf K1) := Lv.far (Lv.far hw3 (a := ⟨gf, 0, none⟩) hfw _) (a := ⟨gf, 1, none⟩) hfw _
              have BE : Below w.heap.size w ((wo.setCell ⟨gf, 0, none⟩ (.int .u32 (B1 : Int))).setCell ⟨gf, 1, none⟩ (.slice q2 k1 d2)) := by
                refine Below.setCell (Below.setCell B3 ?_ _) ?_ _ <;> exact hwf
              clear hv3 X3 hw3 B3 i0 i1 o0 o1 z0 z1 V3 hwj hkp hv2 X2 K2 BW2 V2 R2 HTd HWt HNx HLs HEn HWe HWl HTl HNt
              obtain ⟨wE, hwE⟩ : ∃ y : World, y = ((wo.setCell ⟨gf, 0, none⟩ (.int .u32 (B1 : Int))).setCell ⟨gf, 1, none⟩ (.slice q2 k1 d2)) := ⟨_, rfl⟩
              rw [← hwE] at hvE FxE WvE BE ⊢
              clear hwE
              have GdE : Gd B1 (K1) := HGd.out
              have HFr : Hid (∀ s, wantOf (K1) s &&& B1 = 0) := GdE.fr.want
              have HFl : Hid (∀ s, wantOf (K1) s < 4294967296) := wantOf_lt GdE.u
              have HFb : Hid (B1 < 4294967296) := GdE.b32
              go_loopw [16] (fun i wr => ∃ s : Nat, 1 ≤ s ∧ s ≤ 7 ∧ i = .int .i64 s ∧ Below wE.heap.size wE wr) (fun i _ => 7 - (intOf i).toNat)
              case atStart => exact ⟨1, by omega, by omega, rfl, Below.refl _ _⟩
              case round =>
                obtain ⟨s, hs1, hs7, rfl, hbs⟩ := hrel
                have hvs := hvE.below hbs
                have cs0 := hvs.c0
                have hws := WvE.below hbs
                by_cases hlts : s < 7
                · have cw := hws.at_ s hlts
                  have hand : bits .and .u32 ((wantOf (K1) s : Nat) : Int) (B1 : Int) = 0 := by rw [u32_and_nat _ _ (HFl.out s) HFb.out, HFr.out]; rfl
                  generalize wantOf (K1) s = Y at cw hand
                  have ds : (s : Int) < 7 := by omega
                  have ds2 : decide ((s : Int) < 7) = true := decide_eq_true ds
                  go_wp2
                  go_quiet (fail)
                  go_wp2
                  go_roundw
                  case rel => exact ⟨s + 1, by omega, by omega, by go_num, bel_draws hbs nq⟩
                  case measure => simp [intOf]; omega
                · have ds : decide ((s : Int) < 7) = false := by simp; omega
                  go_wp2
                  go_roundw
                  case rel => exact ⟨k + 1, B1, q2, d2, k1, K1, by omega, by go_num, hvs, FxE.below hbs, GdE, hws, bel_call BE (Nat.le_refl _) hbs⟩
                  case measure => simp [intOf]; omega
        · have hx7 : x < 7 := by omega
          have hxI : (x : Int) < 7 := by omega
          have y0 := hv.c0
          have y1 := hv.c1
          have hb32 := hG.b32
          have hGA := hG.await (c := (x : Int)) hm32 (by omega) (by omega)
          cases hO : awO b l (x : Int) m with
          | false =>
            have HO : Hid (awO b l (x : Int) m = false) := hO
            have HGx : Hid (awG b (x : Int) m = 0) := aw_no hO
            obtain ⟨B2, hB2⟩ : ∃ y, awB b (x : Int) m = y := ⟨_, rfl⟩
            obtain ⟨L2, hL2⟩ : ∃ y, awW b l (x : Int) m = y := ⟨_, rfl⟩
            obtain ⟨n2, hnn⟩ : ∃ y, L2.length = y := ⟨_, rfl⟩
            have hn2 : n2 ≤ 1000 := by
              have := hGA.le
              rw [hL2, hnn] at this
              omega
            have HB : Hid (awB b (x : Int) m = B2) := hB2
            have HL : Hid (awW b l (x : Int) m = L2) := hL2
            have HN2 : Hid (L2.length = n2) := hnn
            clear hO hB2 hL2 hnn hGA
            go_wp2_with (go_at_call 12; (with_reducible (refine (await_c hx (b : Int) rfl (x : Int) m hm32 (m : Int) rfl B2 HB.out (B2 : Int) rfl 0 HGx.out (0) rfl false HO.out L2 HL.out n2 HN2.out hn2).mono ?_)); rintro e w2 ⟨q2, d2, rfl, x2, b2⟩
                         have s2 := bel_self w2 (.cells #[.int .u32 (B2 : Int), .slice q2 n2 d2] 25)
                         have hv2 := (hv.below b2).below s2
                         have K2 := (hw7.below b2).below s2
                         have V2 := Fv.new w2 B2 q2 n2 d2
                         have X2 := x2.below s2
                         have X0 := (hx.below b2).below s2
                         have BW2 := bel_call (bel_call hbw (Nat.le_refl _) b2) (Nat.le_refl _) s2
                         have cy := K2.at_ x hx7
                         have fy := K2.fz x
                         have hgl := (hv.below b2).lt
                         have hgl2 := (hw7.below b2).lt
                         have hvw := hv.below b2
                         have Kw := hw7.below b2
                         have o2 := hvw.c0; have o3 := hvw.c1; have z2 := hvw.f0; have z3 := hvw.f1; have cy2 := Kw.at_ x hx7; have fy2 := Kw.fz x
                         have i0 := V2.c0; have i1 := V2.c1; have o0 := hv2.c0; have o1 := hv2.c1; have z0 := hv2.f0; have z1 := hv2.f1)
            have hvE := hv2
            have FxE := X0
            have WvE := K2
            have BE := BW2
            obtain ⟨wE, hwE⟩ : ∃ y : World, y = (w2.alloc (.cells #[.int .u32 (B2 : Int), .slice q2 n2 d2] 25)) := ⟨_, rfl⟩
            rw [← hwE] at hvE FxE WvE BE ⊢
            clear hwE
            have GdE : Gd b (l) := hG
            have HFr : Hid (∀ s, wantOf (l) s &&& b = 0) := GdE.fr.want
            have HFl : Hid (∀ s, wantOf (l) s < 4294967296) := wantOf_lt GdE.u
            have HFb : Hid (b < 4294967296) := GdE.b32
            go_loopw [16] (fun i wr => ∃ s : Nat, 1 ≤ s ∧ s ≤ 7 ∧ i = .int .i64 s ∧ Below wE.heap.size wE wr) (fun i _ => 7 - (intOf i).toNat)
            case atStart => exact ⟨1, by omega, by omega, rfl, Below.refl _ _⟩
            case round =>
              obtain ⟨s, hs1, hs7, rfl, hbs⟩ := hrel
              have hvs := hvE.below hbs
              have cs0 := hvs.c0
              have hws := WvE.below hbs
              by_cases hlts : s < 7
              · have cw := hws.at_ s hlts
                have hand : bits .and .u32 ((wantOf (l) s : Nat) : Int) (b : Int) = 0 := by rw [u32_and_nat _ _ (HFl.out s) HFb.out, HFr.out]; rfl
                generalize wantOf (l) s = Y at cw hand
                have ds : (s : Int) < 7 := by omega
                have ds2 : decide ((s : Int) < 7) = true := decide_eq_true ds
                go_wp2
                go_quiet (fail)
                go_wp2
                go_roundw
                case rel => exact ⟨s + 1, by omega, by omega, by go_num, bel_draws hbs nq⟩
                case measure => simp [intOf]; omega
              · have ds : decide ((s : Int) < 7) = false := by simp; omega
                go_wp2
                go_roundw
                case rel => exact ⟨k + 1, b, pf, cf, nW, l, by omega, by go_num, hvs, FxE.below hbs, GdE, hws, bel_call BE (Nat.le_refl _) hbs⟩
                case measure => simp [intOf]; omega
          | true =>
            have HO : Hid (awO b l (x : Int) m = true) := hO
            by_cases hz : awG b (x : Int) m = 0
            · obtain ⟨e1, e2, e3, e4⟩ := aw_wait hO hz
              rw [e2, e3] at hGA
              have HGx : Hid (awG b (x : Int) m = 0) := hz
              have HB : Hid (awB b (x : Int) m = b) := e2
              have HL : Hid (awW b l (x : Int) m = l ++ [((x : Int), m)]) := e3
              have HN2 : Hid ((l ++ [((x : Int), m)]).length = nW + 1) := by show _ = _; rw [List.length_append, hx.ln]; rfl
              have hn2 : nW + 1 ≤ 1000 := by
                have := hG.le
                rw [hx.ln] at this
                omega
              have hw0 : wantOf l x = 0 := wantOf_none fun y hy e => by
                rw [List.any_eq_false] at e4
                exact e4 y hy (by simpa using e)
              have HWs : Hid (∀ i, wantOf (l ++ [((x : Int), m)]) i = if i = x then m else wantOf l i) := by
                intro i
                rw [wantOf_snoc l _ i e4]
                by_cases e : i = x
                · subst e; rw [if_pos rfl, if_pos rfl]
                · rw [if_neg e, if_neg (by intro e2; exact e (by simp at e2; omega))]
              have hand := u32_and_nat b m hb32 hm32
              rw [e1] at hand
              have hnot : bits .andNot .u32 (b : Int) 0 = (b : Int) := by
                have := u32_andNot_nat b 0 hb32 (by decide)
                rw [andNot_dn hb32 (by decide), dn_nil] at this
                exact this
              clear hO hz e1 e2 e3 e4
              go_wp2_with (go_at_call 12; (with_reducible (refine (await_c hx (b : Int) rfl (x : Int) m hm32 (m : Int) rfl b HB.out (b : Int) rfl 0 HGx.out (0) rfl true HO.out (l ++ [((x : Int), m)]) HL.out (nW + 1) HN2.out hn2).mono ?_)); rintro e w2 ⟨q2, d2, rfl, x2, b2⟩
                           have s2 := bel_self w2 (.cells #[.int .u32 (b : Int), .slice q2 (nW + 1) d2] 25)
                           have hv2 := (hv.below b2).below s2
                           have K2 := (hw7.below b2).below s2
                           have V2 := Fv.new w2 b q2 (nW + 1) d2
                           have X2 := x2.below s2
                           have X0 := (hx.below b2).below s2
                           have BW2 := bel_call (bel_call hbw (Nat.le_refl _) b2) (Nat.le_refl _) s2
                           have cy := K2.at_ x hx7
                           have fy := K2.fz x
                           have hgl := (hv.below b2).lt
                           have hgl2 := (hw7.below b2).lt
                           have hvw := hv.below b2
                           have Kw := hw7.below b2
                           have o2 := hvw.c0; have o3 := hvw.c1; have z2 := hvw.f0; have z3 := hvw.f1; have cy2 := Kw.at_ x hx7; have fy2 := Kw.fz x
                           have i0 := V2.c0; have i1 := V2.c1; have o0 := hv2.c0; have o1 := hv2.c1; have z0 := hv2.f0; have z1 := hv2.f1; rw [hw0] at cy cy2; have K3 := Kw.set (wantOf (l ++ [((x : Int), m)])) x m hx7 HWs.out; have kk := Kp.set (w := w2) (g := gw) (a := ⟨gw, x, none⟩) rfl (.int .u32 (m : Int)); have hv3 := hvw.kp kk hfw; have lt3 := hv3.lt; have p0 := hv3.c0; have p1 := hv3.c1; have r0 := hv3.f0; have r1 := hv3.f1)
              have X3 := x2.want Kw kk
              have se := bel_self (((w2.setCell ⟨gw, x, none⟩ (.int .u32 (m : Int))).setCell ⟨gf, 0, none⟩ (.int .u32 (b : Int))).setCell ⟨gf, 1, none⟩ (.slice q2 (nW + 1) d2)) (.cells #[.int .u32 (b : Int), .slice q2 (nW + 1) d2] 25)
              have hvE := (hv3.put b q2 (nW + 1) d2).below se
              have FxE := (X3.stored hv3 (.int .u32 (b : Int)) (.slice q2 (nW + 1) d2)).below se
              have WvE : Wv ((((w2.setCell ⟨gw, x, none⟩ (.int .u32 (m : Int))).setCell ⟨gf, 0, none⟩ (.int .u32 (b : Int))).setCell ⟨gf, 1, none⟩ (.slice q2 (nW + 1) d2)).alloc (.cells #[.int .u32 (b : Int), .slice q2 (nW + 1) d2] 25)) gw (wantOf (l ++ [((x : Int), m)])) := Wv.below (Lv.far (Lv.far K3 (a := ⟨gf, 0, none⟩) hfw _) (a := ⟨gf, 1, none⟩) hfw _) se
              have BE0 : Below w.heap.size w (((w2.setCell ⟨gw, x, none⟩ (.int .u32 (m : Int))).setCell ⟨gf, 0, none⟩ (.int .u32 (b : Int))).setCell ⟨gf, 1, none⟩ (.slice q2 (nW + 1) d2)) := by
                refine Below.setCell (Below.setCell (Below.setCell (bel_call hbw (Nat.le_refl _) b2) (p := ⟨gw, x, none⟩) hww _) ?_ _) ?_ _ <;> exact hwf
              have BE := bel_call BE0 (Nat.le_refl _) se
              obtain ⟨wE, hwE⟩ : ∃ y : World, y = ((((w2.setCell ⟨gw, x, none⟩ (.int .u32 (m : Int))).setCell ⟨gf, 0, none⟩ (.int .u32 (b : Int))).setCell ⟨gf, 1, none⟩ (.slice q2 (nW + 1) d2)).alloc (.cells #[.int .u32 (b : Int), .slice q2 (nW + 1) d2] 25)) := ⟨_, rfl⟩
              rw [← hwE] at hvE FxE WvE BE ⊢
              clear hwE
              have GdE : Gd b (l ++ [((x : Int), m)]) := hGA
              have HFr : Hid (∀ s, wantOf (l ++ [((x : Int), m)]) s &&& b = 0) := GdE.fr.want
              have HFl : Hid (∀ s, wantOf (l ++ [((x : Int), m)]) s < 4294967296) := wantOf_lt GdE.u
              have HFb : Hid (b < 4294967296) := GdE.b32
              go_loopw [16] (fun i wr => ∃ s : Nat, 1 ≤ s ∧ s ≤ 7 ∧ i = .int .i64 s ∧ Below wE.heap.size wE wr) (fun i _ => 7 - (intOf i).toNat)
              case atStart => exact ⟨1, by omega, by omega, rfl, Below.refl _ _⟩
              case round =>
                obtain ⟨s, hs1, hs7, rfl, hbs⟩ := hrel
                have hvs := hvE.below hbs
                have cs0 := hvs.c0
                have hws := WvE.below hbs
                by_cases hlts : s < 7
                · have cw := hws.at_ s hlts
                  have hand : bits .and .u32 ((wantOf (l ++ [((x : Int), m)]) s : Nat) : Int) (b : Int) = 0 := by rw [u32_and_nat _ _ (HFl.out s) HFb.out, HFr.out]; rfl
                  generalize wantOf (l ++ [((x : Int), m)]) s = Y at cw hand
                  have ds : (s : Int) < 7 := by omega
                  have ds2 : decide ((s : Int) < 7) = true := decide_eq_true ds
                  go_wp2
                  go_quiet (fail)
                  go_wp2
                  go_roundw
                  case rel => exact ⟨s + 1, by omega, by omega, by go_num, bel_draws hbs nq⟩
                  case measure => simp [intOf]; omega
                · have ds : decide ((s : Int) < 7) = false := by simp; omega
                  go_wp2
                  go_roundw
                  case rel => exact ⟨k + 1, b, q2, d2, (nW + 1), l ++ [((x : Int), m)], by omega, by go_num, hvs, FxE.below hbs, GdE, hws, bel_call BE (Nat.le_refl _) hbs⟩
                  case measure => simp [intOf]; omega
            · obtain ⟨e1, e2, e3⟩ := aw_got (l := l) hz
              rw [e3] at hGA
              obtain ⟨B2, hB2⟩ : ∃ y, awB b (x : Int) m = y := ⟨_, rfl⟩
              obtain ⟨G2, hG2⟩ : ∃ y, awG b (x : Int) m = y := ⟨_, rfl⟩
              rw [hG2] at e1 hz
              rw [hB2] at e2 hGA
              have HB : Hid (awB b (x : Int) m = B2) := hB2
              have HGx : Hid (awG b (x : Int) m = G2) := hG2
              have HL : Hid (awW b l (x : Int) m = l) := e3
              have HN2 : Hid (l.length = nW) := hx.ln
              have hn2 := hx.n9
              have hand := u32_and_nat b m hb32 hm32
              rw [← e1] at hand
              have hnot : bits .andNot .u32 (b : Int) (G2 : Int) = (B2 : Int) := by
                rw [u32_andNot_nat b G2 hb32 (by rw [e1]; exact and_lt hb32), andNot_dn hb32 (by rw [e1]; exact and_lt hb32), e1, dn_and, e2]
              have f1 : ((G2 : Int) == 0) = false := by simpa using hz
              have f2 : (G2 == 0) = false := by simpa using hz
              clear hO hz e1 e2 e3 hB2 hG2
              go_wp2_with (go_at_call 12; (with_reducible (refine (await_c hx (b : Int) rfl (x : Int) m hm32 (m : Int) rfl B2 HB.out (B2 : Int) rfl G2 HGx.out ((G2 : Int)) rfl true HO.out l HL.out nW HN2.out hn2).mono ?_)); rintro e w2 ⟨q2, d2, rfl, x2, b2⟩
                           have s2 := bel_self w2 (.cells #[.int .u32 (B2 : Int), .slice q2 nW d2] 25)
                           have hv2 := (hv.below b2).below s2
                           have K2 := (hw7.below b2).below s2
                           have V2 := Fv.new w2 B2 q2 nW d2
                           have X2 := x2.below s2
                           have X0 := (hx.below b2).below s2
                           have BW2 := bel_call (bel_call hbw (Nat.le_refl _) b2) (Nat.le_refl _) s2
                           have cy := K2.at_ x hx7
                           have fy := K2.fz x
                           have hgl := (hv.below b2).lt
                           have hgl2 := (hw7.below b2).lt
                           have hvw := hv.below b2
                           have Kw := hw7.below b2
                           have o2 := hvw.c0; have o3 := hvw.c1; have z2 := hvw.f0; have z3 := hvw.f1; have cy2 := Kw.at_ x hx7; have fy2 := Kw.fz x
                           have i0 := V2.c0; have i1 := V2.c1; have o0 := hv2.c0; have o1 := hv2.c1; have z0 := hv2.f0; have z1 := hv2.f1)
              have se := bel_self ((w2.setCell ⟨gf, 0, none⟩ (.int .u32 (B2 : Int))).setCell ⟨gf, 1, none⟩ (.slice q2 nW d2)) (.cells #[.int .u32 (B2 : Int), .slice q2 nW d2] 25)
              have hvE := (hvw.put B2 q2 nW d2).below se
              have FxE := (x2.stored hvw (.int .u32 (B2 : Int)) (.slice q2 nW d2)).below se
              have WvE : Wv (((w2.setCell ⟨gf, 0, none⟩ (.int .u32 (B2 : Int))).setCell ⟨gf, 1, none⟩ (.slice q2 nW d2)).alloc (.cells #[.int .u32 (B2 : Int), .slice q2 nW d2] 25)) gw (wantOf l) := Wv.below (Lv.far (Lv.far Kw (a := ⟨gf, 0, none⟩) hfw _) (a := ⟨gf, 1, none⟩) hfw _) se
              have BE0 : Below w.heap.size w ((w2.setCell ⟨gf, 0, none⟩ (.int .u32 (B2 : Int))).setCell ⟨gf, 1, none⟩ (.slice q2 nW d2)) := by
                refine Below.setCell (Below.setCell (bel_call hbw (Nat.le_refl _) b2) ?_ _) ?_ _ <;> exact hwf
              have BE := bel_call BE0 (Nat.le_refl _) se
              obtain ⟨wE, hwE⟩ : ∃ y : World, y = (((w2.setCell ⟨gf, 0, none⟩ (.int .u32 (B2 : Int))).setCell ⟨gf, 1, none⟩ (.slice q2 nW d2)).alloc (.cells #[.int .u32 (B2 : Int), .slice q2 nW d2] 25)) := ⟨_, rfl⟩
              rw [← hwE] at hvE FxE WvE BE ⊢
              clear hwE
              have GdE : Gd B2 (l) := hGA
              have HFr : Hid (∀ s, wantOf (l) s &&& B2 = 0) := GdE.fr.want
              have HFl : Hid (∀ s, wantOf (l) s < 4294967296) := wantOf_lt GdE.u
              have HFb : Hid (B2 < 4294967296) := GdE.b32
              go_loopw [16] (fun i wr => ∃ s : Nat, 1 ≤ s ∧ s ≤ 7 ∧ i = .int .i64 s ∧ Below wE.heap.size wE wr) (fun i _ => 7 - (intOf i).toNat)
              case atStart => exact ⟨1, by omega, by omega, rfl, Below.refl _ _⟩
              case round =>
                obtain ⟨s, hs1, hs7, rfl, hbs⟩ := hrel
                have hvs := hvE.below hbs
                have cs0 := hvs.c0
                have hws := WvE.below hbs
                by_cases hlts : s < 7
                · have cw := hws.at_ s hlts
                  have hand : bits .and .u32 ((wantOf (l) s : Nat) : Int) (B2 : Int) = 0 := by rw [u32_and_nat _ _ (HFl.out s) HFb.out, HFr.out]; rfl
                  generalize wantOf (l) s = Y at cw hand
                  have ds : (s : Int) < 7 := by omega
                  have ds2 : decide ((s : Int) < 7) = true := decide_eq_true ds
                  go_wp2
                  go_quiet (fail)
                  go_wp2
                  go_roundw
                  case rel => exact ⟨s + 1, by omega, by omega, by go_num, bel_draws hbs nq⟩
                  case measure => simp [intOf]; omega
                · have ds : decide ((s : Int) < 7) = false := by simp; omega
                  go_wp2
                  go_roundw
                  case rel => exact ⟨k + 1, B2, q2, d2, nW, l, by omega, by go_num, hvs, FxE.below hbs, GdE, hws, bel_call BE (Nat.le_refl _) hbs⟩
                  case measure => simp [intOf]; omega
    · obtain rfl : k = n := by omega
      have dk : decide ((k : Int) < (k : Int)) = false := by simp
      go_wp2
      go_ret
      exact ⟨rfl, hbw⟩
end Go.Proofs.Ytodboigmmekkpaa
