/-
  What Post of package mbox hands back.
-/
import Derived.Test.YtfghondhonflaaaClone
import Derived.Deep.CutRange
import Derived.Deep.CutBlock
namespace Go.Proofs.Ytfghondhonflaaa
open Go.ChangeShapes Go.WideShapes Go.ChangeAt Go.RowKit
attribute [local go_sem ↓] Go.wp_at_zero Go.wp_at_succ

theorem loadBox {w : World} {g : Nat} {x y : Value} (h : Lv w g #[x, y] 25) : (loadVar 25 ⟨g, 0, none⟩).run Try.prog w = .ok (.agg #[x, y]) w := by
  have c0 := h.c 0 rfl
  have c1 := h.c 1 rfl
  simp [go_sem, c0, c1]
theorem Far.type {α : Type} {E : Elt α} {w : World} {base : Nat} {e e' : TypeId} {q : Option Addr} {d : Nat} {l : List α} (h : Own E w base e q d l) {g : Nat} {cs : Array Value} (hg : Lv w g cs e') (hn : e ≠ e') : Far q g := by
  rintro b o rfl rfl
  rcases h.2 with ⟨h1, _⟩ | ⟨g', cap, cur, h1, h2, h3, _⟩
  · simp at h1
  · simp only [Value.slice.injEq, Option.some.injEq, Addr.mk.injEq] at h1
    obtain ⟨⟨rfl, _⟩, _⟩ := h1
    have h4 : w.heap[b]? = some (.cells cs e' (0, 0)) := hg
    rw [h3] at h4
    simp at h4
    exact hn h4.2
theorem Rd.drw {α : Type} {E : Elt α} {w : World} {p : Option Addr} {c : Nat} {l : List α} (h : Rd E w p c l) : Rd E w.drew p c l := h.below (Below.refl _ _).drew
theorem Rd.void {α : Type} {E : Elt α} {w w' : World} {p : Option Addr} {c : Nat} (h : Rd E w p c []) : Rd E w' p c [] := by
  refine ⟨h.cap, ?_⟩
  rcases h.at_ with h0 | ⟨b, o, s, rfl, hs, hc⟩
  · exact .inl h0
  · exact .inr ⟨b, o, s, rfl, hs, fun j v hj => by simp [fl] at hj⟩
/-- p is no address in a block below B. -/
def Nw (B : Nat) (p : Option Addr) : Prop := ∀ b o, p = some ⟨b, o, none⟩ → B ≤ b
theorem Nw.own {α : Type} {E : Elt α} {w : World} {base B : Nat} {e : TypeId} {q : Option Addr} {d : Nat} {l : List α} (h : Own E w base e q d l) (hB : B ≤ base) : Nw B q := by
  rintro b o rfl
  have := own_ge h
  omega
set_option maxHeartbeats 2000000 in
theorem post_any (p : Option Addr) (c : Nat) (L : List Int) (q : Option Addr) (d : Nat) (Q : List Int) (v : Int) (w : World) (hL : Rd eI w p c L) (hQ : Rd eI w q d Q) (n m : Nat) (hn : L.length = n) (hm : Q.length = m) (hn9 : n ≤ 1000) (hm9 : m ≤ 1000) :
    Calls Try.prog 8 #[.agg #[.slice p n c, .slice q m d], .int .i64 v] w fun e w' => ∃ (p1 : Option Addr) (c1 : Nat) (q1 : Option Addr) (d1 : Nat), e = .returned (.tuple #[.agg #[.slice p1 (postL L Q v).length c1, .slice q1 (postQ Q).length d1], .int .i64 (postC Q), .bool (postB L Q)]) ∧ Rd eI w' p1 c1 (postL L Q v) ∧ Rd eI w' q1 d1 (postQ Q) ∧ Nw w.heap.size p1 ∧ Nw w.heap.size q1 ∧ Below w.heap.size w w' := by
  have HN : Hid (L.length = n) := hn
  have HM : Hid (Q.length = m) := hm
  clear hn hm
  obtain ⟨W, hW⟩ : ∃ W, W = (w.alloc (.cells #[.slice p n c, .slice q m d] 25)).alloc (.cells #[.slice none 0 0, .slice none 0 0] 25) := ⟨_, rfl⟩
  have bW : Below w.heap.size w W := by rw [hW]; exact ((Below.refl _ _).alloc (Nat.le_refl _) _).alloc (by simp) _
  have hp0 : Lv W w.heap.size #[.slice p n c, .slice q m d] 25 := by rw [hW]; exact (Lv.new _ _ _).below (bel_self _ _)
  have hr0 : Lv W (w.heap.size + 1) #[.slice none 0 0, .slice none 0 0] 25 := by rw [hW]; exact heap_at (by simp)
  have hsz : W.heap.size = w.heap.size + 2 := by rw [hW]; simp
  have hgp : w.heap.size < W.heap.size := by omega
  have hgr : w.heap.size + 1 < W.heap.size := by omega
  clear hsz
  go_enter Try.func8, Try.ntmps8
  go_upto_region 1 with fail
  rw [← hW]
  clear hW
  go_cut [7, 8] from 13 to 16 (fun a b wx => ∃ (g : Nat) (p1 : Option Addr) (c1 : Nat) (q1 : Option Addr) (d1 mb : Nat) (f : Int → Int → Option Int), a = .pointer (some ⟨g, 0, none⟩) ∧ b = .map (some mb) ∧ W.heap.size ≤ g ∧ Lv wx g #[.slice p1 n c1, .slice q1 m d1] 25 ∧ Own eI wx W.heap.size 2 p1 c1 L ∧ Own eI wx W.heap.size 3 q1 d1 Q ∧ Far p1 g ∧ Far q1 g ∧ (∀ b o, p1 = some ⟨b, o, none⟩ → Far q1 b) ∧ IsF wx mb f ∧ Lk f L Q ∧ Below W.heap.size W wx)
  case first =>
    refine wp_region_held_drew (S := fun w' => Below W.heap.size W w') (by kernel_rfl) (Below.refl _ _).drew (fun hHeld => ?_)
    refine wpAnyH_take (i := 0) (oi := _) (v := ?_) rfl (by kernel_rfl) (by kernel_rfl) (by kernel_rfl) (fun _ _ _ h => h) (Or.inl ⟨by rfl, ?_⟩) hHeld ?_
    rotate_left
    · intro w' hSw
      have e0 := Lv.c (show Lv w' w.heap.size _ 25 from (hSw.block w.heap.size hgp).trans hp0) 0 rfl
      have e1 := Lv.c (show Lv w' w.heap.size _ 25 from (hSw.block w.heap.size hgp).trans hp0) 1 rfl
      (go_simp <;> with_reducible rfl)
    try simp only [Act.put, List.getElem_toArray, List.getElem_cons_zero, List.setIfInBounds_toArray, List.set_cons_zero, List.set_cons_succ]
    refine wpAnyH_take (i := 2) (oi := _) (v := ?_) rfl (by kernel_rfl) (by kernel_rfl) (by kernel_rfl) (fun _ _ _ h => h) (Or.inl ⟨by rfl, ?_⟩) hHeld ?_
    rotate_left
    · intro w' hSw
      have e0 := Lv.c (show Lv w' w.heap.size _ 25 from (hSw.block w.heap.size hgp).trans hp0) 0 rfl
      have e1 := Lv.c (show Lv w' w.heap.size _ 25 from (hSw.block w.heap.size hgp).trans hp0) 1 rfl
      (go_simp <;> with_reducible rfl)
    try simp only [Act.put, List.getElem_toArray, List.getElem_cons_succ, List.getElem_cons_zero, List.setIfInBounds_toArray, List.set_cons_zero, List.set_cons_succ]
    refine wpAnyH_ready (rs := [1, 4]) (by kernel_rfl) (by simp) ?_
    refine AllReadyH.cons (o := _) rfl (fun K hK => ?_) (AllReadyH.cons (o := _) rfl (fun K hK => ?_) (AllReadyH.nil))
    · go_simp
      go_at_call 15
      (with_reducible (refine (clone_any _ _ _ _ _ _ _ (hL.below (bel_call bW (Nat.le_refl _) hHeld)) (hQ.below (bel_call bW (Nat.le_refl _) hHeld)) n m HN.out HM.out hn9 hm9).mono ?_))
      rintro e w1 ⟨p1, c1, q1, d1, rfl, o1, o2, fa, b1⟩
      have o1 := own_mono o1 hHeld.size
      have o2 := own_mono o2 hHeld.size
      refine hK.out _ _ (bel_call hHeld (Nat.le_refl _) b1) (fun hHeld => ?_)
      clear hK K
      try simp only [Act.put, List.getElem_toArray, List.getElem_cons_succ, List.getElem_cons_zero, List.setIfInBounds_toArray, List.set_cons_zero, List.set_cons_succ]
      refine wpAnyH_ready (rs := [3, 4]) (by kernel_rfl) (by simp) ?_
      refine AllReadyH.cons (o := _) rfl (fun K hK => ?_) (AllReadyH.cons (o := _) rfl (fun K hK => ?_) (AllReadyH.nil))
      · go_simp
        go_at_call 16
        (with_reducible (refine (looks_any _ _ _ _ _ _ _ (hL.below (bel_call bW (Nat.le_refl _) hHeld)) (hQ.below (bel_call bW (Nat.le_refl _) hHeld)) n m HN.out HM.out hn9 hm9).mono ?_))
        rintro e w2 ⟨mb, f, rfl, hf, hlk, hmb, b2⟩
        have o1 := own_below o1 b2
        have o2 := own_below o2 b2
        refine hK.out _ _ (bel_call hHeld (Nat.le_refl _) b2) (fun hHeld => ?_)
        clear hK K
        try simp only [Act.put, List.getElem_toArray, List.getElem_cons_succ, List.getElem_cons_zero, List.setIfInBounds_toArray, List.set_cons_zero, List.set_cons_succ]
        refine wpAnyH_ready (rs := [4]) (by kernel_rfl) (by simp) ?_
        refine AllReadyH.cons (o := _) rfl (fun K hK => ?_) (AllReadyH.nil)
        go_simp
        have b7 : Below w2.heap.size w2 (w2.alloc (.cells #[.slice none 0 0, .slice none 0 0] 25)) := bel_self _ _
        have hz : Lv (w2.alloc (.cells #[.slice none 0 0, .slice none 0 0] 25)) w2.heap.size #[.slice none 0 0, .slice none 0 0] 25 := Lv.new w2 _ _
        obtain ⟨g7, hg7⟩ : ∃ g, g = w2.heap.size := ⟨_, rfl⟩
        have hg7W : W.heap.size ≤ g7 := by have := hHeld.size; rw [hg7]; exact this
        have fp : Far p1 g7 := Far.high o1 (by rw [hg7]; exact Nat.le_refl _)
        have fq : Far q1 g7 := Far.high o2 (by rw [hg7]; exact Nat.le_refl _)
        have hne : mb ≠ g7 := by have := hf.lt; omega
        have o1 := own_below o1 b7
        have o2 := own_below o2 b7
        have hf := hf.below b7
        have hg7lt : g7 < (w2.alloc (.cells #[.slice none 0 0, .slice none 0 0] 25)).heap.size := by rw [hg7]; simp
        refine hK.out _ _ (hHeld.alloc hHeld.size _) (fun hHeld => ?_)
        clear hK K
        rw [← hg7] at hz
        simp only [← hg7]
        generalize (w2.alloc (.cells #[.slice none 0 0, .slice none 0 0] 25)) = w7 at *
        clear hg7 b7
        try simp only [Act.put, List.getElem_toArray, List.getElem_cons_succ, List.getElem_cons_zero, List.setIfInBounds_toArray, List.set_cons_zero, List.set_cons_succ]
        refine wpAnyH_ready (rs := [5]) (by kernel_rfl) (by simp) ?_
        refine AllReadyH.cons (o := _) rfl (fun K hK => ?_) (AllReadyH.nil)
        have z0 := hz.c 0 rfl
        have z1 := hz.c 1 rfl
        have y0 := hz.fz 0
        have y1 := hz.fz 1
        go_simp
        have hz9 : Lv ((w7.setCell ⟨g7, 0, none⟩ (.slice p1 n c1)).setCell ⟨g7, 1, none⟩ (.slice q1 m d1)) g7 #[.slice p1 n c1, .slice q1 m d1] 25 := (hz.set 0 (.slice p1 n c1)).set 1 (.slice q1 m d1)
        have o1 := own_setFar (own_setFar o1 fp 0 (.slice p1 n c1)) fp 1 (.slice q1 m d1)
        have o2 := own_setFar (own_setFar o2 fq 0 (.slice p1 n c1)) fq 1 (.slice q1 m d1)
        have hf := hf.of_block (w' := ((w7.setCell ⟨g7, 0, none⟩ (.slice p1 n c1)).setCell ⟨g7, 1, none⟩ (.slice q1 m d1))) (by rw [Below.heap_setCell _ _ _ _ hne, Below.heap_setCell _ _ _ _ hne])
        have hS9 : Below W.heap.size W ((w7.setCell ⟨g7, 0, none⟩ (.slice p1 n c1)).setCell ⟨g7, 1, none⟩ (.slice q1 m d1)) := by refine Below.setCell (Below.setCell hHeld ?_ _) ?_ _ <;> exact hg7W
        refine hK.out _ _ hS9 (fun hHeld => ?_)
        clear hK K
        try simp only [Act.put, List.getElem_toArray, List.getElem_cons_succ, List.getElem_cons_zero, List.setIfInBounds_toArray, List.set_cons_zero, List.set_cons_succ]
        refine wpAnyH_take (i := 6) (oi := _) (v := ?_) rfl (by kernel_rfl) (by kernel_rfl) (by kernel_rfl) (fun _ _ _ h => h) (Or.inl ⟨by rfl, ?_⟩) hHeld ?_
        rotate_left
        · intro w' hSw
          (go_simp <;> with_reducible rfl)
        try simp only [Act.put, List.getElem_toArray, List.getElem_cons_succ, List.getElem_cons_zero, List.setIfInBounds_toArray, List.set_cons_zero, List.set_cons_succ]
        refine wpAnyH_done (by kernel_rfl) ?_ _
        go_wp2_with fail
        go_meet
        case rel => exact ⟨g7, p1, c1, q1, d1, mb, f, rfl, rfl, hg7W, hz9, o1, o2, fp, fq, fa, hf, hlk, hHeld⟩
      · go_simp
        have b7 : Below w1.heap.size w1 (w1.alloc (.cells #[.slice none 0 0, .slice none 0 0] 25)) := bel_self _ _
        have hz : Lv (w1.alloc (.cells #[.slice none 0 0, .slice none 0 0] 25)) w1.heap.size #[.slice none 0 0, .slice none 0 0] 25 := Lv.new w1 _ _
        obtain ⟨g7, hg7⟩ : ∃ g, g = w1.heap.size := ⟨_, rfl⟩
        have hg7W : W.heap.size ≤ g7 := by have := hHeld.size; rw [hg7]; exact this
        have fp : Far p1 g7 := Far.high o1 (by rw [hg7]; exact Nat.le_refl _)
        have fq : Far q1 g7 := Far.high o2 (by rw [hg7]; exact Nat.le_refl _)
        have o1 := own_below o1 b7
        have o2 := own_below o2 b7
        have hg7lt : g7 < (w1.alloc (.cells #[.slice none 0 0, .slice none 0 0] 25)).heap.size := by rw [hg7]; simp
        refine hK.out _ _ (hHeld.alloc hHeld.size _) (fun hHeld => ?_)
        clear hK K
        rw [← hg7] at hz
        simp only [← hg7]
        generalize (w1.alloc (.cells #[.slice none 0 0, .slice none 0 0] 25)) = w7 at *
        clear hg7 b7
        try simp only [Act.put, List.getElem_toArray, List.getElem_cons_succ, List.getElem_cons_zero, List.setIfInBounds_toArray, List.set_cons_zero, List.set_cons_succ]
        refine wpAnyH_ready (rs := [3]) (by kernel_rfl) (by simp) ?_
        refine AllReadyH.cons (o := _) rfl (fun K hK => ?_) (AllReadyH.nil)
        go_simp
        go_at_call 16
        (with_reducible (refine (looks_any _ _ _ _ _ _ _ (hL.below (bel_call bW (Nat.le_refl _) hHeld)) (hQ.below (bel_call bW (Nat.le_refl _) hHeld)) n m HN.out HM.out hn9 hm9).mono ?_))
        rintro e w2 ⟨mb, f, rfl, hf, hlk, hmb, b2⟩
        have hne : mb ≠ g7 := by omega
        have o1 := own_below o1 b2
        have o2 := own_below o2 b2
        have hz := hz.below b2
        have hg7lt := Nat.lt_of_lt_of_le hg7lt b2.size
        refine hK.out _ _ (bel_call hHeld (Nat.le_refl _) b2) (fun hHeld => ?_)
        clear hK K
        try simp only [Act.put, List.getElem_toArray, List.getElem_cons_succ, List.getElem_cons_zero, List.setIfInBounds_toArray, List.set_cons_zero, List.set_cons_succ]
        refine wpAnyH_ready (rs := [5]) (by kernel_rfl) (by simp) ?_
        refine AllReadyH.cons (o := _) rfl (fun K hK => ?_) (AllReadyH.nil)
        have z0 := hz.c 0 rfl
        have z1 := hz.c 1 rfl
        have y0 := hz.fz 0
        have y1 := hz.fz 1
        go_simp
        have hz9 : Lv ((w2.setCell ⟨g7, 0, none⟩ (.slice p1 n c1)).setCell ⟨g7, 1, none⟩ (.slice q1 m d1)) g7 #[.slice p1 n c1, .slice q1 m d1] 25 := (hz.set 0 (.slice p1 n c1)).set 1 (.slice q1 m d1)
        have o1 := own_setFar (own_setFar o1 fp 0 (.slice p1 n c1)) fp 1 (.slice q1 m d1)
        have o2 := own_setFar (own_setFar o2 fq 0 (.slice p1 n c1)) fq 1 (.slice q1 m d1)
        have hf := hf.of_block (w' := ((w2.setCell ⟨g7, 0, none⟩ (.slice p1 n c1)).setCell ⟨g7, 1, none⟩ (.slice q1 m d1))) (by rw [Below.heap_setCell _ _ _ _ hne, Below.heap_setCell _ _ _ _ hne])
        have hS9 : Below W.heap.size W ((w2.setCell ⟨g7, 0, none⟩ (.slice p1 n c1)).setCell ⟨g7, 1, none⟩ (.slice q1 m d1)) := by refine Below.setCell (Below.setCell hHeld ?_ _) ?_ _ <;> exact hg7W
        refine hK.out _ _ hS9 (fun hHeld => ?_)
        clear hK K
        try simp only [Act.put, List.getElem_toArray, List.getElem_cons_succ, List.getElem_cons_zero, List.setIfInBounds_toArray, List.set_cons_zero, List.set_cons_succ]
        refine wpAnyH_take (i := 6) (oi := _) (v := ?_) rfl (by kernel_rfl) (by kernel_rfl) (by kernel_rfl) (fun _ _ _ h => h) (Or.inl ⟨by rfl, ?_⟩) hHeld ?_
        rotate_left
        · intro w' hSw
          (go_simp <;> with_reducible rfl)
        try simp only [Act.put, List.getElem_toArray, List.getElem_cons_succ, List.getElem_cons_zero, List.setIfInBounds_toArray, List.set_cons_zero, List.set_cons_succ]
        refine wpAnyH_done (by kernel_rfl) ?_ _
        go_wp2_with fail
        go_meet
        case rel => exact ⟨g7, p1, c1, q1, d1, mb, f, rfl, rfl, hg7W, hz9, o1, o2, fp, fq, fa, hf, hlk, hHeld⟩
    · go_simp
      have b7 : Below W.heap.size W (W.alloc (.cells #[.slice none 0 0, .slice none 0 0] 25)) := bel_self _ _
      have hz : Lv ((W.alloc (.cells #[.slice none 0 0, .slice none 0 0] 25)).drew) W.heap.size #[.slice none 0 0, .slice none 0 0] 25 := Lv.new W _ _
      have hg7W : W.heap.size ≤ W.heap.size := Nat.le_refl _
      have hg7lt : W.heap.size < ((W.alloc (.cells #[.slice none 0 0, .slice none 0 0] 25)).drew).heap.size := by simp
      refine hK.out _ _ (hHeld.alloc hHeld.size _) (fun hHeld => ?_)
      clear hK K
      generalize ((W.alloc (.cells #[.slice none 0 0, .slice none 0 0] 25)).drew) = w7 at *
      clear b7
      try simp only [Act.put, List.getElem_toArray, List.getElem_cons_succ, List.getElem_cons_zero, List.setIfInBounds_toArray, List.set_cons_zero, List.set_cons_succ]
      refine wpAnyH_ready (rs := [1]) (by kernel_rfl) (by simp) ?_
      refine AllReadyH.cons (o := _) rfl (fun K hK => ?_) (AllReadyH.nil)
      go_simp
      go_at_call 15
      (with_reducible (refine (clone_any _ _ _ _ _ _ _ (hL.below (bel_call bW (Nat.le_refl _) hHeld)) (hQ.below (bel_call bW (Nat.le_refl _) hHeld)) n m HN.out HM.out hn9 hm9).mono ?_))
      rintro e w1 ⟨p1, c1, q1, d1, rfl, o1, o2, fa, b1⟩
      have fp : Far p1 W.heap.size := Far.low o1 hg7lt
      have fq : Far q1 W.heap.size := Far.low o2 hg7lt
      have hz := hz.below b1
      have hg7lt := Nat.lt_of_lt_of_le hg7lt b1.size
      have o1 := own_mono o1 hHeld.size
      have o2 := own_mono o2 hHeld.size
      refine hK.out _ _ (bel_call hHeld (Nat.le_refl _) b1) (fun hHeld => ?_)
      clear hK K
      try simp only [Act.put, List.getElem_toArray, List.getElem_cons_succ, List.getElem_cons_zero, List.setIfInBounds_toArray, List.set_cons_zero, List.set_cons_succ]
      refine wpAnyH_ready (rs := [3]) (by kernel_rfl) (by simp) ?_
      refine AllReadyH.cons (o := _) rfl (fun K hK => ?_) (AllReadyH.nil)
      go_simp
      go_at_call 16
      (with_reducible (refine (looks_any _ _ _ _ _ _ _ (hL.below (bel_call bW (Nat.le_refl _) hHeld)) (hQ.below (bel_call bW (Nat.le_refl _) hHeld)) n m HN.out HM.out hn9 hm9).mono ?_))
      rintro e w2 ⟨mb, f, rfl, hf, hlk, hmb, b2⟩
      have hne : mb ≠ W.heap.size := by omega
      have o1 := own_below o1 b2
      have o2 := own_below o2 b2
      have hz := hz.below b2
      have hg7lt := Nat.lt_of_lt_of_le hg7lt b2.size
      refine hK.out _ _ (bel_call hHeld (Nat.le_refl _) b2) (fun hHeld => ?_)
      clear hK K
      try simp only [Act.put, List.getElem_toArray, List.getElem_cons_succ, List.getElem_cons_zero, List.setIfInBounds_toArray, List.set_cons_zero, List.set_cons_succ]
      refine wpAnyH_ready (rs := [5]) (by kernel_rfl) (by simp) ?_
      refine AllReadyH.cons (o := _) rfl (fun K hK => ?_) (AllReadyH.nil)
      have z0 := hz.c 0 rfl
      have z1 := hz.c 1 rfl
      have y0 := hz.fz 0
      have y1 := hz.fz 1
      go_simp
      have hz9 : Lv ((w2.setCell ⟨W.heap.size, 0, none⟩ (.slice p1 n c1)).setCell ⟨W.heap.size, 1, none⟩ (.slice q1 m d1)) W.heap.size #[.slice p1 n c1, .slice q1 m d1] 25 := (hz.set 0 (.slice p1 n c1)).set 1 (.slice q1 m d1)
      have o1 := own_setFar (own_setFar o1 fp 0 (.slice p1 n c1)) fp 1 (.slice q1 m d1)
      have o2 := own_setFar (own_setFar o2 fq 0 (.slice p1 n c1)) fq 1 (.slice q1 m d1)
      have hf := hf.of_block (w' := ((w2.setCell ⟨W.heap.size, 0, none⟩ (.slice p1 n c1)).setCell ⟨W.heap.size, 1, none⟩ (.slice q1 m d1))) (by rw [Below.heap_setCell _ _ _ _ hne, Below.heap_setCell _ _ _ _ hne])
      have hS9 : Below W.heap.size W ((w2.setCell ⟨W.heap.size, 0, none⟩ (.slice p1 n c1)).setCell ⟨W.heap.size, 1, none⟩ (.slice q1 m d1)) := by refine Below.setCell (Below.setCell hHeld ?_ _) ?_ _ <;> exact hg7W
      refine hK.out _ _ hS9 (fun hHeld => ?_)
      clear hK K
      try simp only [Act.put, List.getElem_toArray, List.getElem_cons_succ, List.getElem_cons_zero, List.setIfInBounds_toArray, List.set_cons_zero, List.set_cons_succ]
      refine wpAnyH_take (i := 6) (oi := _) (v := ?_) rfl (by kernel_rfl) (by kernel_rfl) (by kernel_rfl) (fun _ _ _ h => h) (Or.inl ⟨by rfl, ?_⟩) hHeld ?_
      rotate_left
      · intro w' hSw
        (go_simp <;> with_reducible rfl)
      try simp only [Act.put, List.getElem_toArray, List.getElem_cons_succ, List.getElem_cons_zero, List.setIfInBounds_toArray, List.set_cons_zero, List.set_cons_succ]
      refine wpAnyH_done (by kernel_rfl) ?_ _
      go_wp2_with fail
      go_meet
      case rel => exact ⟨W.heap.size, p1, c1, q1, d1, mb, f, rfl, rfl, hg7W, hz9, o1, o2, fp, fq, fa, hf, hlk, hHeld⟩
  case rest =>
    obtain ⟨g, p1, c1, q1, d1, mb, f, rfl, rfl, hgW, hv, o1, o2, fp, fq, fa, hf, hlk, hB⟩ := hcut
    have hrc : Lv wc (w.heap.size + 1) #[.slice none 0 0, .slice none 0 0] 25 := (hB.block (w.heap.size + 1) hgr).trans hr0
    have hne1 : g ≠ w.heap.size + 1 := by omega
    have hne2 : w.heap.size + 1 ≠ g := by omega
    have fpg := fp
    have fqg := fq
    have fpr : Far p1 (w.heap.size + 1) := Far.low o1 hgr
    have fqr : Far q1 (w.heap.size + 1) := Far.low o2 hgr
    have BW : Below w.heap.size w wc := bel_call bW (Nat.le_refl _) hB
    obtain ⟨h00, h10, h03, h13⟩ := hlk.first
    have hLs := three_some L
    have hQs := three_some Q
    cases Q with
    | cons x R =>
      obtain ⟨r, hr⟩ : ∃ r, R.length = r := ⟨_, rfl⟩
      obtain rfl : m = r + 1 := by rw [← HM.out]; simp [hr]
      obtain ⟨gq, cur, rfl, hgq, -⟩ := own_open o2 (by simp)
      have hqg : gq ≠ g := fq gq 0 rfl
      have hqr : gq ≠ w.heap.size + 1 := by omega
      have hdel := deleteI gq d1 x R W.heap.size wc o2 r hr (by omega)
      have HR : Hid (R.length = r) := hr
      have hv3 := hv
      have hr3 := hrc
      have HH : Hid (f 1 0 = some x) := h10
      have z0 := hv3.c 0 rfl
      have z1 := hv3.c 1 rfl
      have y0 := hv3.fz 0
      have y1 := hv3.fz 1
      have x0 := hr3.c 0 rfl
      have x1 := hr3.c 1 rfl
      have v0 := hr3.fz 0
      have v1 := hr3.fz 1
      clear h00 h10 h03 h13 hLs hQs hr cur
      go_wp2_with (first
        | (at_lookup; refine wpList_look _ rfl _ _ rfl mb f rfl hf (1) (0) rfl x true (by rw [HH.out]; rfl) (by rw [HH.out]; rfl) ?_)
        | (go_at_call 17; (with_reducible (refine hdel.mono ?_)); rintro e w3 ⟨rfl, o3, k3⟩
           have hv3 : Lv w3 g _ 25 := (k3.block g hv.lt (by intro e; cases e; exact hqg rfl)).trans hv
           have hr3 : Lv w3 (w.heap.size + 1) _ 25 := (k3.block _ hrc.lt (by intro e; cases e; exact hqr rfl)).trans hrc
           have o4 : Own eI w3 W.heap.size 2 p1 c1 L := own_block_eq o1 (fun b o e => k3.block b (by subst e; exact own_lt o1) (by intro h; cases h; exact fa _ _ e gq 0 rfl rfl))
           have b3 : Below w.heap.size w w3 := BW.trans (k3.below (by omega) BW.size)
           have z0 := hv3.c 0 rfl
           have z1 := hv3.c 1 rfl
           have y0 := hv3.fz 0
           have y1 := hv3.fz 1
           have x0 := hr3.c 0 rfl
           have x1 := hr3.c 1 rfl
           have v0 := hr3.fz 0
           have v1 := hr3.fz 1
           ))
      have hR9 : Lv (((w3.setCell ⟨g, 1, none⟩ (.slice (some ⟨gq, 0, none⟩) r d1)).setCell ⟨w.heap.size + 1, 0, none⟩ (.slice p1 n c1)).setCell ⟨w.heap.size + 1, 1, none⟩ (.slice (some ⟨gq, 0, none⟩) r d1)) (w.heap.size + 1) #[.slice p1 n c1, .slice (some ⟨gq, 0, none⟩) r d1] 25 := ((hr3.far (a := ⟨g, 1, none⟩) hne1 (.slice (some ⟨gq, 0, none⟩) r d1)).set 0 (.slice p1 n c1)).set 1 (.slice (some ⟨gq, 0, none⟩) r d1)
      have e9 := loadBox hR9
      have hb9 : Below w.heap.size w (((w3.setCell ⟨g, 1, none⟩ (.slice (some ⟨gq, 0, none⟩) r d1)).setCell ⟨w.heap.size + 1, 0, none⟩ (.slice p1 n c1)).setCell ⟨w.heap.size + 1, 1, none⟩ (.slice (some ⟨gq, 0, none⟩) r d1)) := by
        refine Below.setCell (Below.setCell ?_ ?_ _) ?_ _
        · refine Below.setCell b3 ?_ _
          show w.heap.size ≤ g
          omega
        · exact Nat.le_succ _
        · exact Nat.le_succ _
      have RA9 := rd_setFar (rd_setFar (rd_setFar (own_rd o4) fpg 1 (.slice (some ⟨gq, 0, none⟩) r d1)) fpr 0 (.slice p1 n c1)) fpr 1 (.slice (some ⟨gq, 0, none⟩) r d1)
      have RB9 := rd_setFar (rd_setFar (rd_setFar (own_rd o3) fqg 1 (.slice (some ⟨gq, 0, none⟩) r d1)) fqr 0 (.slice p1 n c1)) fqr 1 (.slice (some ⟨gq, 0, none⟩) r d1)
      refine bodyPost_ret (v := .tuple #[.agg #[.slice p1 n c1, .slice (some ⟨gq, 0, none⟩) r d1], .int .i64 x, .bool true]) (by simp [results, Try.results8, asAddr, e9]) rfl ⟨_, _, _, _, by simp [postL, postQ, postC, postB, HN.out, HR.out], RA9, RB9, Nw.own o4 bW.size, Nw.own o3 bW.size, hb9⟩
    | nil =>
      obtain rfl : m = 0 := HM.out.symm
      have hv3 := hv
      have hr3 := hrc
      have HH : Hid (f 1 0 = none) := h10
      have z0 := hv3.c 0 rfl
      have z1 := hv3.c 1 rfl
      have y0 := hv3.fz 0
      have y1 := hv3.fz 1
      have x0 := hr3.c 0 rfl
      have x1 := hr3.c 1 rfl
      have v0 := hr3.fz 0
      have v1 := hr3.fz 1
      by_cases h4 : 4 ≤ n
      · have HF : Hid (f 0 3 = some (L[3]'(by rw [HN.out]; omega))) := h03.trans (List.getElem?_eq_getElem _)
        have HB : Hid (postB L [] = false) := by simp [postB, HN.out, Hid]; omega
        have HL : Hid (postL L [] v = L) := by simp [postL, HN.out, Hid]; omega
        generalize L[3]'(by rw [HN.out]; omega) = y at *
        clear h00 h10 h03 h13 hLs hQs
        go_wp2_with (first
          | (at_lookup; refine wpList_look _ rfl _ _ rfl mb f rfl hf (1) (0) rfl 0 false (by rw [HH.out]; rfl) (by rw [HH.out]; rfl) ?_)
          | (at_lookup; refine wpList_look _ rfl _ _ rfl mb f rfl hf (0) (3) rfl y true (by rw [HF.out]; rfl) (by rw [HF.out]; rfl) ?_))
        have hR9 : Lv ((wc.setCell ⟨w.heap.size + 1, 0, none⟩ (.slice p1 n c1)).setCell ⟨w.heap.size + 1, 1, none⟩ (.slice q1 0 d1)) (w.heap.size + 1) #[.slice p1 n c1, .slice q1 0 d1] 25 := (hr3.set 0 (.slice p1 n c1)).set 1 (.slice q1 0 d1)
        have e9 := loadBox hR9
        have hb9 : Below w.heap.size w ((wc.setCell ⟨w.heap.size + 1, 0, none⟩ (.slice p1 n c1)).setCell ⟨w.heap.size + 1, 1, none⟩ (.slice q1 0 d1)) := by
          refine Below.setCell (Below.setCell ?_ ?_ _) ?_ _
          · exact BW
          · exact Nat.le_succ _
          · exact Nat.le_succ _
        have RA9 := rd_setFar (rd_setFar (own_rd o1) fpr 0 (.slice p1 n c1)) fpr 1 (.slice q1 0 d1)
        have RB9 := rd_setFar (rd_setFar (own_rd o2) fqr 0 (.slice p1 n c1)) fqr 1 (.slice q1 0 d1)
        refine bodyPost_ret (v := .tuple #[.agg #[.slice p1 n c1, .slice q1 0 d1], .int .i64 0, .bool false]) (by simp [results, Try.results8, asAddr, e9]) rfl ⟨_, _, _, _, (by rw [HL.out, HB.out, HN.out]; rfl), (by rw [HL.out]; exact RA9), RB9, Nw.own o1 bW.size, Nw.own o2 bW.size, hb9⟩
      · have HF : Hid (f 0 3 = none) := h03.trans (List.getElem?_eq_none (by rw [HN.out]; omega))
        have HB : Hid (postB L [] = true) := by simp [postB, HN.out, Hid]; omega
        have HL : Hid (postL L [] v = L ++ [v]) := by simp [postL, HN.out, Hid]; omega
        clear h00 h10 h03 h13 hLs hQs
        go_wp2_with (first
          | (at_lookup; refine wpList_look _ rfl _ _ rfl mb f rfl hf (1) (0) rfl 0 false (by rw [HH.out]; rfl) (by rw [HH.out]; rfl) ?_)
          | (at_lookup; refine wpList_look _ rfl _ _ rfl mb f rfl hf (0) (3) rfl 0 false (by rw [HF.out]; rfl) (by rw [HF.out]; rfl) ?_)
          | (at_builtin; refine wpList_app tL _ rfl _ _ rfl W.heap.size p1 c1 L n HN.out rfl (own_below o1 (bel_self _ _)) _ _ [v] 1 rfl rfl (rd_block (heap_alloc_new _ _) 1 rfl rfl) (by omega) (Nat.le_trans hB.size (bel_self _ _).size) (n + 1) rfl ?_; intro p5 c5 w5 o5 b5 st5
             have a5 := bel_self wc (.cells #[.int .i64 v] 2)
             have hv3 : Lv w5 g _ 25 := (st5 g (Nat.lt_of_lt_of_le hv.lt a5.size) (fun g' e => by have := fp g' 0 e; omega)).trans (hv.below a5)
             have hr3 : Lv w5 (w.heap.size + 1) _ 25 := (st5 _ (Nat.lt_of_lt_of_le hrc.lt a5.size) (fun g' e => by have := fpr g' 0 e; omega)).trans (hrc.below a5)
             have b3 : Below w.heap.size w w5 := (bel_call BW (Nat.le_refl _) a5).trans (b5.mono bW.size)
             have z0 := hv3.c 0 rfl
             have z1 := hv3.c 1 rfl
             have y0 := hv3.fz 0
             have y1 := hv3.fz 1
             have x0 := hr3.c 0 rfl
             have x1 := hr3.c 1 rfl
             have v0 := hr3.fz 0
             have v1 := hr3.fz 1
             ))
        have fpg : Far p5 g := Far.type o5 hv3 (by decide)
        have fpr : Far p5 (w.heap.size + 1) := Far.type o5 hr3 (by decide)
        have rq5 : Rd eI w5 q1 d1 [] := Rd.void (own_rd o2)
        have hR9 : Lv (((w5.setCell ⟨g, 0, none⟩ (.slice p5 (n + 1) c5)).setCell ⟨w.heap.size + 1, 0, none⟩ (.slice p5 (n + 1) c5)).setCell ⟨w.heap.size + 1, 1, none⟩ (.slice q1 0 d1)) (w.heap.size + 1) #[.slice p5 (n + 1) c5, .slice q1 0 d1] 25 := ((hr3.far (a := ⟨g, 0, none⟩) hne1 (.slice p5 (n + 1) c5)).set 0 (.slice p5 (n + 1) c5)).set 1 (.slice q1 0 d1)
        have e9 := loadBox hR9
        have hb9 : Below w.heap.size w (((w5.setCell ⟨g, 0, none⟩ (.slice p5 (n + 1) c5)).setCell ⟨w.heap.size + 1, 0, none⟩ (.slice p5 (n + 1) c5)).setCell ⟨w.heap.size + 1, 1, none⟩ (.slice q1 0 d1)) := by
          refine Below.setCell (Below.setCell ?_ ?_ _) ?_ _
          · refine Below.setCell b3 ?_ _
            show w.heap.size ≤ g
            omega
          · exact Nat.le_succ _
          · exact Nat.le_succ _
        have RA9 := rd_setFar (rd_setFar (rd_setFar (own_rd o5) fpg 0 (.slice p5 (n + 1) c5)) fpr 0 (.slice p5 (n + 1) c5)) fpr 1 (.slice q1 0 d1)
        have RB9 := rd_setFar (rd_setFar (rd_setFar rq5 fqg 0 (.slice p5 (n + 1) c5)) fqr 0 (.slice p5 (n + 1) c5)) fqr 1 (.slice q1 0 d1)
        refine bodyPost_ret (v := .tuple #[.agg #[.slice p5 (n + 1) c5, .slice q1 0 d1], .int .i64 0, .bool true]) (by simp [results, Try.results8, asAddr, e9]) rfl ⟨_, _, _, _, (by rw [HL.out, HB.out, List.length_append, HN.out]; rfl), (by rw [HL.out]; exact RA9), RB9, Nw.own o5 bW.size, Nw.own o2 bW.size, hb9⟩
end Go.Proofs.Ytfghondhonflaaa
