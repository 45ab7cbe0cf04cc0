/-
  What clone of package obj hands back: a table of its own.
-/
import Derived.Test.YtcncpefdjgnhdaaModel
namespace Go.Proofs.Ytcncpefdjgnhdaa
open Go.ChangeShapes Go.WideShapes Go.ChangeAt Go.RowKit
attribute [local go_sem ↓] Go.wp_at_zero Go.wp_at_succ

/-- The rows of a thing lie in blocks from B on, other than g. -/
structure Nt (B g : Nat) (X : Tc) : Prop where
  l : Nw B X.lp
  w : Nw B X.wp
  f : Nw B X.fp
  lg : Far X.lp g
  wg : Far X.wp g
  fg : Far X.fp g
theorem Nt.mono {B B' g : Nat} {X : Tc} (hn : Nt B g X) (hB : B' ≤ B) : Nt B' g X := ⟨fun b o e => Nat.le_trans hB (hn.l b o e), fun b o e => Nat.le_trans hB (hn.w b o e), fun b o e => Nat.le_trans hB (hn.f b o e), hn.lg, hn.wg, hn.fg⟩
theorem Nw.none (B : Nat) : Nw B none := fun _ _ h => by cases h
theorem Far.none (g : Nat) : Far none g := fun _ _ h => by cases h
theorem Nt.nil (B g : Nat) (k a h c : Int) (s : Nat) : Nt B g ⟨k, a, h, c, 0, .none, 0, 0, .none, 0, 0, 0, .none, 0, 0, s⟩ := ⟨Nw.none _, Nw.none _, Nw.none _, Far.none _, Far.none _, Far.none _⟩
/-- A table whose row of things is the call's own, from block B on; all that it reads lies from B on. -/
structure Ow (w : World) (B g : Nat) (y : Tw) (xs : List Tc) (T : Tb) : Prop where
  tp : y.tp = some ⟨g, 0, .none⟩
  G : Rd eI w y.gp y.gc T.G
  I : Rd eB w y.ip y.ic T.I
  gn : Nw B y.gp
  in_ : Nw B y.ip
  gf : Far y.gp g
  if_ : Far y.ip g
  R : Own eT w B 58 (some ⟨g, 0, .none⟩) y.tc xs
  ts : Ts w xs T.T
  nt : ∀ X ∈ xs, Nt B g X
  gl : T.G.length = 12
  il : T.I.length = 12
  tl : T.T.length = 12
theorem Ow.tr {w : World} {B g : Nat} {y : Tw} {xs : List Tc} {T : Tb} (h : Ow w B g y xs T) : Tr w y T :=
  ⟨h.G, h.I, ⟨xs, by rw [h.tp]; exact own_rd h.R, h.ts⟩, h.gl, h.il, h.tl⟩
theorem Ow.below {w w' : World} {B g : Nat} {y : Tw} {xs : List Tc} {T : Tb} (h : Ow w B g y xs T) (hb : Below w.heap.size w w') : Ow w' B g y xs T :=
  { h with G := h.G.below hb, I := h.I.below hb, R := own_below h.R hb, ts := h.ts.below hb }
theorem Ok.kp {w w' : World} {X : Tc} {t : Th} {j : Nat} (h : Ok w X t) (hk : Kp j w w') (h1 : Far X.lp j) (h2 : Far X.wp j) (h3 : Far X.fp j) : Ok w' X t :=
  { h with L := rd_kpF h.L hk h1, W := rd_kpF h.W hk h2, F := rd_kpF h.F hk h3 }
/-- something else, below B, has turned -/
theorem Ow.kp {w w' : World} {B g j : Nat} {y : Tw} {xs : List Tc} {T : Tb} (h : Ow w B g y xs T) (hk : Kp j w w') (hj : j < B) : Ow w' B g y xs T :=
  { h with G := rd_kpF h.G hk (h.gn.far hj), I := rd_kpF h.I hk (h.in_.far hj), R := own_kp h.R hk hj, ts := ⟨h.ts.1, fun i h1 h2 => by
      have hn := h.nt _ (List.getElem_mem h1)
      exact (h.ts.2 i h1 h2).kp hk (hn.l.far hj) (hn.w.far hj) (hn.f.far hj)⟩ }
theorem Ow.mono {w : World} {B B' g : Nat} {y : Tw} {xs : List Tc} {T : Tb} (h : Ow w B g y xs T) (hB : B' ≤ B) : Ow w B' g y xs T :=
  { h with gn := fun b o e => Nat.le_trans hB (h.gn b o e), in_ := fun b o e => Nat.le_trans hB (h.in_ b o e), R := own_mono h.R hB, nt := fun X hX => (h.nt X hX).mono hB }
/-- something else, of another type or block, has turned -/
theorem Ow.other {w w' : World} {B g j : Nat} {y : Tw} {xs : List Tc} {T : Tb} (h : Ow w B g y xs T) (hk : Kp j w w') (hj : j ≠ g) (hG : Far y.gp j) (hI : Far y.ip j) (hX : ∀ X ∈ xs, Far X.lp j ∧ Far X.wp j ∧ Far X.fp j) : Ow w' B g y xs T :=
  { h with G := rd_kpF h.G hk hG, I := rd_kpF h.I hk hI, R := own_block_eq h.R (fun b o e => by cases e; exact hk.block g (own_lt h.R) (by intro h; cases h; exact hj rfl)), ts := ⟨h.ts.1, fun i h1 h2 => by
      have hn := hX _ (List.getElem_mem h1)
      exact (h.ts.2 i h1 h2).kp hk hn.1 hn.2.1 hn.2.2⟩ }
/-- its row has turned at n -/
theorem Ow.put {w w' : World} {B g : Nat} {y : Tw} {xs : List Tc} {T : Tb} (h : Ow w B g y xs T) (n : Nat) {X : Tc} {t : Th} (hk : Kp g w w') (hR : Own eT w' B 58 (some ⟨g, 0, .none⟩) y.tc (xs.set n X)) (ho : Ok w X t) (hn : Nt B g X) : Ow w' B g y (xs.set n X) ⟨T.G, T.I, T.T.set n t⟩ :=
  ⟨h.tp, rd_kpF h.G hk h.gf, rd_kpF h.I hk h.if_, h.gn, h.in_, h.gf, h.if_, hR,
    Ts.set (w := w') ⟨h.ts.1, fun i h1 h2 => by
      have hn := h.nt _ (List.getElem_mem h1)
      exact (h.ts.2 i h1 h2).kp hk hn.lg hn.wg hn.fg⟩ n (ho.kp hk hn.lg hn.wg hn.fg),
    fun Z hZ => by
      rcases List.mem_or_eq_of_mem_set hZ with hZ | hZ
      · exact h.nt _ hZ
      · subst hZ; exact hn, h.gl, h.il, by simp [h.tl]⟩
/-- other places -/
theorem Ow.slots {w : World} {B g : Nat} {y : Tw} {xs : List Tc} {T : Tb} (h : Ow w B g y xs T) {gp : Option Addr} {gc : Nat} {ip : Option Addr} {ic : Nat} {G : List Int} {I : List Bool} (hG : Rd eI w gp gc G) (hI : Rd eB w ip ic I) (gn : Nw B gp) (in_ : Nw B ip) (gf : Far gp g) (if_ : Far ip g) (gl : G.length = 12) (il : I.length = 12) : Ow w B g ⟨gp, gc, ip, ic, y.tp, y.tc⟩ xs ⟨G, I, T.T⟩ :=
  ⟨h.tp, hG, hI, gn, in_, gf, if_, h.R, h.ts, h.nt, gl, il, h.tl⟩
theorem Ow.len {w : World} {B g : Nat} {y : Tw} {xs : List Tc} {T : Tb} (h : Ow w B g y xs T) : xs.length = 12 := by rw [h.ts.1, h.tl]
/-- The rows of a thing lie below H. -/
def Lx (H : Nat) (X : Tc) : Prop := (∀ b o, X.lp = some ⟨b, o, .none⟩ → b < H) ∧ (∀ b o, X.wp = some ⟨b, o, .none⟩ → b < H) ∧ (∀ b o, X.fp = some ⟨b, o, .none⟩ → b < H)
theorem Lx.mono {H K : Nat} {X : Tc} (h : Lx H X) (hk : H ≤ K) : Lx K X := ⟨fun b o e => Nat.lt_of_lt_of_le (h.1 b o e) hk, fun b o e => Nat.lt_of_lt_of_le (h.2.1 b o e) hk, fun b o e => Nat.lt_of_lt_of_le (h.2.2 b o e) hk⟩
/-- .. and of a table and its things -/
structure Lq (H : Nat) (y : Tw) (xs : List Tc) : Prop where
  g : ∀ b o, y.gp = some ⟨b, o, .none⟩ → b < H
  i : ∀ b o, y.ip = some ⟨b, o, .none⟩ → b < H
  x : ∀ X ∈ xs, Lx H X
/-- clone on its way: the first n are copies -/
structure Cw (w : World) (B g n : Nat) (y : Tw) (xs ys : List Tc) (T : Tb) : Prop where
  tp : y.tp = some ⟨g, 0, .none⟩
  G : Rd eI w y.gp y.gc T.G
  I : Rd eB w y.ip y.ic T.I
  gn : Nw B y.gp
  in_ : Nw B y.ip
  gf : Far y.gp g
  if_ : Far y.ip g
  R : Own eT w B 58 (some ⟨g, 0, .none⟩) y.tc ys
  len : ys.length = 12
  done : ∀ (i : Nat) (h1 : i < ys.length) (h2 : i < T.T.length), i < n → Ok w ys[i] T.T[i] ∧ Nt B g ys[i] ∧ Lx w.heap.size ys[i]
  rest : ∀ i, n ≤ i → ys[i]? = xs[i]?
  gl : T.G.length = 12
  il : T.I.length = 12
  tl : T.T.length = 12
theorem Cw.below {w w' : World} {B g n : Nat} {y : Tw} {xs ys : List Tc} {T : Tb} (h : Cw w B g n y xs ys T) (hb : Below w.heap.size w w') : Cw w' B g n y xs ys T :=
  { h with G := h.G.below hb, I := h.I.below hb, R := own_below h.R hb, done := fun i h1 h2 hi => ⟨(h.done i h1 h2 hi).1.below hb, (h.done i h1 h2 hi).2.1, (h.done i h1 h2 hi).2.2.mono hb.size⟩ }
theorem Cw.put {w w' : World} {B g n : Nat} {y : Tw} {xs ys : List Tc} {T : Tb} (h : Cw w B g n y xs ys T) {X : Tc} (hk : Kp g w w') (hR : Own eT w' B 58 (some ⟨g, 0, .none⟩) y.tc (ys.set n X)) (ho : Ok w X (T.T.getD n th0)) (ht : Nt B g X) (hl : Lx w.heap.size X) : Cw w' B g (n + 1) y xs (ys.set n X) T :=
  ⟨h.tp, rd_kpF h.G hk h.gf, rd_kpF h.I hk h.if_, h.gn, h.in_, h.gf, h.if_, hR, by simp [h.len], fun i h1 h2 hi => by
    rw [List.getElem_set]
    by_cases e : n = i
    · subst e
      rw [if_pos rfl]
      have e2 : T.T.getD n th0 = T.T[n] := by simp [List.getD_eq_getElem?_getD, h2]
      rw [e2] at ho
      exact ⟨ho.kp hk ht.lg ht.wg ht.fg, ht, hl.mono hk.size⟩
    · rw [if_neg e]
      have := h.done i (by simpa using h1) h2 (by omega)
      exact ⟨this.1.kp hk this.2.1.lg this.2.1.wg this.2.1.fg, this.2.1, this.2.2.mono hk.size⟩, fun i hi => by
    rw [List.getElem?_set_ne (by omega)]
    exact h.rest i (by omega), h.gl, h.il, h.tl⟩
theorem Cw.fin {w : World} {B g : Nat} {y : Tw} {xs ys : List Tc} {T : Tb} (h : Cw w B g 12 y xs ys T) : Ow w B g y ys T :=
  ⟨h.tp, h.G, h.I, h.gn, h.in_, h.gf, h.if_, h.R, ⟨by rw [h.len, h.tl], fun i h1 h2 => (h.done i h1 h2 (by rw [h.len] at h1; exact h1)).1⟩, fun X hX => by
    obtain ⟨i, hi, rfl⟩ := List.getElem_of_mem hX
    exact (h.done i hi (by rw [h.tl, ← h.len]; exact hi) (by rw [h.len] at hi; exact hi)).2.1, h.gl, h.il, h.tl⟩
theorem Cw.lx {w : World} {B g : Nat} {y : Tw} {xs ys : List Tc} {T : Tb} (h : Cw w B g 12 y xs ys T) : ∀ X ∈ ys, Lx w.heap.size X := fun X hX => by
  obtain ⟨i, hi, rfl⟩ := List.getElem_of_mem hX
  exact (h.done i hi (by rw [h.tl, ← h.len]; exact hi) (by rw [h.len] at hi; exact hi)).2.2
theorem own_lv {α : Type} {E : Elt α} {w : World} {base : Nat} {e : TypeId} {g c : Nat} {l : List α} (h : Own E w base e (some ⟨g, 0, .none⟩) c l) : ∃ cs, Lv w g cs e := by
  rcases h.2 with ⟨h1, _⟩ | ⟨g', cap, cur, h1, h2, h3, _⟩
  · simp at h1
  · simp only [Value.slice.injEq, Option.some.injEq, Addr.mk.injEq, and_true, true_and] at h1
    obtain ⟨rfl, rfl⟩ := h1
    exact ⟨cur, h3⟩
/-- the first k of b, the rest of a -/
def mix {α : Type} (k : Nat) (a b : List α) : List α := b.take k ++ a.drop k
theorem mix_zero {α : Type} (a b : List α) : mix 0 a b = a := by simp [mix]
theorem mix_all {α : Type} {a b : List α} (h : a.length = b.length) : mix a.length a b = b := by simp [mix, h]
theorem set_same {α : Type} (l : List α) (k : Nat) (d : α) (hk : k < l.length) : l.set k (l.getD k d) = l := by
  simp [List.getD_eq_getElem?_getD, hk]
set_option maxRecDepth 20000 in
set_option maxHeartbeats 8000000 in
theorem clone_lq (x : Tw) (T : Tb) (w : World) (ht : Tr w x T) :
    Calls Try.prog 35 #[.agg #[.slice x.gp 12 x.gc, .slice x.ip 12 x.ic, .slice x.tp 12 x.tc]] w fun e w' => ∃ y : Tw, e = .returned (.agg #[.slice y.gp 12 y.gc, .slice y.ip 12 y.ic, .slice y.tp 12 y.tc]) ∧ (∃ (g : Nat) (xs : List Tc), Ow w' w.heap.size g y xs T ∧ Lq w'.heap.size y xs) ∧ Below w.heap.size w w' := by
  obtain ⟨W, hW⟩ : ∃ W, W = (w.alloc (.cells #[.slice x.gp 12 x.gc, .slice x.ip 12 x.ic, .slice x.tp 12 x.tc] 30)).alloc (.cells #[.slice none 0 0, .slice none 0 0, .slice none 0 0] 30) := ⟨_, rfl⟩
  have bW : Below w.heap.size w W := by rw [hW]; exact ((Below.refl _ _).alloc (Nat.le_refl _) _).alloc (by simp) _
  have hsz : W.heap.size = w.heap.size + 2 := by rw [hW]; simp
  have hV : Vw W w.heap.size x 30 := by rw [hW]; exact (Vw.new _ _ _).below (bel_self _ _)
  have hR : Lv W (w.heap.size + 1) #[.slice none 0 0, .slice none 0 0, .slice none 0 0] 30 := by rw [hW]; exact heap_at (by simp)
  have hT := ht.below bW
  obtain ⟨xs, rX0, hts0⟩ := ht.R
  have rX := rX0.below bW
  have hts := hts0.below bW
  have hxl : xs.length = 12 := by rw [hts.1, ht.tl]
  have HXL : Hid (xs.length = 12) := hxl
  have HGL : Hid (T.G.length = 12) := ht.gl
  have HIL : Hid (T.I.length = 12) := ht.il
  have HTL : Hid (T.T.length = 12) := ht.tl
  clear hxl
  have hzd : W.drew.heap.size = W.heap.size := rfl
  go_enter Try.func35, Try.ntmps35
  go_wp2
  rw [← hW]
  clear hW
  refine wp_region_held_drew (S := fun w' => Below W.heap.size W w') (by kernel_rfl) (Below.refl _ _).drew (fun hHeld => ?_)
  refine wpAnyH_take (i := 0) (oi := _) (v := ?_) rfl (by kernel_rfl) (by kernel_rfl) (by kernel_rfl) (fun _ _ _ h => h) (Or.inl ⟨by rfl, ?_⟩) hHeld ?_
  rotate_left
  · intro w' hSw
    (go_simp <;> with_reducible rfl)
  try simp only [Act.put, List.getElem_toArray, List.getElem_cons_zero, List.setIfInBounds_toArray, List.set_cons_zero, List.set_cons_succ]
  refine wpAnyH_take (i := 1) (oi := _) (v := ?_) rfl (by kernel_rfl) (by kernel_rfl) (by kernel_rfl) (fun _ _ _ h => h) (Or.inl ⟨by rfl, ?_⟩) hHeld ?_
  rotate_left
  · intro w' hSw
    (go_simp <;> with_reducible rfl)
  try simp only [Act.put, List.getElem_toArray, List.getElem_cons_succ, List.getElem_cons_zero, List.setIfInBounds_toArray, List.set_cons_zero, List.set_cons_succ]
  refine wpAnyH_take (i := 2) (oi := _) (v := ?_) rfl (by kernel_rfl) (by kernel_rfl) (by kernel_rfl) (fun _ _ _ h => h) (Or.inl ⟨by rfl, ?_⟩) hHeld ?_
  rotate_left
  · intro w' hSw
    obtain ⟨c0, c1, c2⟩ := (hV.below hSw).at
    (go_simp <;> with_reducible rfl)
  try simp only [Act.put, List.getElem_toArray, List.getElem_cons_succ, List.getElem_cons_zero, List.setIfInBounds_toArray, List.set_cons_zero, List.set_cons_succ]
  refine wpAnyH_take (i := 4) (oi := _) (v := ?_) rfl (by kernel_rfl) (by kernel_rfl) (by kernel_rfl) (fun _ _ _ h => h) (Or.inl ⟨by rfl, ?_⟩) hHeld ?_
  rotate_left
  · intro w' hSw
    (go_simp <;> with_reducible rfl)
  try simp only [Act.put, List.getElem_toArray, List.getElem_cons_succ, List.getElem_cons_zero, List.setIfInBounds_toArray, List.set_cons_zero, List.set_cons_succ]
  refine wpAnyH_take (i := 5) (oi := _) (v := ?_) rfl (by kernel_rfl) (by kernel_rfl) (by kernel_rfl) (fun _ _ _ h => h) (Or.inl ⟨by rfl, ?_⟩) hHeld ?_
  rotate_left
  · intro w' hSw
    (go_simp <;> with_reducible rfl)
  try simp only [Act.put, List.getElem_toArray, List.getElem_cons_succ, List.getElem_cons_zero, List.setIfInBounds_toArray, List.set_cons_zero, List.set_cons_succ]
  refine wpAnyH_take (i := 6) (oi := _) (v := ?_) rfl (by kernel_rfl) (by kernel_rfl) (by kernel_rfl) (fun _ _ _ h => h) (Or.inl ⟨by rfl, ?_⟩) hHeld ?_
  rotate_left
  · intro w' hSw
    obtain ⟨c0, c1, c2⟩ := (hV.below hSw).at
    (go_simp <;> with_reducible rfl)
  try simp only [Act.put, List.getElem_toArray, List.getElem_cons_succ, List.getElem_cons_zero, List.setIfInBounds_toArray, List.set_cons_zero, List.set_cons_succ]
  refine wpAnyH_take (i := 9) (oi := _) (v := ?_) rfl (by kernel_rfl) (by kernel_rfl) (by kernel_rfl) (fun _ _ _ h => h) (Or.inl ⟨by rfl, ?_⟩) hHeld ?_
  rotate_left
  · intro w' hSw
    (go_simp <;> with_reducible rfl)
  try simp only [Act.put, List.getElem_toArray, List.getElem_cons_succ, List.getElem_cons_zero, List.setIfInBounds_toArray, List.set_cons_zero, List.set_cons_succ]
  refine wpAnyH_take (i := 10) (oi := _) (v := ?_) rfl (by kernel_rfl) (by kernel_rfl) (by kernel_rfl) (fun _ _ _ h => h) (Or.inl ⟨by rfl, ?_⟩) hHeld ?_
  rotate_left
  · intro w' hSw
    obtain ⟨c0, c1, c2⟩ := (hV.below hSw).at
    (go_simp <;> with_reducible rfl)
  try simp only [Act.put, List.getElem_toArray, List.getElem_cons_succ, List.getElem_cons_zero, List.setIfInBounds_toArray, List.set_cons_zero, List.set_cons_succ]
  refine wpAnyH_ready (rs := [3, 13]) (by kernel_rfl) (by simp) ?_
  refine AllReadyH.cons (o := _) rfl (fun K hK => ?_) (AllReadyH.cons (o := _) rfl (fun K hK => ?_) (AllReadyH.nil))
  · go_simp
    go_at_call 59; refine (cloneI _ _ _ _ _ (hT.G.below (Below.refl W.heap.size W).drew) HGL.out (by decide)).mono ?_
    rintro e wa ⟨pa, ca, rfl, oa, ba'⟩
    have ba : Below W.heap.size W wa := bel_call (Below.refl W.heap.size W).drew (Nat.le_refl _) ba'
    have hza := ba'.size
    refine hK.out _ _ ba (fun hHeld => ?_)
    clear hK K
    try simp only [Act.put, List.getElem_toArray, List.getElem_cons_succ, List.getElem_cons_zero, List.setIfInBounds_toArray, List.set_cons_zero, List.set_cons_succ]
    refine wpAnyH_ready (rs := [7, 13]) (by kernel_rfl) (by simp) ?_
    refine AllReadyH.cons (o := _) rfl (fun K hK => ?_) (AllReadyH.cons (o := _) rfl (fun K hK => ?_) (AllReadyH.nil))
    · go_simp
      go_at_call 60; refine (cloneB _ _ _ _ _ (hT.I.below ba) HIL.out (by decide)).mono ?_
      rintro e wb ⟨pb, cb, rfl, ob, bb'⟩
      have bb : Below W.heap.size W wb := bel_call ba (Nat.le_refl _) bb'
      have hzb := bb'.size
      have oa := own_below oa bb'
      refine hK.out _ _ bb (fun hHeld => ?_)
      clear hK K
      try simp only [Act.put, List.getElem_toArray, List.getElem_cons_succ, List.getElem_cons_zero, List.setIfInBounds_toArray, List.set_cons_zero, List.set_cons_succ]
      refine wpAnyH_take (i := 8) (oi := _) (v := ?_) rfl (by kernel_rfl) (by kernel_rfl) (by kernel_rfl) (fun _ _ _ h => h) (Or.inl ⟨by rfl, ?_⟩) hHeld ?_
      rotate_left
      · intro w' hSw
        (go_simp <;> with_reducible rfl)
      try simp only [Act.put, List.getElem_toArray, List.getElem_cons_succ, List.getElem_cons_zero, List.setIfInBounds_toArray, List.set_cons_zero, List.set_cons_succ]
      refine wpAnyH_ready (rs := [11, 13]) (by kernel_rfl) (by simp) ?_
      refine AllReadyH.cons (o := _) rfl (fun K hK => ?_) (AllReadyH.cons (o := _) rfl (fun K hK => ?_) (AllReadyH.nil))
      · go_simp
        go_at_call 61; refine (cloneT _ _ _ _ _ (rX.below bb) HXL.out (by decide)).mono ?_
        rintro e wc ⟨pc, cc, rfl, oc, bc'⟩
        have bc : Below W.heap.size W wc := bel_call bb (Nat.le_refl _) bc'
        have hzc := bc'.size
        have oa := own_below oa bc'
        have ob := own_below ob bc'
        refine hK.out _ _ bc (fun hHeld => ?_)
        clear hK K
        try simp only [Act.put, List.getElem_toArray, List.getElem_cons_succ, List.getElem_cons_zero, List.setIfInBounds_toArray, List.set_cons_zero, List.set_cons_succ]
        refine wpAnyH_take (i := 12) (oi := _) (v := ?_) rfl (by kernel_rfl) (by kernel_rfl) (by kernel_rfl) (fun _ _ _ h => h) (Or.inl ⟨by rfl, ?_⟩) hHeld ?_
        rotate_left
        · intro w' hSw
          (go_simp <;> with_reducible rfl)
        try simp only [Act.put, List.getElem_toArray, List.getElem_cons_succ, List.getElem_cons_zero, List.setIfInBounds_toArray, List.set_cons_zero, List.set_cons_succ]
        refine wpAnyH_ready (rs := [13]) (by kernel_rfl) (by simp) ?_
        refine AllReadyH.cons (o := _) rfl (fun K hK => ?_) (AllReadyH.nil)
        go_simp
        have bv' : Below wc.heap.size wc (wc.alloc (.cells #[.slice none 0 0, .slice none 0 0, .slice none 0 0] 30)) := bel_self _ _
        have hv : Lv (wc.alloc (.cells #[.slice none 0 0, .slice none 0 0, .slice none 0 0] 30)) wc.heap.size #[.slice none 0 0, .slice none 0 0, .slice none 0 0] 30 := Lv.new _ _ _
        have hgv : W.heap.size ≤ wc.heap.size := bc.size
        have bv : Below W.heap.size W (wc.alloc (.cells #[.slice none 0 0, .slice none 0 0, .slice none 0 0] 30)) := bel_call bc (Nat.le_refl _) bv'
        have oa := own_below oa bv'
        have ob := own_below ob bv'
        have oc := own_below oc bv'
        have hzv := bv'.size
        have hzvv : wc.heap.size < (wc.alloc (.cells #[.slice none 0 0, .slice none 0 0, .slice none 0 0] 30)).heap.size := hv.lt
        generalize hgW : (wc.alloc (.cells #[.slice none 0 0, .slice none 0 0, .slice none 0 0] 30)) = wv at *
        clear hgW
        obtain ⟨gv, hgvE⟩ : ∃ gv, gv = wc.heap.size := ⟨_, rfl⟩
        rw [← hgvE] at hv hgv hzvv
        try simp only [← hgvE]
        have HGV : Hid (gv = wc.heap.size) := hgvE
        clear hgvE
        refine hK.out _ _ bv (fun hHeld => ?_)
        clear hK K
        try simp only [Act.put, List.getElem_toArray, List.getElem_cons_succ, List.getElem_cons_zero, List.setIfInBounds_toArray, List.set_cons_zero, List.set_cons_succ]
        refine wpAnyH_ready (rs := [14]) (by kernel_rfl) (by simp) ?_
        refine AllReadyH.cons (o := _) rfl (fun K hK => ?_) (AllReadyH.nil)
        refine step_stV (E := eTb) rfl 30 _ _ rfl size30 gv _ hv rfl (⟨pa, ca, pb, cb, pc, cc⟩ : Tw) rfl rfl ?_
        intro w5 L5 k5
        have fa : Far pa gv := Far.type oa hv (by decide)
        have fb : Far pb gv := Far.type ob hv (by decide)
        have fc : Far pc gv := Far.type oc hv (by decide)
        have o5a := own_block_eq (w' := w5) oa (fun b o e => k5.block b (by subst e; exact own_lt oa) (by intro h; cases h; exact fa gv o e rfl))
        have o5b := own_block_eq (w' := w5) ob (fun b o e => k5.block b (by subst e; exact own_lt ob) (by intro h; cases h; exact fb gv o e rfl))
        have o5c := own_block_eq (w' := w5) oc (fun b o e => k5.block b (by subst e; exact own_lt oc) (by intro h; cases h; exact fc gv o e rfl))
        have b5 : Below W.heap.size W w5 := bel_kp bv k5 hgv bv.size
        refine hK.out _ _ b5 (fun hHeld => ?_)
        clear hK K
        try simp only [Act.put, List.getElem_toArray, List.getElem_cons_succ, List.getElem_cons_zero]
        refine wpAnyH_done (by kernel_rfl) ?_ _
        obtain ⟨g, hg⟩ : ∃ g, pc = some ⟨g, 0, .none⟩ := own_some o5c (by rw [HXL.out]; decide)
        subst hg
        have hgvg : gv ≠ g := fun h => fc g 0 rfl h.symm
        have lg : g < w5.heap.size := own_lt o5c
        obtain ⟨cs5, lv5⟩ := own_lv o5c
        have ge := own_ge o5c
        have la5 : ∀ b o, pa = some ⟨b, o, .none⟩ → b < w5.heap.size := fun b o e => by subst e; exact own_lt o5a
        have lb5 : ∀ b o, pb = some ⟨b, o, .none⟩ → b < w5.heap.size := fun b o e => by subst e; exact own_lt o5b
        have hz5 := k5.size
        have bw5 : Below w.heap.size w w5 := bel_call bW (Nat.le_refl _) b5
        have ow5 : Cw w5 W.heap.size g 0 ⟨pa, ca, pb, cb, some ⟨g, 0, .none⟩, cc⟩ xs xs T := ⟨rfl, own_rd o5a, own_rd o5b, Nw.own o5a (by omega), Nw.own o5b (by omega), Far.type o5a lv5 (by decide), Far.type o5b lv5 (by decide), own_mono o5c (by omega), HXL.out, fun i _ _ h => by omega, fun _ _ => rfl, HGL.out, HIL.out, HTL.out⟩
        have hv5 : Vw w5 gv ⟨pa, ca, pb, cb, some ⟨g, 0, .none⟩, cc⟩ 30 := L5
        have R5 : Lv w5 (w.heap.size + 1) #[.slice none 0 0, .slice none 0 0, .slice none 0 0] 30 := hR.below b5
        have hgv5 : gv < w5.heap.size := Lv.lt L5
        have lw5 : w.heap.size + 1 < w5.heap.size := Lv.lt R5
        obtain ⟨c0, c1, c2⟩ := hv5.at
        clear hHeld o5a o5b o5c oa ob oc fa fb fc k5 L5 hv lv5
        go_wp2
        clear c0 c1 c2
        go_loopw [4, 22] (fun _ i wr => ∃ (n : Nat) (ys : List Tc), n ≤ 12 ∧ i = .int .i64 n ∧ Cw wr W.heap.size g n ⟨pa, ca, pb, cb, some ⟨g, 0, .none⟩, cc⟩ xs ys T ∧ Vw wr gv ⟨pa, ca, pb, cb, some ⟨g, 0, .none⟩, cc⟩ 30 ∧ Below w.heap.size w wr ∧ w5.heap.size ≤ wr.heap.size ∧ Lv wr (w.heap.size + 1) #[.slice none 0 0, .slice none 0 0, .slice none 0 0] 30) (fun _ i _ => 12 - (intOf i).toNat)
        case atStart => exact ⟨0, xs, Nat.zero_le _, rfl, ow5, hv5, bw5, Nat.le_refl _, R5⟩
        case round =>
          obtain ⟨n, ys, hn, rfl, hown, hvr, hbw, hle, hRr⟩ := hrel
          clear ow5 hv5 bw5 b5 R5
          by_cases hlt : n < 12
          · have hyl : n < ys.length := by rw [hown.len]; exact hlt
            have hxn : n < xs.length := by rw [HXL.out]; exact hlt
            have hXX : ys[n] = xs[n] := by
              have := hown.rest n (Nat.le_refl _)
              rw [List.getElem?_eq_getElem hyl, List.getElem?_eq_getElem hxn] at this
              simpa using this
            obtain ⟨b, o, e9, hb, hc⟩ := (own_rd hown.R).thing n hyl
            cases e9
            rw [Nat.zero_add] at hc
            obtain ⟨X, hX⟩ : ∃ X, ys[n] = X := ⟨_, rfl⟩
            rw [hX] at hc hXX
            have hTn : T.T.getD n th0 = T.T[n]'(by rw [HTL.out]; exact hlt) := by simp [List.getD_eq_getElem?_getD, HTL.out, hlt]
            have s1 := bel_self wr (.cells #[.int .i64 X.k, .int .i64 X.a, .int .i64 X.g, .int .i64 X.c, .int .i64 X.h, .slice X.lp X.ln X.lc, .slice X.wp X.wn X.wc, .int .u32 (X.b : Int), .slice X.fp X.fn X.fc, .int .u32 (X.s : Int)] 58)
            have hoX0 : Ok wr xs[n] (T.T.getD n th0) := by
              rw [hTn]
              exact (hts0.2 n hxn (by rw [HTL.out]; exact hlt)).below hbw
            rw [← hXX] at hoX0
            have hoX := hoX0.below s1
            obtain ⟨d0, d1, d2, d3, d4, d5, d6, d7, d8, d9⟩ := hc
            have hx5 : Vt (wr.alloc (.cells #[.int .i64 X.k, .int .i64 X.a, .int .i64 X.g, .int .i64 X.c, .int .i64 X.h, .slice X.lp X.ln X.lc, .slice X.wp X.wn X.wc, .int .u32 (X.b : Int), .slice X.fp X.fn X.fc, .int .u32 (X.s : Int)] 58)) wr.heap.size X 58 := Vt.new _ _ _
            have hv5 := hvr.below s1
            have hgvr : gv < wr.heap.size := hvr.lt
            have hgr : g < wr.heap.size := hb
            have hgr2 : wr.heap.size ≠ g := by omega
            have hnI : (n : Int) < 12 := by omega
            clear hXX hX hTn
            go_wp2
            refine wp_region_held_drew (S := fun w' => w'.heap[gv]? = (wr.alloc (.cells #[.int .i64 X.k, .int .i64 X.a, .int .i64 X.g, .int .i64 X.c, .int .i64 X.h, .slice X.lp X.ln X.lc, .slice X.wp X.wn X.wc, .int .u32 (X.b : Int), .slice X.fp X.fn X.fc, .int .u32 (X.s : Int)] 58)).heap[gv]? ∧ w'.heap[wr.heap.size]? = (wr.alloc (.cells #[.int .i64 X.k, .int .i64 X.a, .int .i64 X.g, .int .i64 X.c, .int .i64 X.h, .slice X.lp X.ln X.lc, .slice X.wp X.wn X.wc, .int .u32 (X.b : Int), .slice X.fp X.fn X.fc, .int .u32 (X.s : Int)] 58)).heap[wr.heap.size]?) (by kernel_rfl) ⟨rfl, rfl⟩ (fun hHeld => ?_)
            refine wpAnyH_take (i := 0) (oi := _) (v := ?_) rfl (by kernel_rfl) (by kernel_rfl) (by kernel_rfl) (fun _ _ _ h => h) (Or.inl ⟨by rfl, ?_⟩) hHeld ?_
            rotate_left
            · intro w' hSw
              (go_simp <;> with_reducible rfl)
            try simp only [Act.put, List.getElem_toArray, List.getElem_cons_zero, List.setIfInBounds_toArray, List.set_cons_zero, List.set_cons_succ]
            refine wpAnyH_take (i := 1) (oi := _) (v := ?_) rfl (by kernel_rfl) (by kernel_rfl) (by kernel_rfl) (fun _ _ _ h => h) (Or.inl ⟨by rfl, ?_⟩) hHeld ?_
            rotate_left
            · intro w' hSw
              obtain ⟨c0, c1, c2⟩ := Vw.at (show Vw w' gv _ 30 from hSw.1.trans hv5)
              obtain ⟨d0, d1, d2, d3, d4, d5, d6, d7, d8, d9⟩ := Vt.at (show Vt w' wr.heap.size X 58 from hSw.2.trans hx5)
              (go_simp <;> with_reducible rfl)
            try simp only [Act.put, List.getElem_toArray, List.getElem_cons_succ, List.getElem_cons_zero, List.setIfInBounds_toArray, List.set_cons_zero, List.set_cons_succ]
            refine wpAnyH_take (i := 2) (oi := _) (v := ?_) rfl (by kernel_rfl) (by kernel_rfl) (by kernel_rfl) (fun _ _ _ h => h) (Or.inl ⟨by rfl, ?_⟩) hHeld ?_
            rotate_left
            · intro w' hSw
              (go_simp <;> with_reducible rfl)
            try simp only [Act.put, List.getElem_toArray, List.getElem_cons_succ, List.getElem_cons_zero, List.setIfInBounds_toArray, List.set_cons_zero, List.set_cons_succ]
            refine wpAnyH_take (i := 3) (oi := _) (v := ?_) rfl (by kernel_rfl) (by kernel_rfl) (by kernel_rfl) (fun _ _ _ h => h) (Or.inl ⟨by rfl, ?_⟩) hHeld ?_
            rotate_left
            · intro w' hSw
              obtain ⟨c0, c1, c2⟩ := Vw.at (show Vw w' gv _ 30 from hSw.1.trans hv5)
              obtain ⟨d0, d1, d2, d3, d4, d5, d6, d7, d8, d9⟩ := Vt.at (show Vt w' wr.heap.size X 58 from hSw.2.trans hx5)
              (go_simp <;> with_reducible rfl)
            try simp only [Act.put, List.getElem_toArray, List.getElem_cons_succ, List.getElem_cons_zero, List.setIfInBounds_toArray, List.set_cons_zero, List.set_cons_succ]
            refine wpAnyH_ready (rs := [4]) (by kernel_rfl) (by simp) ?_
            refine AllReadyH.cons (o := _) rfl (fun K hK => ?_) (AllReadyH.nil)
            go_simp
            go_at_call 43; refine (copied_any X (T.T.getD n th0) _ (hoX.below (Below.refl _ _).drew)).mono ?_
            rintro e w6 ⟨p1, c1', p2, c2', p3, c3', rfl, q1, q2, q3, b6'⟩
            have b6 : Below (wr.alloc (.cells #[.int .i64 X.k, .int .i64 X.a, .int .i64 X.g, .int .i64 X.c, .int .i64 X.h, .slice X.lp X.ln X.lc, .slice X.wp X.wn X.wc, .int .u32 (X.b : Int), .slice X.fp X.fn X.fc, .int .u32 (X.s : Int)] 58)).heap.size (wr.alloc (.cells #[.int .i64 X.k, .int .i64 X.a, .int .i64 X.g, .int .i64 X.c, .int .i64 X.h, .slice X.lp X.ln X.lc, .slice X.wp X.wn X.wc, .int .u32 (X.b : Int), .slice X.fp X.fn X.fc, .int .u32 (X.s : Int)] 58)) w6 := (Below.refl _ _).drew.trans b6'
            refine hK.out _ _ ⟨b6.block gv (Nat.lt_of_lt_of_le hgvr s1.size), b6.block wr.heap.size hx5.lt⟩ (fun hHeld => ?_)
            clear hK K
            try simp only [Act.put, List.getElem_toArray, List.getElem_cons_succ, List.getElem_cons_zero, List.setIfInBounds_toArray, List.set_cons_zero, List.set_cons_succ]
            refine wpAnyH_take (i := 5) (oi := _) (v := ?_) rfl (by kernel_rfl) (by kernel_rfl) (by kernel_rfl) (fun _ _ _ h => h) (Or.inl ⟨by rfl, ?_⟩) hHeld ?_
            rotate_left
            · intro w' hSw
              (go_simp <;> with_reducible rfl)
            try simp only [Act.put, List.getElem_toArray, List.getElem_cons_succ, List.getElem_cons_zero, List.setIfInBounds_toArray, List.set_cons_zero, List.set_cons_succ]
            refine wpAnyH_ready (rs := [6]) (by kernel_rfl) (by simp) ?_
            refine AllReadyH.cons (o := _) rfl (fun K hK => ?_) (AllReadyH.nil)
            have ow6 := (hown.below s1).below b6
            obtain ⟨cs6, lv6⟩ := own_lv ow6.R
            refine step_stR (E := eT) rfl 58 _ _ rfl size58 W.heap.size g _ _ ow6.R n (by rw [ow6.len]; exact hlt) _ rfl ({ X with lp := p1, lc := c1', wp := p2, wc := c2', fp := p3, fc := c3' } : Tc) rfl rfl ?_
            intro w7 o7 k7
            refine hK.out _ _ ⟨(k7.block gv (Nat.lt_of_lt_of_le (Nat.lt_of_lt_of_le hgvr s1.size) b6.size) (by intro h; cases h; exact hgvg rfl)).trans hHeld.1, (k7.block wr.heap.size (Nat.lt_of_lt_of_le hx5.lt b6.size) (by intro h; cases h; exact Nat.lt_irrefl _ hgr)).trans hHeld.2⟩ (fun hHeld => ?_)
            clear hK K
            try simp only [Act.put, List.getElem_toArray, List.getElem_cons_succ, List.getElem_cons_zero]
            refine wpAnyH_done (by kernel_rfl) ?_ _
            have s6 := b6.size
            have lr := hbw.size
            have ls1 := s1.size
            have hdz : (wr.alloc (.cells #[.int .i64 X.k, .int .i64 X.a, .int .i64 X.g, .int .i64 X.c, .int .i64 X.h, .slice X.lp X.ln X.lc, .slice X.wp X.wn X.wc, .int .u32 (X.b : Int), .slice X.fp X.fn X.fc, .int .u32 (X.s : Int)] 58)).drew.heap.size = (wr.alloc (.cells #[.int .i64 X.k, .int .i64 X.a, .int .i64 X.g, .int .i64 X.c, .int .i64 X.h, .slice X.lp X.ln X.lc, .slice X.wp X.wn X.wc, .int .u32 (X.b : Int), .slice X.fp X.fn X.fc, .int .u32 (X.s : Int)] 58)).heap.size := rfl
            have okN : Ok w6 ({ X with lp := p1, lc := c1', wp := p2, wc := c2', fp := p3, fc := c3' } : Tc) (T.T.getD n th0) := { hoX.below b6 with L := own_rd q1, W := own_rd q2, F := own_rd q3 }
            have ntN : Nt W.heap.size g ({ X with lp := p1, lc := c1', wp := p2, wc := c2', fp := p3, fc := c3' } : Tc) := ⟨Nw.own q1 (by omega), Nw.own q2 (by omega), Nw.own q3 (by omega), Far.type q1 lv6 (by decide), Far.type q2 lv6 (by decide), Far.type q3 lv6 (by decide)⟩
            have lxN : Lx w6.heap.size ({ X with lp := p1, lc := c1', wp := p2, wc := c2', fp := p3, fc := c3' } : Tc) := ⟨fun b o e => by dsimp only at e; subst e; exact own_lt q1, fun b o e => by dsimp only at e; subst e; exact own_lt q2, fun b o e => by dsimp only at e; subst e; exact own_lt q3⟩
            have ow7 := ow6.put k7 o7 okN ntN lxN
            have hv7 : Vw w7 gv _ 30 := hHeld.1.trans hv5
            have B7 : Below w.heap.size w w7 := bel_kp (bel_call (hbw.alloc hbw.size _) (Nat.le_refl _) b6) k7 (by omega) (by omega)
            have hz7 : w5.heap.size ≤ w7.heap.size := by have := k7.size; omega
            have R7 := ((hRr.below s1).below b6).kp k7 (by omega)
            go_wp2
            go_roundw
            case rel => exact ⟨n + 1, _, by omega, by go_num, ow7, hv7, B7, hz7, R7⟩
            case measure => simp [intOf]; omega
          · have hn12 : n = 12 := by omega
            subst hn12
            have hf := hown.fin
            have hlx := hown.lx
            obtain ⟨c0, c1, c2⟩ := hvr.at
            go_wp2_with (refine wpList_stV (E := eTb) rfl 30 (.tmp 2) (.tmp 34) rfl size30 (w.heap.size + 1) _ hRr rfl (⟨pa, ca, pb, cb, some ⟨g, 0, .none⟩, cc⟩ : Tw) rfl rfl ?_; intro w9 L9 k9)
            have e9 := load30 L9
            have B9 : Below w.heap.size w w9 := bel_kp hbw k9 (by omega) hbw.size
            refine bodyPost_ret (v := .agg #[.slice pa 12 ca, .slice pb 12 cb, .slice (some ⟨g, 0, .none⟩) 12 cc]) (by simp [results, Try.results35, asAddr, e9]) rfl ⟨⟨pa, ca, pb, cb, some ⟨g, 0, .none⟩, cc⟩, rfl, ⟨g, ys, ?_⟩, B9⟩
            exact ⟨(hf.kp k9 (by omega)).mono (by omega), ⟨fun b o e => by have := la5 b o e; have := k9.size; omega, fun b o e => by have := lb5 b o e; have := k9.size; omega, fun X hX => (hlx X hX).mono k9.size⟩⟩
      · go_simp
        have bv' : Below wb.heap.size wb (wb.alloc (.cells #[.slice none 0 0, .slice none 0 0, .slice none 0 0] 30)) := bel_self _ _
        have hv : Lv (wb.alloc (.cells #[.slice none 0 0, .slice none 0 0, .slice none 0 0] 30)) wb.heap.size #[.slice none 0 0, .slice none 0 0, .slice none 0 0] 30 := Lv.new _ _ _
        have hgv : W.heap.size ≤ wb.heap.size := bb.size
        have bv : Below W.heap.size W (wb.alloc (.cells #[.slice none 0 0, .slice none 0 0, .slice none 0 0] 30)) := bel_call bb (Nat.le_refl _) bv'
        have oa := own_below oa bv'
        have ob := own_below ob bv'
        have hzv := bv'.size
        have hzvv : wb.heap.size < (wb.alloc (.cells #[.slice none 0 0, .slice none 0 0, .slice none 0 0] 30)).heap.size := hv.lt
        generalize hgW : (wb.alloc (.cells #[.slice none 0 0, .slice none 0 0, .slice none 0 0] 30)) = wv at *
        clear hgW
        obtain ⟨gv, hgvE⟩ : ∃ gv, gv = wb.heap.size := ⟨_, rfl⟩
        rw [← hgvE] at hv hgv hzvv
        try simp only [← hgvE]
        have HGV : Hid (gv = wb.heap.size) := hgvE
        clear hgvE
        refine hK.out _ _ bv (fun hHeld => ?_)
        clear hK K
        try simp only [Act.put, List.getElem_toArray, List.getElem_cons_succ, List.getElem_cons_zero, List.setIfInBounds_toArray, List.set_cons_zero, List.set_cons_succ]
        refine wpAnyH_ready (rs := [11]) (by kernel_rfl) (by simp) ?_
        refine AllReadyH.cons (o := _) rfl (fun K hK => ?_) (AllReadyH.nil)
        go_simp
        go_at_call 61; refine (cloneT _ _ _ _ _ (rX.below bv) HXL.out (by decide)).mono ?_
        rintro e wc ⟨pc, cc, rfl, oc, bc'⟩
        have bc : Below W.heap.size W wc := bel_call bv (Nat.le_refl _) bc'
        have hzc := bc'.size
        have oa := own_below oa bc'
        have ob := own_below ob bc'
        have hv := hv.below bc'
        refine hK.out _ _ bc (fun hHeld => ?_)
        clear hK K
        try simp only [Act.put, List.getElem_toArray, List.getElem_cons_succ, List.getElem_cons_zero, List.setIfInBounds_toArray, List.set_cons_zero, List.set_cons_succ]
        refine wpAnyH_take (i := 12) (oi := _) (v := ?_) rfl (by kernel_rfl) (by kernel_rfl) (by kernel_rfl) (fun _ _ _ h => h) (Or.inl ⟨by rfl, ?_⟩) hHeld ?_
        rotate_left
        · intro w' hSw
          (go_simp <;> with_reducible rfl)
        try simp only [Act.put, List.getElem_toArray, List.getElem_cons_succ, List.getElem_cons_zero, List.setIfInBounds_toArray, List.set_cons_zero, List.set_cons_succ]
        refine wpAnyH_ready (rs := [14]) (by kernel_rfl) (by simp) ?_
        refine AllReadyH.cons (o := _) rfl (fun K hK => ?_) (AllReadyH.nil)
        refine step_stV (E := eTb) rfl 30 _ _ rfl size30 gv _ hv rfl (⟨pa, ca, pb, cb, pc, cc⟩ : Tw) rfl rfl ?_
        intro w5 L5 k5
        have fa : Far pa gv := Far.type oa hv (by decide)
        have fb : Far pb gv := Far.type ob hv (by decide)
        have fc : Far pc gv := Far.type oc hv (by decide)
        have o5a := own_block_eq (w' := w5) oa (fun b o e => k5.block b (by subst e; exact own_lt oa) (by intro h; cases h; exact fa gv o e rfl))
        have o5b := own_block_eq (w' := w5) ob (fun b o e => k5.block b (by subst e; exact own_lt ob) (by intro h; cases h; exact fb gv o e rfl))
        have o5c := own_block_eq (w' := w5) oc (fun b o e => k5.block b (by subst e; exact own_lt oc) (by intro h; cases h; exact fc gv o e rfl))
        have b5 : Below W.heap.size W w5 := bel_kp bc k5 hgv bc.size
        refine hK.out _ _ b5 (fun hHeld => ?_)
        clear hK K
        try simp only [Act.put, List.getElem_toArray, List.getElem_cons_succ, List.getElem_cons_zero]
        refine wpAnyH_done (by kernel_rfl) ?_ _
        obtain ⟨g, hg⟩ : ∃ g, pc = some ⟨g, 0, .none⟩ := own_some o5c (by rw [HXL.out]; decide)
        subst hg
        have hgvg : gv ≠ g := fun h => fc g 0 rfl h.symm
        have lg : g < w5.heap.size := own_lt o5c
        obtain ⟨cs5, lv5⟩ := own_lv o5c
        have ge := own_ge o5c
        have la5 : ∀ b o, pa = some ⟨b, o, .none⟩ → b < w5.heap.size := fun b o e => by subst e; exact own_lt o5a
        have lb5 : ∀ b o, pb = some ⟨b, o, .none⟩ → b < w5.heap.size := fun b o e => by subst e; exact own_lt o5b
        have hz5 := k5.size
        have bw5 : Below w.heap.size w w5 := bel_call bW (Nat.le_refl _) b5
        have ow5 : Cw w5 W.heap.size g 0 ⟨pa, ca, pb, cb, some ⟨g, 0, .none⟩, cc⟩ xs xs T := ⟨rfl, own_rd o5a, own_rd o5b, Nw.own o5a (by omega), Nw.own o5b (by omega), Far.type o5a lv5 (by decide), Far.type o5b lv5 (by decide), own_mono o5c (by omega), HXL.out, fun i _ _ h => by omega, fun _ _ => rfl, HGL.out, HIL.out, HTL.out⟩
        have hv5 : Vw w5 gv ⟨pa, ca, pb, cb, some ⟨g, 0, .none⟩, cc⟩ 30 := L5
        have R5 : Lv w5 (w.heap.size + 1) #[.slice none 0 0, .slice none 0 0, .slice none 0 0] 30 := hR.below b5
        have hgv5 : gv < w5.heap.size := Lv.lt L5
        have lw5 : w.heap.size + 1 < w5.heap.size := Lv.lt R5
        obtain ⟨c0, c1, c2⟩ := hv5.at
        clear hHeld o5a o5b o5c oa ob oc fa fb fc k5 L5 hv lv5
        go_wp2
        clear c0 c1 c2
        go_loopw [4, 22] (fun _ i wr => ∃ (n : Nat) (ys : List Tc), n ≤ 12 ∧ i = .int .i64 n ∧ Cw wr W.heap.size g n ⟨pa, ca, pb, cb, some ⟨g, 0, .none⟩, cc⟩ xs ys T ∧ Vw wr gv ⟨pa, ca, pb, cb, some ⟨g, 0, .none⟩, cc⟩ 30 ∧ Below w.heap.size w wr ∧ w5.heap.size ≤ wr.heap.size ∧ Lv wr (w.heap.size + 1) #[.slice none 0 0, .slice none 0 0, .slice none 0 0] 30) (fun _ i _ => 12 - (intOf i).toNat)
        case atStart => exact ⟨0, xs, Nat.zero_le _, rfl, ow5, hv5, bw5, Nat.le_refl _, R5⟩
        case round =>
          obtain ⟨n, ys, hn, rfl, hown, hvr, hbw, hle, hRr⟩ := hrel
          clear ow5 hv5 bw5 b5 R5
          by_cases hlt : n < 12
          · have hyl : n < ys.length := by rw [hown.len]; exact hlt
            have hxn : n < xs.length := by rw [HXL.out]; exact hlt
            have hXX : ys[n] = xs[n] := by
              have := hown.rest n (Nat.le_refl _)
              rw [List.getElem?_eq_getElem hyl, List.getElem?_eq_getElem hxn] at this
              simpa using this
            obtain ⟨b, o, e9, hb, hc⟩ := (own_rd hown.R).thing n hyl
            cases e9
            rw [Nat.zero_add] at hc
            obtain ⟨X, hX⟩ : ∃ X, ys[n] = X := ⟨_, rfl⟩
            rw [hX] at hc hXX
            have hTn : T.T.getD n th0 = T.T[n]'(by rw [HTL.out]; exact hlt) := by simp [List.getD_eq_getElem?_getD, HTL.out, hlt]
            have s1 := bel_self wr (.cells #[.int .i64 X.k, .int .i64 X.a, .int .i64 X.g, .int .i64 X.c, .int .i64 X.h, .slice X.lp X.ln X.lc, .slice X.wp X.wn X.wc, .int .u32 (X.b : Int), .slice X.fp X.fn X.fc, .int .u32 (X.s : Int)] 58)
            have hoX0 : Ok wr xs[n] (T.T.getD n th0) := by
              rw [hTn]
              exact (hts0.2 n hxn (by rw [HTL.out]; exact hlt)).below hbw
            rw [← hXX] at hoX0
            have hoX := hoX0.below s1
            obtain ⟨d0, d1, d2, d3, d4, d5, d6, d7, d8, d9⟩ := hc
            have hx5 : Vt (wr.alloc (.cells #[.int .i64 X.k, .int .i64 X.a, .int .i64 X.g, .int .i64 X.c, .int .i64 X.h, .slice X.lp X.ln X.lc, .slice X.wp X.wn X.wc, .int .u32 (X.b : Int), .slice X.fp X.fn X.fc, .int .u32 (X.s : Int)] 58)) wr.heap.size X 58 := Vt.new _ _ _
            have hv5 := hvr.below s1
            have hgvr : gv < wr.heap.size := hvr.lt
            have hgr : g < wr.heap.size := hb
            have hgr2 : wr.heap.size ≠ g := by omega
            have hnI : (n : Int) < 12 := by omega
            clear hXX hX hTn
            go_wp2
            refine wp_region_held_drew (S := fun w' => w'.heap[gv]? = (wr.alloc (.cells #[.int .i64 X.k, .int .i64 X.a, .int .i64 X.g, .int .i64 X.c, .int .i64 X.h, .slice X.lp X.ln X.lc, .slice X.wp X.wn X.wc, .int .u32 (X.b : Int), .slice X.fp X.fn X.fc, .int .u32 (X.s : Int)] 58)).heap[gv]? ∧ w'.heap[wr.heap.size]? = (wr.alloc (.cells #[.int .i64 X.k, .int .i64 X.a, .int .i64 X.g, .int .i64 X.c, .int .i64 X.h, .slice X.lp X.ln X.lc, .slice X.wp X.wn X.wc, .int .u32 (X.b : Int), .slice X.fp X.fn X.fc, .int .u32 (X.s : Int)] 58)).heap[wr.heap.size]?) (by kernel_rfl) ⟨rfl, rfl⟩ (fun hHeld => ?_)
            refine wpAnyH_take (i := 0) (oi := _) (v := ?_) rfl (by kernel_rfl) (by kernel_rfl) (by kernel_rfl) (fun _ _ _ h => h) (Or.inl ⟨by rfl, ?_⟩) hHeld ?_
            rotate_left
            · intro w' hSw
              (go_simp <;> with_reducible rfl)
            try simp only [Act.put, List.getElem_toArray, List.getElem_cons_zero, List.setIfInBounds_toArray, List.set_cons_zero, List.set_cons_succ]
            refine wpAnyH_take (i := 1) (oi := _) (v := ?_) rfl (by kernel_rfl) (by kernel_rfl) (by kernel_rfl) (fun _ _ _ h => h) (Or.inl ⟨by rfl, ?_⟩) hHeld ?_
            rotate_left
            · intro w' hSw
              obtain ⟨c0, c1, c2⟩ := Vw.at (show Vw w' gv _ 30 from hSw.1.trans hv5)
              obtain ⟨d0, d1, d2, d3, d4, d5, d6, d7, d8, d9⟩ := Vt.at (show Vt w' wr.heap.size X 58 from hSw.2.trans hx5)
              (go_simp <;> with_reducible rfl)
            try simp only [Act.put, List.getElem_toArray, List.getElem_cons_succ, List.getElem_cons_zero, List.setIfInBounds_toArray, List.set_cons_zero, List.set_cons_succ]
            refine wpAnyH_take (i := 2) (oi := _) (v := ?_) rfl (by kernel_rfl) (by kernel_rfl) (by kernel_rfl) (fun _ _ _ h => h) (Or.inl ⟨by rfl, ?_⟩) hHeld ?_
            rotate_left
            · intro w' hSw
              (go_simp <;> with_reducible rfl)
            try simp only [Act.put, List.getElem_toArray, List.getElem_cons_succ, List.getElem_cons_zero, List.setIfInBounds_toArray, List.set_cons_zero, List.set_cons_succ]
            refine wpAnyH_take (i := 3) (oi := _) (v := ?_) rfl (by kernel_rfl) (by kernel_rfl) (by kernel_rfl) (fun _ _ _ h => h) (Or.inl ⟨by rfl, ?_⟩) hHeld ?_
            rotate_left
            · intro w' hSw
              obtain ⟨c0, c1, c2⟩ := Vw.at (show Vw w' gv _ 30 from hSw.1.trans hv5)
              obtain ⟨d0, d1, d2, d3, d4, d5, d6, d7, d8, d9⟩ := Vt.at (show Vt w' wr.heap.size X 58 from hSw.2.trans hx5)
              (go_simp <;> with_reducible rfl)
            try simp only [Act.put, List.getElem_toArray, List.getElem_cons_succ, List.getElem_cons_zero, List.setIfInBounds_toArray, List.set_cons_zero, List.set_cons_succ]
            refine wpAnyH_ready (rs := [4]) (by kernel_rfl) (by simp) ?_
            refine AllReadyH.cons (o := _) rfl (fun K hK => ?_) (AllReadyH.nil)
            go_simp
            go_at_call 43; refine (copied_any X (T.T.getD n th0) _ (hoX.below (Below.refl _ _).drew)).mono ?_
            rintro e w6 ⟨p1, c1', p2, c2', p3, c3', rfl, q1, q2, q3, b6'⟩
            have b6 : Below (wr.alloc (.cells #[.int .i64 X.k, .int .i64 X.a, .int .i64 X.g, .int .i64 X.c, .int .i64 X.h, .slice X.lp X.ln X.lc, .slice X.wp X.wn X.wc, .int .u32 (X.b : Int), .slice X.fp X.fn X.fc, .int .u32 (X.s : Int)] 58)).heap.size (wr.alloc (.cells #[.int .i64 X.k, .int .i64 X.a, .int .i64 X.g, .int .i64 X.c, .int .i64 X.h, .slice X.lp X.ln X.lc, .slice X.wp X.wn X.wc, .int .u32 (X.b : Int), .slice X.fp X.fn X.fc, .int .u32 (X.s : Int)] 58)) w6 := (Below.refl _ _).drew.trans b6'
            refine hK.out _ _ ⟨b6.block gv (Nat.lt_of_lt_of_le hgvr s1.size), b6.block wr.heap.size hx5.lt⟩ (fun hHeld => ?_)
            clear hK K
            try simp only [Act.put, List.getElem_toArray, List.getElem_cons_succ, List.getElem_cons_zero, List.setIfInBounds_toArray, List.set_cons_zero, List.set_cons_succ]
            refine wpAnyH_take (i := 5) (oi := _) (v := ?_) rfl (by kernel_rfl) (by kernel_rfl) (by kernel_rfl) (fun _ _ _ h => h) (Or.inl ⟨by rfl, ?_⟩) hHeld ?_
            rotate_left
            · intro w' hSw
              (go_simp <;> with_reducible rfl)
            try simp only [Act.put, List.getElem_toArray, List.getElem_cons_succ, List.getElem_cons_zero, List.setIfInBounds_toArray, List.set_cons_zero, List.set_cons_succ]
            refine wpAnyH_ready (rs := [6]) (by kernel_rfl) (by simp) ?_
            refine AllReadyH.cons (o := _) rfl (fun K hK => ?_) (AllReadyH.nil)
            have ow6 := (hown.below s1).below b6
            obtain ⟨cs6, lv6⟩ := own_lv ow6.R
            refine step_stR (E := eT) rfl 58 _ _ rfl size58 W.heap.size g _ _ ow6.R n (by rw [ow6.len]; exact hlt) _ rfl ({ X with lp := p1, lc := c1', wp := p2, wc := c2', fp := p3, fc := c3' } : Tc) rfl rfl ?_
            intro w7 o7 k7
            refine hK.out _ _ ⟨(k7.block gv (Nat.lt_of_lt_of_le (Nat.lt_of_lt_of_le hgvr s1.size) b6.size) (by intro h; cases h; exact hgvg rfl)).trans hHeld.1, (k7.block wr.heap.size (Nat.lt_of_lt_of_le hx5.lt b6.size) (by intro h; cases h; exact Nat.lt_irrefl _ hgr)).trans hHeld.2⟩ (fun hHeld => ?_)
            clear hK K
            try simp only [Act.put, List.getElem_toArray, List.getElem_cons_succ, List.getElem_cons_zero]
            refine wpAnyH_done (by kernel_rfl) ?_ _
            have s6 := b6.size
            have lr := hbw.size
            have ls1 := s1.size
            have hdz : (wr.alloc (.cells #[.int .i64 X.k, .int .i64 X.a, .int .i64 X.g, .int .i64 X.c, .int .i64 X.h, .slice X.lp X.ln X.lc, .slice X.wp X.wn X.wc, .int .u32 (X.b : Int), .slice X.fp X.fn X.fc, .int .u32 (X.s : Int)] 58)).drew.heap.size = (wr.alloc (.cells #[.int .i64 X.k, .int .i64 X.a, .int .i64 X.g, .int .i64 X.c, .int .i64 X.h, .slice X.lp X.ln X.lc, .slice X.wp X.wn X.wc, .int .u32 (X.b : Int), .slice X.fp X.fn X.fc, .int .u32 (X.s : Int)] 58)).heap.size := rfl
            have okN : Ok w6 ({ X with lp := p1, lc := c1', wp := p2, wc := c2', fp := p3, fc := c3' } : Tc) (T.T.getD n th0) := { hoX.below b6 with L := own_rd q1, W := own_rd q2, F := own_rd q3 }
            have ntN : Nt W.heap.size g ({ X with lp := p1, lc := c1', wp := p2, wc := c2', fp := p3, fc := c3' } : Tc) := ⟨Nw.own q1 (by omega), Nw.own q2 (by omega), Nw.own q3 (by omega), Far.type q1 lv6 (by decide), Far.type q2 lv6 (by decide), Far.type q3 lv6 (by decide)⟩
            have lxN : Lx w6.heap.size ({ X with lp := p1, lc := c1', wp := p2, wc := c2', fp := p3, fc := c3' } : Tc) := ⟨fun b o e => by dsimp only at e; subst e; exact own_lt q1, fun b o e => by dsimp only at e; subst e; exact own_lt q2, fun b o e => by dsimp only at e; subst e; exact own_lt q3⟩
            have ow7 := ow6.put k7 o7 okN ntN lxN
            have hv7 : Vw w7 gv _ 30 := hHeld.1.trans hv5
            have B7 : Below w.heap.size w w7 := bel_kp (bel_call (hbw.alloc hbw.size _) (Nat.le_refl _) b6) k7 (by omega) (by omega)
            have hz7 : w5.heap.size ≤ w7.heap.size := by have := k7.size; omega
            have R7 := ((hRr.below s1).below b6).kp k7 (by omega)
            go_wp2
            go_roundw
            case rel => exact ⟨n + 1, _, by omega, by go_num, ow7, hv7, B7, hz7, R7⟩
            case measure => simp [intOf]; omega
          · have hn12 : n = 12 := by omega
            subst hn12
            have hf := hown.fin
            have hlx := hown.lx
            obtain ⟨c0, c1, c2⟩ := hvr.at
            go_wp2_with (refine wpList_stV (E := eTb) rfl 30 (.tmp 2) (.tmp 34) rfl size30 (w.heap.size + 1) _ hRr rfl (⟨pa, ca, pb, cb, some ⟨g, 0, .none⟩, cc⟩ : Tw) rfl rfl ?_; intro w9 L9 k9)
            have e9 := load30 L9
            have B9 : Below w.heap.size w w9 := bel_kp hbw k9 (by omega) hbw.size
            refine bodyPost_ret (v := .agg #[.slice pa 12 ca, .slice pb 12 cb, .slice (some ⟨g, 0, .none⟩) 12 cc]) (by simp [results, Try.results35, asAddr, e9]) rfl ⟨⟨pa, ca, pb, cb, some ⟨g, 0, .none⟩, cc⟩, rfl, ⟨g, ys, ?_⟩, B9⟩
            exact ⟨(hf.kp k9 (by omega)).mono (by omega), ⟨fun b o e => by have := la5 b o e; have := k9.size; omega, fun b o e => by have := lb5 b o e; have := k9.size; omega, fun X hX => (hlx X hX).mono k9.size⟩⟩
    · go_simp
      have bv' : Below wa.heap.size wa (wa.alloc (.cells #[.slice none 0 0, .slice none 0 0, .slice none 0 0] 30)) := bel_self _ _
      have hv : Lv (wa.alloc (.cells #[.slice none 0 0, .slice none 0 0, .slice none 0 0] 30)) wa.heap.size #[.slice none 0 0, .slice none 0 0, .slice none 0 0] 30 := Lv.new _ _ _
      have hgv : W.heap.size ≤ wa.heap.size := ba.size
      have bv : Below W.heap.size W (wa.alloc (.cells #[.slice none 0 0, .slice none 0 0, .slice none 0 0] 30)) := bel_call ba (Nat.le_refl _) bv'
      have oa := own_below oa bv'
      have hzv := bv'.size
      have hzvv : wa.heap.size < (wa.alloc (.cells #[.slice none 0 0, .slice none 0 0, .slice none 0 0] 30)).heap.size := hv.lt
      generalize hgW : (wa.alloc (.cells #[.slice none 0 0, .slice none 0 0, .slice none 0 0] 30)) = wv at *
      clear hgW
      obtain ⟨gv, hgvE⟩ : ∃ gv, gv = wa.heap.size := ⟨_, rfl⟩
      rw [← hgvE] at hv hgv hzvv
      try simp only [← hgvE]
      have HGV : Hid (gv = wa.heap.size) := hgvE
      clear hgvE
      refine hK.out _ _ bv (fun hHeld => ?_)
      clear hK K
      try simp only [Act.put, List.getElem_toArray, List.getElem_cons_succ, List.getElem_cons_zero, List.setIfInBounds_toArray, List.set_cons_zero, List.set_cons_succ]
      refine wpAnyH_ready (rs := [7]) (by kernel_rfl) (by simp) ?_
      refine AllReadyH.cons (o := _) rfl (fun K hK => ?_) (AllReadyH.nil)
      go_simp
      go_at_call 60; refine (cloneB _ _ _ _ _ (hT.I.below bv) HIL.out (by decide)).mono ?_
      rintro e wb ⟨pb, cb, rfl, ob, bb'⟩
      have bb : Below W.heap.size W wb := bel_call bv (Nat.le_refl _) bb'
      have hzb := bb'.size
      have oa := own_below oa bb'
      have hv := hv.below bb'
      refine hK.out _ _ bb (fun hHeld => ?_)
      clear hK K
      try simp only [Act.put, List.getElem_toArray, List.getElem_cons_succ, List.getElem_cons_zero, List.setIfInBounds_toArray, List.set_cons_zero, List.set_cons_succ]
      refine wpAnyH_take (i := 8) (oi := _) (v := ?_) rfl (by kernel_rfl) (by kernel_rfl) (by kernel_rfl) (fun _ _ _ h => h) (Or.inl ⟨by rfl, ?_⟩) hHeld ?_
      rotate_left
      · intro w' hSw
        (go_simp <;> with_reducible rfl)
      try simp only [Act.put, List.getElem_toArray, List.getElem_cons_succ, List.getElem_cons_zero, List.setIfInBounds_toArray, List.set_cons_zero, List.set_cons_succ]
      refine wpAnyH_ready (rs := [11]) (by kernel_rfl) (by simp) ?_
      refine AllReadyH.cons (o := _) rfl (fun K hK => ?_) (AllReadyH.nil)
      go_simp
      go_at_call 61; refine (cloneT _ _ _ _ _ (rX.below bb) HXL.out (by decide)).mono ?_
      rintro e wc ⟨pc, cc, rfl, oc, bc'⟩
      have bc : Below W.heap.size W wc := bel_call bb (Nat.le_refl _) bc'
      have hzc := bc'.size
      have oa := own_below oa bc'
      have ob := own_below ob bc'
      have hv := hv.below bc'
      refine hK.out _ _ bc (fun hHeld => ?_)
      clear hK K
      try simp only [Act.put, List.getElem_toArray, List.getElem_cons_succ, List.getElem_cons_zero, List.setIfInBounds_toArray, List.set_cons_zero, List.set_cons_succ]
      refine wpAnyH_take (i := 12) (oi := _) (v := ?_) rfl (by kernel_rfl) (by kernel_rfl) (by kernel_rfl) (fun _ _ _ h => h) (Or.inl ⟨by rfl, ?_⟩) hHeld ?_
      rotate_left
      · intro w' hSw
        (go_simp <;> with_reducible rfl)
      try simp only [Act.put, List.getElem_toArray, List.getElem_cons_succ, List.getElem_cons_zero, List.setIfInBounds_toArray, List.set_cons_zero, List.set_cons_succ]
      refine wpAnyH_ready (rs := [14]) (by kernel_rfl) (by simp) ?_
      refine AllReadyH.cons (o := _) rfl (fun K hK => ?_) (AllReadyH.nil)
      refine step_stV (E := eTb) rfl 30 _ _ rfl size30 gv _ hv rfl (⟨pa, ca, pb, cb, pc, cc⟩ : Tw) rfl rfl ?_
      intro w5 L5 k5
      have fa : Far pa gv := Far.type oa hv (by decide)
      have fb : Far pb gv := Far.type ob hv (by decide)
      have fc : Far pc gv := Far.type oc hv (by decide)
      have o5a := own_block_eq (w' := w5) oa (fun b o e => k5.block b (by subst e; exact own_lt oa) (by intro h; cases h; exact fa gv o e rfl))
      have o5b := own_block_eq (w' := w5) ob (fun b o e => k5.block b (by subst e; exact own_lt ob) (by intro h; cases h; exact fb gv o e rfl))
      have o5c := own_block_eq (w' := w5) oc (fun b o e => k5.block b (by subst e; exact own_lt oc) (by intro h; cases h; exact fc gv o e rfl))
      have b5 : Below W.heap.size W w5 := bel_kp bc k5 hgv bc.size
      refine hK.out _ _ b5 (fun hHeld => ?_)
      clear hK K
      try simp only [Act.put, List.getElem_toArray, List.getElem_cons_succ, List.getElem_cons_zero]
      refine wpAnyH_done (by kernel_rfl) ?_ _
      obtain ⟨g, hg⟩ : ∃ g, pc = some ⟨g, 0, .none⟩ := own_some o5c (by rw [HXL.out]; decide)
      subst hg
      have hgvg : gv ≠ g := fun h => fc g 0 rfl h.symm
      have lg : g < w5.heap.size := own_lt o5c
      obtain ⟨cs5, lv5⟩ := own_lv o5c
      have ge := own_ge o5c
      have la5 : ∀ b o, pa = some ⟨b, o, .none⟩ → b < w5.heap.size := fun b o e => by subst e; exact own_lt o5a
      have lb5 : ∀ b o, pb = some ⟨b, o, .none⟩ → b < w5.heap.size := fun b o e => by subst e; exact own_lt o5b
      have hz5 := k5.size
      have bw5 : Below w.heap.size w w5 := bel_call bW (Nat.le_refl _) b5
      have ow5 : Cw w5 W.heap.size g 0 ⟨pa, ca, pb, cb, some ⟨g, 0, .none⟩, cc⟩ xs xs T := ⟨rfl, own_rd o5a, own_rd o5b, Nw.own o5a (by omega), Nw.own o5b (by omega), Far.type o5a lv5 (by decide), Far.type o5b lv5 (by decide), own_mono o5c (by omega), HXL.out, fun i _ _ h => by omega, fun _ _ => rfl, HGL.out, HIL.out, HTL.out⟩
      have hv5 : Vw w5 gv ⟨pa, ca, pb, cb, some ⟨g, 0, .none⟩, cc⟩ 30 := L5
      have R5 : Lv w5 (w.heap.size + 1) #[.slice none 0 0, .slice none 0 0, .slice none 0 0] 30 := hR.below b5
      have hgv5 : gv < w5.heap.size := Lv.lt L5
      have lw5 : w.heap.size + 1 < w5.heap.size := Lv.lt R5
      obtain ⟨c0, c1, c2⟩ := hv5.at
      clear hHeld o5a o5b o5c oa ob oc fa fb fc k5 L5 hv lv5
      go_wp2
      clear c0 c1 c2
      go_loopw [4, 22] (fun _ i wr => ∃ (n : Nat) (ys : List Tc), n ≤ 12 ∧ i = .int .i64 n ∧ Cw wr W.heap.size g n ⟨pa, ca, pb, cb, some ⟨g, 0, .none⟩, cc⟩ xs ys T ∧ Vw wr gv ⟨pa, ca, pb, cb, some ⟨g, 0, .none⟩, cc⟩ 30 ∧ Below w.heap.size w wr ∧ w5.heap.size ≤ wr.heap.size ∧ Lv wr (w.heap.size + 1) #[.slice none 0 0, .slice none 0 0, .slice none 0 0] 30) (fun _ i _ => 12 - (intOf i).toNat)
      case atStart => exact ⟨0, xs, Nat.zero_le _, rfl, ow5, hv5, bw5, Nat.le_refl _, R5⟩
      case round =>
        obtain ⟨n, ys, hn, rfl, hown, hvr, hbw, hle, hRr⟩ := hrel
        clear ow5 hv5 bw5 b5 R5
        by_cases hlt : n < 12
        · have hyl : n < ys.length := by rw [hown.len]; exact hlt
          have hxn : n < xs.length := by rw [HXL.out]; exact hlt
          have hXX : ys[n] = xs[n] := by
            have := hown.rest n (Nat.le_refl _)
            rw [List.getElem?_eq_getElem hyl, List.getElem?_eq_getElem hxn] at this
            simpa using this
          obtain ⟨b, o, e9, hb, hc⟩ := (own_rd hown.R).thing n hyl
          cases e9
          rw [Nat.zero_add] at hc
          obtain ⟨X, hX⟩ : ∃ X, ys[n] = X := ⟨_, rfl⟩
          rw [hX] at hc hXX
          have hTn : T.T.getD n th0 = T.T[n]'(by rw [HTL.out]; exact hlt) := by simp [List.getD_eq_getElem?_getD, HTL.out, hlt]
          have s1 := bel_self wr (.cells #[.int .i64 X.k, .int .i64 X.a, .int .i64 X.g, .int .i64 X.c, .int .i64 X.h, .slice X.lp X.ln X.lc, .slice X.wp X.wn X.wc, .int .u32 (X.b : Int), .slice X.fp X.fn X.fc, .int .u32 (X.s : Int)] 58)
          have hoX0 : Ok wr xs[n] (T.T.getD n th0) := by
            rw [hTn]
            exact (hts0.2 n hxn (by rw [HTL.out]; exact hlt)).below hbw
          rw [← hXX] at hoX0
          have hoX := hoX0.below s1
          obtain ⟨d0, d1, d2, d3, d4, d5, d6, d7, d8, d9⟩ := hc
          have hx5 : Vt (wr.alloc (.cells #[.int .i64 X.k, .int .i64 X.a, .int .i64 X.g, .int .i64 X.c, .int .i64 X.h, .slice X.lp X.ln X.lc, .slice X.wp X.wn X.wc, .int .u32 (X.b : Int), .slice X.fp X.fn X.fc, .int .u32 (X.s : Int)] 58)) wr.heap.size X 58 := Vt.new _ _ _
          have hv5 := hvr.below s1
          have hgvr : gv < wr.heap.size := hvr.lt
          have hgr : g < wr.heap.size := hb
          have hgr2 : wr.heap.size ≠ g := by omega
          have hnI : (n : Int) < 12 := by omega
          clear hXX hX hTn
          go_wp2
          refine wp_region_held_drew (S := fun w' => w'.heap[gv]? = (wr.alloc (.cells #[.int .i64 X.k, .int .i64 X.a, .int .i64 X.g, .int .i64 X.c, .int .i64 X.h, .slice X.lp X.ln X.lc, .slice X.wp X.wn X.wc, .int .u32 (X.b : Int), .slice X.fp X.fn X.fc, .int .u32 (X.s : Int)] 58)).heap[gv]? ∧ w'.heap[wr.heap.size]? = (wr.alloc (.cells #[.int .i64 X.k, .int .i64 X.a, .int .i64 X.g, .int .i64 X.c, .int .i64 X.h, .slice X.lp X.ln X.lc, .slice X.wp X.wn X.wc, .int .u32 (X.b : Int), .slice X.fp X.fn X.fc, .int .u32 (X.s : Int)] 58)).heap[wr.heap.size]?) (by kernel_rfl) ⟨rfl, rfl⟩ (fun hHeld => ?_)
          refine wpAnyH_take (i := 0) (oi := _) (v := ?_) rfl (by kernel_rfl) (by kernel_rfl) (by kernel_rfl) (fun _ _ _ h => h) (Or.inl ⟨by rfl, ?_⟩) hHeld ?_
          rotate_left
          · intro w' hSw
            (go_simp <;> with_reducible rfl)
          try simp only [Act.put, List.getElem_toArray, List.getElem_cons_zero, List.setIfInBounds_toArray, List.set_cons_zero, List.set_cons_succ]
          refine wpAnyH_take (i := 1) (oi := _) (v := ?_) rfl (by kernel_rfl) (by kernel_rfl) (by kernel_rfl) (fun _ _ _ h => h) (Or.inl ⟨by rfl, ?_⟩) hHeld ?_
          rotate_left
          · intro w' hSw
            obtain ⟨c0, c1, c2⟩ := Vw.at (show Vw w' gv _ 30 from hSw.1.trans hv5)
            obtain ⟨d0, d1, d2, d3, d4, d5, d6, d7, d8, d9⟩ := Vt.at (show Vt w' wr.heap.size X 58 from hSw.2.trans hx5)
            (go_simp <;> with_reducible rfl)
          try simp only [Act.put, List.getElem_toArray, List.getElem_cons_succ, List.getElem_cons_zero, List.setIfInBounds_toArray, List.set_cons_zero, List.set_cons_succ]
          refine wpAnyH_take (i := 2) (oi := _) (v := ?_) rfl (by kernel_rfl) (by kernel_rfl) (by kernel_rfl) (fun _ _ _ h => h) (Or.inl ⟨by rfl, ?_⟩) hHeld ?_
          rotate_left
          · intro w' hSw
            (go_simp <;> with_reducible rfl)
          try simp only [Act.put, List.getElem_toArray, List.getElem_cons_succ, List.getElem_cons_zero, List.setIfInBounds_toArray, List.set_cons_zero, List.set_cons_succ]
          refine wpAnyH_take (i := 3) (oi := _) (v := ?_) rfl (by kernel_rfl) (by kernel_rfl) (by kernel_rfl) (fun _ _ _ h => h) (Or.inl ⟨by rfl, ?_⟩) hHeld ?_
          rotate_left
          · intro w' hSw
            obtain ⟨c0, c1, c2⟩ := Vw.at (show Vw w' gv _ 30 from hSw.1.trans hv5)
            obtain ⟨d0, d1, d2, d3, d4, d5, d6, d7, d8, d9⟩ := Vt.at (show Vt w' wr.heap.size X 58 from hSw.2.trans hx5)
            (go_simp <;> with_reducible rfl)
          try simp only [Act.put, List.getElem_toArray, List.getElem_cons_succ, List.getElem_cons_zero, List.setIfInBounds_toArray, List.set_cons_zero, List.set_cons_succ]
          refine wpAnyH_ready (rs := [4]) (by kernel_rfl) (by simp) ?_
          refine AllReadyH.cons (o := _) rfl (fun K hK => ?_) (AllReadyH.nil)
          go_simp
          go_at_call 43; refine (copied_any X (T.T.getD n th0) _ (hoX.below (Below.refl _ _).drew)).mono ?_
          rintro e w6 ⟨p1, c1', p2, c2', p3, c3', rfl, q1, q2, q3, b6'⟩
          have b6 : Below (wr.alloc (.cells #[.int .i64 X.k, .int .i64 X.a, .int .i64 X.g, .int .i64 X.c, .int .i64 X.h, .slice X.lp X.ln X.lc, .slice X.wp X.wn X.wc, .int .u32 (X.b : Int), .slice X.fp X.fn X.fc, .int .u32 (X.s : Int)] 58)).heap.size (wr.alloc (.cells #[.int .i64 X.k, .int .i64 X.a, .int .i64 X.g, .int .i64 X.c, .int .i64 X.h, .slice X.lp X.ln X.lc, .slice X.wp X.wn X.wc, .int .u32 (X.b : Int), .slice X.fp X.fn X.fc, .int .u32 (X.s : Int)] 58)) w6 := (Below.refl _ _).drew.trans b6'
          refine hK.out _ _ ⟨b6.block gv (Nat.lt_of_lt_of_le hgvr s1.size), b6.block wr.heap.size hx5.lt⟩ (fun hHeld => ?_)
          clear hK K
          try simp only [Act.put, List.getElem_toArray, List.getElem_cons_succ, List.getElem_cons_zero, List.setIfInBounds_toArray, List.set_cons_zero, List.set_cons_succ]
          refine wpAnyH_take (i := 5) (oi := _) (v := ?_) rfl (by kernel_rfl) (by kernel_rfl) (by kernel_rfl) (fun _ _ _ h => h) (Or.inl ⟨by rfl, ?_⟩) hHeld ?_
          rotate_left
          · intro w' hSw
            (go_simp <;> with_reducible rfl)
          try simp only [Act.put, List.getElem_toArray, List.getElem_cons_succ, List.getElem_cons_zero, List.setIfInBounds_toArray, List.set_cons_zero, List.set_cons_succ]
          refine wpAnyH_ready (rs := [6]) (by kernel_rfl) (by simp) ?_
          refine AllReadyH.cons (o := _) rfl (fun K hK => ?_) (AllReadyH.nil)
          have ow6 := (hown.below s1).below b6
          obtain ⟨cs6, lv6⟩ := own_lv ow6.R
          refine step_stR (E := eT) rfl 58 _ _ rfl size58 W.heap.size g _ _ ow6.R n (by rw [ow6.len]; exact hlt) _ rfl ({ X with lp := p1, lc := c1', wp := p2, wc := c2', fp := p3, fc := c3' } : Tc) rfl rfl ?_
          intro w7 o7 k7
          refine hK.out _ _ ⟨(k7.block gv (Nat.lt_of_lt_of_le (Nat.lt_of_lt_of_le hgvr s1.size) b6.size) (by intro h; cases h; exact hgvg rfl)).trans hHeld.1, (k7.block wr.heap.size (Nat.lt_of_lt_of_le hx5.lt b6.size) (by intro h; cases h; exact Nat.lt_irrefl _ hgr)).trans hHeld.2⟩ (fun hHeld => ?_)
          clear hK K
          try simp only [Act.put, List.getElem_toArray, List.getElem_cons_succ, List.getElem_cons_zero]
          refine wpAnyH_done (by kernel_rfl) ?_ _
          have s6 := b6.size
          have lr := hbw.size
          have ls1 := s1.size
          have hdz : (wr.alloc (.cells #[.int .i64 X.k, .int .i64 X.a, .int .i64 X.g, .int .i64 X.c, .int .i64 X.h, .slice X.lp X.ln X.lc, .slice X.wp X.wn X.wc, .int .u32 (X.b : Int), .slice X.fp X.fn X.fc, .int .u32 (X.s : Int)] 58)).drew.heap.size = (wr.alloc (.cells #[.int .i64 X.k, .int .i64 X.a, .int .i64 X.g, .int .i64 X.c, .int .i64 X.h, .slice X.lp X.ln X.lc, .slice X.wp X.wn X.wc, .int .u32 (X.b : Int), .slice X.fp X.fn X.fc, .int .u32 (X.s : Int)] 58)).heap.size := rfl
          have okN : Ok w6 ({ X with lp := p1, lc := c1', wp := p2, wc := c2', fp := p3, fc := c3' } : Tc) (T.T.getD n th0) := { hoX.below b6 with L := own_rd q1, W := own_rd q2, F := own_rd q3 }
          have ntN : Nt W.heap.size g ({ X with lp := p1, lc := c1', wp := p2, wc := c2', fp := p3, fc := c3' } : Tc) := ⟨Nw.own q1 (by omega), Nw.own q2 (by omega), Nw.own q3 (by omega), Far.type q1 lv6 (by decide), Far.type q2 lv6 (by decide), Far.type q3 lv6 (by decide)⟩
          have lxN : Lx w6.heap.size ({ X with lp := p1, lc := c1', wp := p2, wc := c2', fp := p3, fc := c3' } : Tc) := ⟨fun b o e => by dsimp only at e; subst e; exact own_lt q1, fun b o e => by dsimp only at e; subst e; exact own_lt q2, fun b o e => by dsimp only at e; subst e; exact own_lt q3⟩
          have ow7 := ow6.put k7 o7 okN ntN lxN
          have hv7 : Vw w7 gv _ 30 := hHeld.1.trans hv5
          have B7 : Below w.heap.size w w7 := bel_kp (bel_call (hbw.alloc hbw.size _) (Nat.le_refl _) b6) k7 (by omega) (by omega)
          have hz7 : w5.heap.size ≤ w7.heap.size := by have := k7.size; omega
          have R7 := ((hRr.below s1).below b6).kp k7 (by omega)
          go_wp2
          go_roundw
          case rel => exact ⟨n + 1, _, by omega, by go_num, ow7, hv7, B7, hz7, R7⟩
          case measure => simp [intOf]; omega
        · have hn12 : n = 12 := by omega
          subst hn12
          have hf := hown.fin
          have hlx := hown.lx
          obtain ⟨c0, c1, c2⟩ := hvr.at
          go_wp2_with (refine wpList_stV (E := eTb) rfl 30 (.tmp 2) (.tmp 34) rfl size30 (w.heap.size + 1) _ hRr rfl (⟨pa, ca, pb, cb, some ⟨g, 0, .none⟩, cc⟩ : Tw) rfl rfl ?_; intro w9 L9 k9)
          have e9 := load30 L9
          have B9 : Below w.heap.size w w9 := bel_kp hbw k9 (by omega) hbw.size
          refine bodyPost_ret (v := .agg #[.slice pa 12 ca, .slice pb 12 cb, .slice (some ⟨g, 0, .none⟩) 12 cc]) (by simp [results, Try.results35, asAddr, e9]) rfl ⟨⟨pa, ca, pb, cb, some ⟨g, 0, .none⟩, cc⟩, rfl, ⟨g, ys, ?_⟩, B9⟩
          exact ⟨(hf.kp k9 (by omega)).mono (by omega), ⟨fun b o e => by have := la5 b o e; have := k9.size; omega, fun b o e => by have := lb5 b o e; have := k9.size; omega, fun X hX => (hlx X hX).mono k9.size⟩⟩
  · go_simp
    have bv' : Below W.heap.size W (W.alloc (.cells #[.slice none 0 0, .slice none 0 0, .slice none 0 0] 30)).drew := (bel_self _ _).drew
    have hv : Lv (W.alloc (.cells #[.slice none 0 0, .slice none 0 0, .slice none 0 0] 30)).drew W.heap.size #[.slice none 0 0, .slice none 0 0, .slice none 0 0] 30 := Lv.draw (Lv.new _ _ _)
    have hgv : W.heap.size ≤ W.heap.size := Nat.le_refl _
    have bv : Below W.heap.size W (W.alloc (.cells #[.slice none 0 0, .slice none 0 0, .slice none 0 0] 30)).drew := bv'
    have hzv := bv'.size
    have hzvv : W.heap.size < (W.alloc (.cells #[.slice none 0 0, .slice none 0 0, .slice none 0 0] 30)).drew.heap.size := hv.lt
    generalize hgW : (W.alloc (.cells #[.slice none 0 0, .slice none 0 0, .slice none 0 0] 30)).drew = wv at *
    clear hgW
    obtain ⟨gv, hgvE⟩ : ∃ gv, gv = W.heap.size := ⟨_, rfl⟩
    rw [← hgvE] at hv hzvv
    clear hgv
    have hgv : W.heap.size ≤ gv := by rw [hgvE]; exact Nat.le_refl _
    have hgvF : w.heap.size + 2 = gv := by rw [hgvE]; exact hsz.symm
    try simp only [hgvF]
    clear hgvF
    have HGV : Hid (gv = W.heap.size) := hgvE
    clear hgvE
    refine hK.out _ _ bv (fun hHeld => ?_)
    clear hK K
    try simp only [Act.put, List.getElem_toArray, List.getElem_cons_succ, List.getElem_cons_zero, List.setIfInBounds_toArray, List.set_cons_zero, List.set_cons_succ]
    refine wpAnyH_ready (rs := [3]) (by kernel_rfl) (by simp) ?_
    refine AllReadyH.cons (o := _) rfl (fun K hK => ?_) (AllReadyH.nil)
    go_simp
    go_at_call 59; refine (cloneI _ _ _ _ _ (hT.G.below bv) HGL.out (by decide)).mono ?_
    rintro e wa ⟨pa, ca, rfl, oa, ba'⟩
    have ba : Below W.heap.size W wa := bel_call bv (Nat.le_refl _) ba'
    have hza := ba'.size
    have hv := hv.below ba'
    refine hK.out _ _ ba (fun hHeld => ?_)
    clear hK K
    try simp only [Act.put, List.getElem_toArray, List.getElem_cons_succ, List.getElem_cons_zero, List.setIfInBounds_toArray, List.set_cons_zero, List.set_cons_succ]
    refine wpAnyH_ready (rs := [7]) (by kernel_rfl) (by simp) ?_
    refine AllReadyH.cons (o := _) rfl (fun K hK => ?_) (AllReadyH.nil)
    go_simp
    go_at_call 60; refine (cloneB _ _ _ _ _ (hT.I.below ba) HIL.out (by decide)).mono ?_
    rintro e wb ⟨pb, cb, rfl, ob, bb'⟩
    have bb : Below W.heap.size W wb := bel_call ba (Nat.le_refl _) bb'
    have hzb := bb'.size
    have oa := own_below oa bb'
    have hv := hv.below bb'
    refine hK.out _ _ bb (fun hHeld => ?_)
    clear hK K
    try simp only [Act.put, List.getElem_toArray, List.getElem_cons_succ, List.getElem_cons_zero, List.setIfInBounds_toArray, List.set_cons_zero, List.set_cons_succ]
    refine wpAnyH_take (i := 8) (oi := _) (v := ?_) rfl (by kernel_rfl) (by kernel_rfl) (by kernel_rfl) (fun _ _ _ h => h) (Or.inl ⟨by rfl, ?_⟩) hHeld ?_
    rotate_left
    · intro w' hSw
      (go_simp <;> with_reducible rfl)
    try simp only [Act.put, List.getElem_toArray, List.getElem_cons_succ, List.getElem_cons_zero, List.setIfInBounds_toArray, List.set_cons_zero, List.set_cons_succ]
    refine wpAnyH_ready (rs := [11]) (by kernel_rfl) (by simp) ?_
    refine AllReadyH.cons (o := _) rfl (fun K hK => ?_) (AllReadyH.nil)
    go_simp
    go_at_call 61; refine (cloneT _ _ _ _ _ (rX.below bb) HXL.out (by decide)).mono ?_
    rintro e wc ⟨pc, cc, rfl, oc, bc'⟩
    have bc : Below W.heap.size W wc := bel_call bb (Nat.le_refl _) bc'
    have hzc := bc'.size
    have oa := own_below oa bc'
    have ob := own_below ob bc'
    have hv := hv.below bc'
    refine hK.out _ _ bc (fun hHeld => ?_)
    clear hK K
    try simp only [Act.put, List.getElem_toArray, List.getElem_cons_succ, List.getElem_cons_zero, List.setIfInBounds_toArray, List.set_cons_zero, List.set_cons_succ]
    refine wpAnyH_take (i := 12) (oi := _) (v := ?_) rfl (by kernel_rfl) (by kernel_rfl) (by kernel_rfl) (fun _ _ _ h => h) (Or.inl ⟨by rfl, ?_⟩) hHeld ?_
    rotate_left
    · intro w' hSw
      (go_simp <;> with_reducible rfl)
    try simp only [Act.put, List.getElem_toArray, List.getElem_cons_succ, List.getElem_cons_zero, List.setIfInBounds_toArray, List.set_cons_zero, List.set_cons_succ]
    refine wpAnyH_ready (rs := [14]) (by kernel_rfl) (by simp) ?_
    refine AllReadyH.cons (o := _) rfl (fun K hK => ?_) (AllReadyH.nil)
    refine step_stV (E := eTb) rfl 30 _ _ rfl size30 gv _ hv rfl (⟨pa, ca, pb, cb, pc, cc⟩ : Tw) rfl rfl ?_
    intro w5 L5 k5
    have fa : Far pa gv := Far.type oa hv (by decide)
    have fb : Far pb gv := Far.type ob hv (by decide)
    have fc : Far pc gv := Far.type oc hv (by decide)
    have o5a := own_block_eq (w' := w5) oa (fun b o e => k5.block b (by subst e; exact own_lt oa) (by intro h; cases h; exact fa gv o e rfl))
    have o5b := own_block_eq (w' := w5) ob (fun b o e => k5.block b (by subst e; exact own_lt ob) (by intro h; cases h; exact fb gv o e rfl))
    have o5c := own_block_eq (w' := w5) oc (fun b o e => k5.block b (by subst e; exact own_lt oc) (by intro h; cases h; exact fc gv o e rfl))
    have b5 : Below W.heap.size W w5 := bel_kp bc k5 hgv bc.size
    refine hK.out _ _ b5 (fun hHeld => ?_)
    clear hK K
    try simp only [Act.put, List.getElem_toArray, List.getElem_cons_succ, List.getElem_cons_zero]
    refine wpAnyH_done (by kernel_rfl) ?_ _
    obtain ⟨g, hg⟩ : ∃ g, pc = some ⟨g, 0, .none⟩ := own_some o5c (by rw [HXL.out]; decide)
    subst hg
    have hgvg : gv ≠ g := fun h => fc g 0 rfl h.symm
    have lg : g < w5.heap.size := own_lt o5c
    obtain ⟨cs5, lv5⟩ := own_lv o5c
    have ge := own_ge o5c
    have la5 : ∀ b o, pa = some ⟨b, o, .none⟩ → b < w5.heap.size := fun b o e => by subst e; exact own_lt o5a
    have lb5 : ∀ b o, pb = some ⟨b, o, .none⟩ → b < w5.heap.size := fun b o e => by subst e; exact own_lt o5b
    have hz5 := k5.size
    have bw5 : Below w.heap.size w w5 := bel_call bW (Nat.le_refl _) b5
    have ow5 : Cw w5 W.heap.size g 0 ⟨pa, ca, pb, cb, some ⟨g, 0, .none⟩, cc⟩ xs xs T := ⟨rfl, own_rd o5a, own_rd o5b, Nw.own o5a (by omega), Nw.own o5b (by omega), Far.type o5a lv5 (by decide), Far.type o5b lv5 (by decide), own_mono o5c (by omega), HXL.out, fun i _ _ h => by omega, fun _ _ => rfl, HGL.out, HIL.out, HTL.out⟩
    have hv5 : Vw w5 gv ⟨pa, ca, pb, cb, some ⟨g, 0, .none⟩, cc⟩ 30 := L5
    have R5 : Lv w5 (w.heap.size + 1) #[.slice none 0 0, .slice none 0 0, .slice none 0 0] 30 := hR.below b5
    have hgv5 : gv < w5.heap.size := Lv.lt L5
    have lw5 : w.heap.size + 1 < w5.heap.size := Lv.lt R5
    obtain ⟨c0, c1, c2⟩ := hv5.at
    clear hHeld o5a o5b o5c oa ob oc fa fb fc k5 L5 hv lv5
    go_wp2
    clear c0 c1 c2
    go_loopw [4, 22] (fun _ i wr => ∃ (n : Nat) (ys : List Tc), n ≤ 12 ∧ i = .int .i64 n ∧ Cw wr W.heap.size g n ⟨pa, ca, pb, cb, some ⟨g, 0, .none⟩, cc⟩ xs ys T ∧ Vw wr gv ⟨pa, ca, pb, cb, some ⟨g, 0, .none⟩, cc⟩ 30 ∧ Below w.heap.size w wr ∧ w5.heap.size ≤ wr.heap.size ∧ Lv wr (w.heap.size + 1) #[.slice none 0 0, .slice none 0 0, .slice none 0 0] 30) (fun _ i _ => 12 - (intOf i).toNat)
    case atStart => exact ⟨0, xs, Nat.zero_le _, rfl, ow5, hv5, bw5, Nat.le_refl _, R5⟩
    case round =>
      obtain ⟨n, ys, hn, rfl, hown, hvr, hbw, hle, hRr⟩ := hrel
      clear ow5 hv5 bw5 b5 R5
      by_cases hlt : n < 12
      · have hyl : n < ys.length := by rw [hown.len]; exact hlt
        have hxn : n < xs.length := by rw [HXL.out]; exact hlt
        have hXX : ys[n] = xs[n] := by
          have := hown.rest n (Nat.le_refl _)
          rw [List.getElem?_eq_getElem hyl, List.getElem?_eq_getElem hxn] at this
          simpa using this
        obtain ⟨b, o, e9, hb, hc⟩ := (own_rd hown.R).thing n hyl
        cases e9
        rw [Nat.zero_add] at hc
        obtain ⟨X, hX⟩ : ∃ X, ys[n] = X := ⟨_, rfl⟩
        rw [hX] at hc hXX
        have hTn : T.T.getD n th0 = T.T[n]'(by rw [HTL.out]; exact hlt) := by simp [List.getD_eq_getElem?_getD, HTL.out, hlt]
        have s1 := bel_self wr (.cells #[.int .i64 X.k, .int .i64 X.a, .int .i64 X.g, .int .i64 X.c, .int .i64 X.h, .slice X.lp X.ln X.lc, .slice X.wp X.wn X.wc, .int .u32 (X.b : Int), .slice X.fp X.fn X.fc, .int .u32 (X.s : Int)] 58)
        have hoX0 : Ok wr xs[n] (T.T.getD n th0) := by
          rw [hTn]
          exact (hts0.2 n hxn (by rw [HTL.out]; exact hlt)).below hbw
        rw [← hXX] at hoX0
        have hoX := hoX0.below s1
        obtain ⟨d0, d1, d2, d3, d4, d5, d6, d7, d8, d9⟩ := hc
        have hx5 : Vt (wr.alloc (.cells #[.int .i64 X.k, .int .i64 X.a, .int .i64 X.g, .int .i64 X.c, .int .i64 X.h, .slice X.lp X.ln X.lc, .slice X.wp X.wn X.wc, .int .u32 (X.b : Int), .slice X.fp X.fn X.fc, .int .u32 (X.s : Int)] 58)) wr.heap.size X 58 := Vt.new _ _ _
        have hv5 := hvr.below s1
        have hgvr : gv < wr.heap.size := hvr.lt
        have hgr : g < wr.heap.size := hb
        have hgr2 : wr.heap.size ≠ g := by omega
        have hnI : (n : Int) < 12 := by omega
        clear hXX hX hTn
        go_wp2
        refine wp_region_held_drew (S := fun w' => w'.heap[gv]? = (wr.alloc (.cells #[.int .i64 X.k, .int .i64 X.a, .int .i64 X.g, .int .i64 X.c, .int .i64 X.h, .slice X.lp X.ln X.lc, .slice X.wp X.wn X.wc, .int .u32 (X.b : Int), .slice X.fp X.fn X.fc, .int .u32 (X.s : Int)] 58)).heap[gv]? ∧ w'.heap[wr.heap.size]? = (wr.alloc (.cells #[.int .i64 X.k, .int .i64 X.a, .int .i64 X.g, .int .i64 X.c, .int .i64 X.h, .slice X.lp X.ln X.lc, .slice X.wp X.wn X.wc, .int .u32 (X.b : Int), .slice X.fp X.fn X.fc, .int .u32 (X.s : Int)] 58)).heap[wr.heap.size]?) (by kernel_rfl) ⟨rfl, rfl⟩ (fun hHeld => ?_)
        refine wpAnyH_take (i := 0) (oi := _) (v := ?_) rfl (by kernel_rfl) (by kernel_rfl) (by kernel_rfl) (fun _ _ _ h => h) (Or.inl ⟨by rfl, ?_⟩) hHeld ?_
        rotate_left
        · intro w' hSw
          (go_simp <;> with_reducible rfl)
        try simp only [Act.put, List.getElem_toArray, List.getElem_cons_zero, List.setIfInBounds_toArray, List.set_cons_zero, List.set_cons_succ]
        refine wpAnyH_take (i := 1) (oi := _) (v := ?_) rfl (by kernel_rfl) (by kernel_rfl) (by kernel_rfl) (fun _ _ _ h => h) (Or.inl ⟨by rfl, ?_⟩) hHeld ?_
        rotate_left
        · intro w' hSw
          obtain ⟨c0, c1, c2⟩ := Vw.at (show Vw w' gv _ 30 from hSw.1.trans hv5)
          obtain ⟨d0, d1, d2, d3, d4, d5, d6, d7, d8, d9⟩ := Vt.at (show Vt w' wr.heap.size X 58 from hSw.2.trans hx5)
          (go_simp <;> with_reducible rfl)
        try simp only [Act.put, List.getElem_toArray, List.getElem_cons_succ, List.getElem_cons_zero, List.setIfInBounds_toArray, List.set_cons_zero, List.set_cons_succ]
        refine wpAnyH_take (i := 2) (oi := _) (v := ?_) rfl (by kernel_rfl) (by kernel_rfl) (by kernel_rfl) (fun _ _ _ h => h) (Or.inl ⟨by rfl, ?_⟩) hHeld ?_
        rotate_left
        · intro w' hSw
          (go_simp <;> with_reducible rfl)
        try simp only [Act.put, List.getElem_toArray, List.getElem_cons_succ, List.getElem_cons_zero, List.setIfInBounds_toArray, List.set_cons_zero, List.set_cons_succ]
        refine wpAnyH_take (i := 3) (oi := _) (v := ?_) rfl (by kernel_rfl) (by kernel_rfl) (by kernel_rfl) (fun _ _ _ h => h) (Or.inl ⟨by rfl, ?_⟩) hHeld ?_
        rotate_left
        · intro w' hSw
          obtain ⟨c0, c1, c2⟩ := Vw.at (show Vw w' gv _ 30 from hSw.1.trans hv5)
          obtain ⟨d0, d1, d2, d3, d4, d5, d6, d7, d8, d9⟩ := Vt.at (show Vt w' wr.heap.size X 58 from hSw.2.trans hx5)
          (go_simp <;> with_reducible rfl)
        try simp only [Act.put, List.getElem_toArray, List.getElem_cons_succ, List.getElem_cons_zero, List.setIfInBounds_toArray, List.set_cons_zero, List.set_cons_succ]
        refine wpAnyH_ready (rs := [4]) (by kernel_rfl) (by simp) ?_
        refine AllReadyH.cons (o := _) rfl (fun K hK => ?_) (AllReadyH.nil)
        go_simp
        go_at_call 43; refine (copied_any X (T.T.getD n th0) _ (hoX.below (Below.refl _ _).drew)).mono ?_
        rintro e w6 ⟨p1, c1', p2, c2', p3, c3', rfl, q1, q2, q3, b6'⟩
        have b6 : Below (wr.alloc (.cells #[.int .i64 X.k, .int .i64 X.a, .int .i64 X.g, .int .i64 X.c, .int .i64 X.h, .slice X.lp X.ln X.lc, .slice X.wp X.wn X.wc, .int .u32 (X.b : Int), .slice X.fp X.fn X.fc, .int .u32 (X.s : Int)] 58)).heap.size (wr.alloc (.cells #[.int .i64 X.k, .int .i64 X.a, .int .i64 X.g, .int .i64 X.c, .int .i64 X.h, .slice X.lp X.ln X.lc, .slice X.wp X.wn X.wc, .int .u32 (X.b : Int), .slice X.fp X.fn X.fc, .int .u32 (X.s : Int)] 58)) w6 := (Below.refl _ _).drew.trans b6'
        refine hK.out _ _ ⟨b6.block gv (Nat.lt_of_lt_of_le hgvr s1.size), b6.block wr.heap.size hx5.lt⟩ (fun hHeld => ?_)
        clear hK K
        try simp only [Act.put, List.getElem_toArray, List.getElem_cons_succ, List.getElem_cons_zero, List.setIfInBounds_toArray, List.set_cons_zero, List.set_cons_succ]
        refine wpAnyH_take (i := 5) (oi := _) (v := ?_) rfl (by kernel_rfl) (by kernel_rfl) (by kernel_rfl) (fun _ _ _ h => h) (Or.inl ⟨by rfl, ?_⟩) hHeld ?_
        rotate_left
        · intro w' hSw
          (go_simp <;> with_reducible rfl)
        try simp only [Act.put, List.getElem_toArray, List.getElem_cons_succ, List.getElem_cons_zero, List.setIfInBounds_toArray, List.set_cons_zero, List.set_cons_succ]
        refine wpAnyH_ready (rs := [6]) (by kernel_rfl) (by simp) ?_
        refine AllReadyH.cons (o := _) rfl (fun K hK => ?_) (AllReadyH.nil)
        have ow6 := (hown.below s1).below b6
        obtain ⟨cs6, lv6⟩ := own_lv ow6.R
        refine step_stR (E := eT) rfl 58 _ _ rfl size58 W.heap.size g _ _ ow6.R n (by rw [ow6.len]; exact hlt) _ rfl ({ X with lp := p1, lc := c1', wp := p2, wc := c2', fp := p3, fc := c3' } : Tc) rfl rfl ?_
        intro w7 o7 k7
        refine hK.out _ _ ⟨(k7.block gv (Nat.lt_of_lt_of_le (Nat.lt_of_lt_of_le hgvr s1.size) b6.size) (by intro h; cases h; exact hgvg rfl)).trans hHeld.1, (k7.block wr.heap.size (Nat.lt_of_lt_of_le hx5.lt b6.size) (by intro h; cases h; exact Nat.lt_irrefl _ hgr)).trans hHeld.2⟩ (fun hHeld => ?_)
        clear hK K
        try simp only [Act.put, List.getElem_toArray, List.getElem_cons_succ, List.getElem_cons_zero]
        refine wpAnyH_done (by kernel_rfl) ?_ _
        have s6 := b6.size
        have lr := hbw.size
        have ls1 := s1.size
        have hdz : (wr.alloc (.cells #[.int .i64 X.k, .int .i64 X.a, .int .i64 X.g, .int .i64 X.c, .int .i64 X.h, .slice X.lp X.ln X.lc, .slice X.wp X.wn X.wc, .int .u32 (X.b : Int), .slice X.fp X.fn X.fc, .int .u32 (X.s : Int)] 58)).drew.heap.size = (wr.alloc (.cells #[.int .i64 X.k, .int .i64 X.a, .int .i64 X.g, .int .i64 X.c, .int .i64 X.h, .slice X.lp X.ln X.lc, .slice X.wp X.wn X.wc, .int .u32 (X.b : Int), .slice X.fp X.fn X.fc, .int .u32 (X.s : Int)] 58)).heap.size := rfl
        have okN : Ok w6 ({ X with lp := p1, lc := c1', wp := p2, wc := c2', fp := p3, fc := c3' } : Tc) (T.T.getD n th0) := { hoX.below b6 with L := own_rd q1, W := own_rd q2, F := own_rd q3 }
        have ntN : Nt W.heap.size g ({ X with lp := p1, lc := c1', wp := p2, wc := c2', fp := p3, fc := c3' } : Tc) := ⟨Nw.own q1 (by omega), Nw.own q2 (by omega), Nw.own q3 (by omega), Far.type q1 lv6 (by decide), Far.type q2 lv6 (by decide), Far.type q3 lv6 (by decide)⟩
        have lxN : Lx w6.heap.size ({ X with lp := p1, lc := c1', wp := p2, wc := c2', fp := p3, fc := c3' } : Tc) := ⟨fun b o e => by dsimp only at e; subst e; exact own_lt q1, fun b o e => by dsimp only at e; subst e; exact own_lt q2, fun b o e => by dsimp only at e; subst e; exact own_lt q3⟩
        have ow7 := ow6.put k7 o7 okN ntN lxN
        have hv7 : Vw w7 gv _ 30 := hHeld.1.trans hv5
        have B7 : Below w.heap.size w w7 := bel_kp (bel_call (hbw.alloc hbw.size _) (Nat.le_refl _) b6) k7 (by omega) (by omega)
        have hz7 : w5.heap.size ≤ w7.heap.size := by have := k7.size; omega
        have R7 := ((hRr.below s1).below b6).kp k7 (by omega)
        go_wp2
        go_roundw
        case rel => exact ⟨n + 1, _, by omega, by go_num, ow7, hv7, B7, hz7, R7⟩
        case measure => simp [intOf]; omega
      · have hn12 : n = 12 := by omega
        subst hn12
        have hf := hown.fin
        have hlx := hown.lx
        obtain ⟨c0, c1, c2⟩ := hvr.at
        go_wp2_with (refine wpList_stV (E := eTb) rfl 30 (.tmp 2) (.tmp 34) rfl size30 (w.heap.size + 1) _ hRr rfl (⟨pa, ca, pb, cb, some ⟨g, 0, .none⟩, cc⟩ : Tw) rfl rfl ?_; intro w9 L9 k9)
        have e9 := load30 L9
        have B9 : Below w.heap.size w w9 := bel_kp hbw k9 (by omega) hbw.size
        refine bodyPost_ret (v := .agg #[.slice pa 12 ca, .slice pb 12 cb, .slice (some ⟨g, 0, .none⟩) 12 cc]) (by simp [results, Try.results35, asAddr, e9]) rfl ⟨⟨pa, ca, pb, cb, some ⟨g, 0, .none⟩, cc⟩, rfl, ⟨g, ys, ?_⟩, B9⟩
        exact ⟨(hf.kp k9 (by omega)).mono (by omega), ⟨fun b o e => by have := la5 b o e; have := k9.size; omega, fun b o e => by have := lb5 b o e; have := k9.size; omega, fun X hX => (hlx X hX).mono k9.size⟩⟩
theorem clone_any (x : Tw) (T : Tb) (w : World) (ht : Tr w x T) :
    Calls Try.prog 35 #[.agg #[.slice x.gp 12 x.gc, .slice x.ip 12 x.ic, .slice x.tp 12 x.tc]] w fun e w' => ∃ y : Tw, e = .returned (.agg #[.slice y.gp 12 y.gc, .slice y.ip 12 y.ic, .slice y.tp 12 y.tc]) ∧ (∃ (g : Nat) (xs : List Tc), Ow w' w.heap.size g y xs T) ∧ Below w.heap.size w w' := by
  refine (clone_lq x T w ht).mono ?_
  rintro e w' ⟨y, h1, ⟨g, xs, h2, _⟩, h3⟩
  exact ⟨y, h1, ⟨g, xs, h2⟩, h3⟩
end Go.Proofs.Ytcncpefdjgnhdaa
