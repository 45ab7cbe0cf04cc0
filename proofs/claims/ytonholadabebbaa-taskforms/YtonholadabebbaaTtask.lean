/-
  A made task.
-/
import Derived.Test.YtonholadabebbaaTbegun
import Derived.Test.YtonholadabebbaaMadez
namespace Go.Proofs.Ytonholadabebbaa
open Go.ChangeShapes Go.WideShapes Go.ChangeAt Go.RowKit
attribute [local go_sem ↓] Go.wp_at_zero Go.wp_at_succ

theorem own_in {α : Type} {E : Elt α} {w : World} {base : Nat} {e : TypeId} {p : Option Addr} {c : Nat} {l : List α} (h : Own E w base e p c l) : ∀ b o, p = some ⟨b, o, none⟩ → base ≤ b ∧ b < w.heap.size := by
  intro b o e
  subst e
  rcases h.2 with ⟨h1, _⟩ | ⟨g', cap, cur, h1, h2, h3, _⟩
  · simp at h1
  · simp only [Value.slice.injEq, Option.some.injEq, Addr.mk.injEq, and_true, true_and] at h1
    obtain ⟨⟨rfl, rfl⟩, _⟩ := h1
    exact ⟨h2, (Array.getElem?_eq_some_iff.1 h3).1⟩
def Apt (p : Option Addr) (g gr gt : Nat) : Prop := ∀ b o, p = some ⟨b, o, none⟩ → b ≠ g ∧ b ≠ gr ∧ b ≠ gt
/-- a task that is being made -/
structure Ts (w wr : World) (g gr gt : Nat) (r p e : Int) (mp : Option Addr) (mn mc : Nat) (wp : Option Addr) (wn wc : Nat) (op : Option Addr) (on oc : Nat) (M W O : List In) : Prop where
  T : Lv wr gt #[.int .i64 r, .int .i64 p, .int .i64 e, .slice mp mn mc, .slice wp wn wc, .slice op on oc] 24
  R : Lv wr gr #[.int .i64 0, .int .i64 0, .int .i64 0, .slice none 0 0, .slice none 0 0, .slice none 0 0] 24
  pk : Pk wr g
  kp : Kp g w wr
  rM : Rd eIn wr mp mc M
  rW : Rd eIn wr wp wc W
  rO : Rd eIn wr op oc O
  fM : Apt mp g gr gt
  fW : Apt wp g gr gt
  fO : Apt op g gr gt
  g1 : g < w.heap.size
  g2 : w.heap.size ≤ gr
  g3 : gr < gt
section
variable {w wr wx : World} {g gr gt : Nat} {r p e : Int} {mp : Option Addr} {mn mc : Nat} {wp : Option Addr} {wn wc : Nat} {op : Option Addr} {on oc : Nat} {M W O : List In}
theorem Ts.kpg (h : Ts w wr g gr gt r p e mp mn mc wp wn wc op on oc M W O) (hk : Kp g wr wx) (hp : Pk wx g) : Ts w wx g gr gt r p e mp mn mc wp wn wc op on oc M W O :=
  have h1 := h.g1; have h2 := h.g2; have h3 := h.g3
  { h with T := Lv.kp h.T hk (by omega), R := Lv.kp h.R hk (by omega), pk := hp, kp := h.kp.trans hk, rM := rd_kp h.rM hk (fun b o e _ => (h.fM b o e).1), rW := rd_kp h.rW hk (fun b o e _ => (h.fW b o e).1), rO := rd_kp h.rO hk (fun b o e _ => (h.fO b o e).1) }
theorem Ts.below (h : Ts w wr g gr gt r p e mp mn mc wp wn wc op on oc M W O) (hb : Below wr.heap.size wr wx) : Ts w wx g gr gt r p e mp mn mc wp wn wc op on oc M W O :=
  { h with T := Lv.below h.T hb, R := Lv.below h.R hb, pk := h.pk.below hb, kp := h.kp.trans (Kp.of_below hb), rM := h.rM.below hb, rW := h.rW.below hb, rO := h.rO.below hb }
/-- a field is set -/
theorem Ts.st (h : Ts w wr g gr gt r p e mp mn mc wp wn wc op on oc M W O) (j : Nat) (v : Value) {p' e' : Int} {wp' : Option Addr} {wn' wc' : Nat} {op' : Option Addr} {on' oc' : Nat} {W' O' : List In}
    (hc : (#[.int .i64 r, .int .i64 p, .int .i64 e, .slice mp mn mc, .slice wp wn wc, .slice op on oc] : Array Value).setIfInBounds j v = #[.int .i64 r, .int .i64 p', .int .i64 e', .slice mp mn mc, .slice wp' wn' wc', .slice op' on' oc']) (hW : Rd eIn wr wp' wc' W') (fW : Apt wp' g gr gt) (hO : Rd eIn wr op' oc' O') (fO : Apt op' g gr gt) : Ts w (wr.setCell ⟨gt, j, none⟩ v) g gr gt r p' e' mp mn mc wp' wn' wc' op' on' oc' M W' O' :=
  have h1 := h.g1; have h2 := h.g2; have h3 := h.g3
  have hk : Kp gt wr (wr.setCell ⟨gt, j, none⟩ v) := Kp.set rfl v
  { h with T := by have := Lv.set h.T j v; rw [hc] at this; exact this, R := Lv.kp h.R hk (by omega), pk := h.pk.set (by show g < gt; omega) v, kp := h.kp.setNew (by show w.heap.size ≤ gt; omega) v, rM := rd_kp h.rM hk (fun b o e _ => (h.fM b o e).2.2), rW := rd_kp hW hk (fun b o e _ => (fW b o e).2.2), rO := rd_kp hO hk (fun b o e _ => (fO b o e).2.2), fW := fW, fO := fO }
end
structure Tv where
  r : Int
  p : Int
  e : Int
  mp : Option Addr
  mn : Nat
  mc : Nat
  wp : Option Addr
  wn : Nat
  wc : Nat
  op : Option Addr
  on : Nat
  oc : Nat
def eTk : Elt Tv := ⟨6, fun x => [.int .i64 x.r, .int .i64 x.p, .int .i64 x.e, .slice x.mp x.mn x.mc, .slice x.wp x.wn x.wc, .slice x.op x.on x.oc], fun _ => rfl, by intro x v hv; simp at hv; rcases hv with rfl | rfl | rfl | rfl | rfl | rfl <;> rfl, by decide⟩
theorem size24 : (Try.prog.info? 24).map (·.size) = some eTk.k := by kernel_rfl
theorem load24 {w : World} {g : Nat} {x : Tv} (h : Lv w g (eTk.enc x).toArray 24) : (loadVar 24 ⟨g, 0, none⟩).run Try.prog w = .ok (.agg #[.int .i64 x.r, .int .i64 x.p, .int .i64 x.e, .slice x.mp x.mn x.mc, .slice x.wp x.wn x.wc, .slice x.op x.on x.oc]) w :=
  run_loadVar_mid w g 0 24 (eTk.enc x) _ (rng_of h) Try.underlying24 rfl size24
theorem Ts.out {w wr w9 : World} {g gr gt : Nat} {r p e : Int} {mp : Option Addr} {mn mc : Nat} {wp : Option Addr} {wn wc : Nat} {op : Option Addr} {on oc : Nat} {M W O : List In} (h : Ts w wr g gr gt r p e mp mn mc wp wn wc op on oc M W O) (k : Kp gr wr w9) (lM : M.length = mn) (lW : W.length = wn) (lO : O.length = on) (bM : mn ≤ 1000) (bW : wn ≤ 1000) (bO : on ≤ 1000) : Tk3 w9 mp mn mc wp wn wc op on oc M W O ∧ Pk w9 g ∧ Kp g w w9 :=
  have h1 := h.g1; have h2 := h.g2
  ⟨⟨rd_kp h.rM k (fun b o e _ => (h.fM b o e).2.1), rd_kp h.rW k (fun b o e _ => (h.fW b o e).2.1), rd_kp h.rO k (fun b o e _ => (h.fO b o e).2.1), lM, lW, lO, bM, bW, bO⟩, h.pk.under (B := g + 1) (k.below (by omega) (by have := h.pk.lt; omega)) (Nat.lt_succ_self _),
    ⟨k.os.trans h.kp.os, k.tape.trans h.kp.tape, k.output.trans h.kp.output, Nat.le_trans h.kp.size k.size, fun i hi hn => (k.block i (Nat.lt_of_lt_of_le hi h.kp.size) (by intro h; cases h; omega)).trans (h.kp.block i hi hn)⟩⟩
theorem apt_none (g gr gt : Nat) : Apt none g gr gt := fun b o e => by cases e
theorem rd_drop2 {w : World} {b : Nat} {x y : In} (h : Rd eIn w (some ⟨b, 0, none⟩) 2 [x, y]) (k : Nat) (hk : k ≤ 1) : Rd eIn w (some ⟨b, k * 4, none⟩) (2 - k) ([x, y].drop k) := by
  rcases (by omega : k = 0 ∨ k = 1) with rfl | rfl
  · exact h
  · have h2 := h.drop 1 (by simp)
    rw [if_neg (by decide)] at h2
    have e : (some (⟨b, 0, none⟩ : Addr)).map (·.add (1 * eIn.k)) = some ⟨b, 1 * 4, none⟩ := by show some ((⟨b, 0, none⟩ : Addr).add (1 * 4)) = _; rw [add_plain]
    rw [e] at h2
    exact h2
theorem rd_zero (w : World) : Rd eIn w none 0 [] := own_rd (own_nil w 0 42)
set_option maxRecDepth 20000 in
set_option maxHeartbeats 2000000 in
theorem task_any (g : Nat) (r : Int) (w : World) (hp : Pk w g) :
    Calls Try.prog 9 #[.pointer (some ⟨g, 0, none⟩), .int .i64 r, .int .i64 3] w fun e9 w' => ∃ p e mp mn mc wp wn wc op on oc M W O, e9 = .returned (.agg #[.int .i64 r, .int .i64 p, .int .i64 e, .slice mp mn mc, .slice wp wn wc, .slice op on oc]) ∧ Tk3 w' mp mn mc wp wn wc op on oc M W O ∧ Pk w' g ∧ Kp g w w' ∧ (20 ≤ p ∧ p ≤ 130 ∧ p - 9 ≤ e ∧ e ≤ p) ∧ (∃ l0, M = l0 ++ [E0] ∧ Gd l0) := by
  have hg := hp.lt
  go_enter Try.func9, Try.ntmps9
  go_upto_region 2 with (go_at_call 16; refine (code_any g _ (hp.alloc _)).mono ?_; rintro e9 w2 ⟨mp, mn, mc, M, rfl, hM, m1, m2, mg⟩)
  have hMi := own_in hM.own
  have s0 := Kp.of_below (g := g) (bel_self w (.cells #[.int .i64 0, .int .i64 0, .int .i64 0, .slice none 0 0, .slice none 0 0, .slice none 0 0] 24))
  have R2 : Lv w2 w.heap.size #[.int .i64 0, .int .i64 0, .int .i64 0, .slice none 0 0, .slice none 0 0, .slice none 0 0] 24 := Lv.kp (Lv.new w #[.int .i64 0, .int .i64 0, .int .i64 0, .slice none 0 0, .slice none 0 0, .slice none 0 0] 24) hM.kp (by omega)
  have sz : w.heap.size < w2.heap.size := by have := hM.kp.size; simp at this; omega
  have hT : Ts w (w2.alloc (.cells #[.int .i64 r, .int .i64 0, .int .i64 0, .slice mp mn mc, .slice none 0 0, .slice none 0 0] 24)) g w.heap.size w2.heap.size r 0 0 mp mn mc none 0 0 none 0 0 M [] [] :=
    ⟨Lv.new w2 _ 24, R2.below (bel_self _ _), hM.pk.alloc _, (s0.trans hM.kp).alloc _, (own_rd hM.own).below (bel_self _ _), rd_zero _, rd_zero _, fun b o e => by have := hMi b o e; simp at this; omega, apt_none _ _ _, apt_none _ _ _, hg, Nat.le_refl _, sz⟩
  have HM : Hid (M.length = mn) := hM.len
  have hmn : mn ≤ 1000 := by omega
  have HG : Hid (∃ l0, M = l0 ++ [E0] ∧ Gd l0) := mg
  obtain ⟨gt, hgt⟩ : ∃ gt, gt = w2.heap.size := ⟨_, rfl⟩
  obtain ⟨gr, hgr⟩ : ∃ gr, gr = w.heap.size := ⟨_, rfl⟩
  rw [← hgt, ← hgr] at hT
  simp only [← hgt, ← hgr]
  generalize w2.alloc (.cells #[.int .i64 r, .int .i64 0, .int .i64 0, .slice mp mn mc, .slice none 0 0, .slice none 0 0] 24) = W2 at *
  clear hM hMi s0 R2 sz mg hp hgt hgr
  go_upto_region 3 with (go_at_call 17; refine (num_any g 12 _ hT.pk (by omega) (by omega)).mono ?_; rintro e9 w3 ⟨v, rfl, va, vb, hp3, hk3⟩; have h3 := hT.kpg hk3 hp3; have t1 := h3.T.c 1 rfl; have z1 := h3.T.fz 1; have x1 : wrap64 (10 * v) = 10 * v := (by unfold wrap64; omega); have x2 : IntKind.i64.wrap (10 * v) = 10 * v := (by rw [IntKind.wrap_i64]; omega); have x3 : wrap64 (20 + 10 * v) = 20 + 10 * v := (by unfold wrap64; omega); have x4 : IntKind.i64.wrap (20 + 10 * v) = 20 + 10 * v := (by rw [IntKind.wrap_i64]; omega))
  have hT3 : Ts w (w3.setCell ⟨gt, 1, none⟩ (.int .i64 (20 + 10 * v))) g gr gt r (20 + 10 * v) 0 mp mn mc none 0 0 none 0 0 M [] [] := h3.st 1 _ rfl h3.rW h3.fW h3.rO h3.fO
  obtain ⟨p, hpv⟩ : ∃ p, 20 + 10 * v = p := ⟨_, rfl⟩
  have hp1 : 20 ≤ p ∧ p ≤ 130 := by omega
  rw [hpv] at hT3
  simp only [hpv]
  generalize w3.setCell ⟨gt, 1, none⟩ (.int .i64 p) = W3 at *
  clear hpv h3 t1 z1 x1 x2 x3 x4 hT hp3 hk3 va vb
  have hTd := hT3.below (wx := W3.drew) (Below.refl _ _).drew
  refine wp_region_held_drew (S := fun w' => w'.cell? ⟨gt, 1, none⟩ = some (.int .i64 p)) (by kernel_rfl) (hT3.T.c 1 rfl) (fun hHeld => ?_)
  refine wpAnyH_take (i := 0) (oi := _) (v := ?_) rfl (by kernel_rfl) (by kernel_rfl) (by kernel_rfl) (fun _ _ _ h => h) (Or.inl ⟨by rfl, ?_⟩) hHeld ?_
  rotate_left
  · intro w' hSw
    (go_simp <;> with_reducible rfl)
  try simp only [Act.put, List.getElem_toArray, List.getElem_cons_zero, List.setIfInBounds_toArray, List.set_cons_zero, List.set_cons_succ]
  refine wpAnyH_take (i := 1) (oi := _) (v := ?_) rfl (by kernel_rfl) (by kernel_rfl) (by kernel_rfl) (fun _ _ _ h => h) (Or.inl ⟨by rfl, ?_⟩) hHeld ?_
  rotate_left
  · intro w' hSw
    have t1 := hSw
    (go_simp <;> with_reducible rfl)
  try simp only [Act.put, List.getElem_toArray, List.getElem_cons_succ, List.getElem_cons_zero, List.setIfInBounds_toArray, List.set_cons_zero, List.set_cons_succ]
  refine wpAnyH_take (i := 2) (oi := _) (v := ?_) rfl (by kernel_rfl) (by kernel_rfl) (by kernel_rfl) (fun _ _ _ h => h) (Or.inl ⟨by rfl, ?_⟩) hHeld ?_
  rotate_left
  · intro w' hSw
    (go_simp <;> with_reducible rfl)
  try simp only [Act.put, List.getElem_toArray, List.getElem_cons_succ, List.getElem_cons_zero, List.setIfInBounds_toArray, List.set_cons_zero, List.set_cons_succ]
  refine wpAnyH_ready (rs := [3]) (by kernel_rfl) (by simp) ?_
  refine AllReadyH.cons (o := _) rfl (fun K hK => ?_) (AllReadyH.nil)
  go_simp
  go_at_call 17; refine (num_any g 10 _ hTd.pk (by omega) (by omega)).mono ?_
  rintro e9 w5 ⟨u, rfl, ua, ub, hp5, hk5⟩
  have h5 := hTd.kpg hk5 hp5
  refine hK.out _ _ (h5.T.c 1 rfl) (fun hHeld => ?_)
  clear hK K
  try simp only [Act.put, List.getElem_toArray, List.getElem_cons_succ, List.getElem_cons_zero, List.setIfInBounds_toArray, List.set_cons_zero, List.set_cons_succ]
  refine wpAnyH_take (i := 4) (oi := _) (v := ?_) rfl (by kernel_rfl) (by kernel_rfl) (by kernel_rfl) (fun _ _ _ h => h) (Or.inl ⟨by rfl, ?_⟩) hHeld ?_
  rotate_left
  · intro w' hSw
    (go_simp <;> with_reducible rfl)
  try simp only [Act.put, List.getElem_toArray, List.getElem_cons_succ, List.getElem_cons_zero, List.setIfInBounds_toArray, List.set_cons_zero, List.set_cons_succ]
  refine wpAnyH_take (i := 5) (oi := _) (v := ?_) rfl (by kernel_rfl) (by kernel_rfl) (by kernel_rfl) (fun _ _ _ h => h) (Or.inl ⟨by rfl, ?_⟩) hHeld ?_
  rotate_left
  · intro w' hSw
    (go_simp <;> with_reducible rfl)
  try simp only [Act.put, List.getElem_toArray, List.getElem_cons_succ, List.getElem_cons_zero, List.setIfInBounds_toArray, List.set_cons_zero, List.set_cons_succ]
  refine wpAnyH_ready (rs := [6]) (by kernel_rfl) (by simp) ?_
  refine AllReadyH.cons (o := _) rfl (fun K hK => ?_) (AllReadyH.nil)
  have t2 := h5.T.c 2 rfl
  have z2 := h5.T.fz 2
  have x5 : IntKind.i64.wrap (p - u) = p - u := by rw [IntKind.wrap_i64]; omega
  have x6 : wrap64 (p - u) = p - u := by unfold wrap64; omega
  go_simp
  have h6 : Ts w (w5.setCell ⟨gt, 2, none⟩ (.int .i64 (p - u))) g gr gt r p (p - u) mp mn mc none 0 0 none 0 0 M [] [] := h5.st 2 _ rfl h5.rW h5.fW h5.rO h5.fO
  refine hK.out _ _ (h6.T.c 1 rfl) (fun hHeld => ?_)
  clear hK K
  try simp only [Act.put, List.getElem_toArray, List.getElem_cons_succ, List.getElem_cons_zero, List.setIfInBounds_toArray, List.set_cons_zero, List.set_cons_succ]
  refine wpAnyH_done (by kernel_rfl) ?_ _
  obtain ⟨e, hev⟩ : ∃ e, p - u = e := ⟨_, rfl⟩
  have he1 : p - 9 ≤ e ∧ e ≤ p := by omega
  rw [hev] at h6
  simp only [hev]
  generalize w5.setCell ⟨gt, 2, none⟩ (.int .i64 e) = W4 at *
  clear hev h5 t2 z2 x5 x6 hT3 hTd hp5 hk5 ua ub hHeld
  have pk6 := h6.pk
  go_upto_region 6 with (first
  | (have _u := mkA; go_at_call 17; refine (num_any g 2 _ hA.pk (by omega) (by omega)).mono ?_; rintro e9 w11 ⟨v11, rfl, v11a, v11b, hp11, hk11⟩; have h11 := hA.kpg hk11 hp11; have t4 := h11.T.c 4 rfl; have f4 := h11.T.fz 4)
  | (go_at_call 17; refine (num_any g 3 _ h6.pk (by omega) (by omega)).mono ?_; rintro e9 w10 ⟨v10, rfl, v10a, v10b, hp10, hk10⟩; have h10 := h6.kpg hk10 hp10; have hA := h10.below (bel_self w10 (.cells #[.int .i64 1, .int .i64 0, .int .i64 0, .int .i64 99, .int .i64 0, .int .i64 0, .int .i64 0, .int .i64 0] 42)); have mkA : True := trivial))
  · have rA := heap_alloc_new w10 (.cells #[.int .i64 1, .int .i64 0, .int .i64 0, .int .i64 99, .int .i64 0, .int .i64 0, .int .i64 0, .int .i64 0] 42)
    have zg := h10.T.lt
    have zr := h10.R.lt
    have zk := h10.pk.lt
    have hv : v11.toNat ≤ 1 := by omega
    have r0 : Rd eIn w11 (some ⟨w10.heap.size, 0, none⟩) 2 [(1, 0, 0, 99), (0, 0, 0, 0)] := rd_kp (rd_block (E := eIn) rA 2 rfl rfl) hk11 (fun b o e _ => by cases e; omega)
    have r1 := rd_drop2 r0 v11.toNat hv
    have hT6 : Ts w (w11.setCell ⟨gt, 4, none⟩ (.slice (some ⟨w10.heap.size, v11.toNat * 4, none⟩) (2 - v11.toNat) (2 - v11.toNat))) g gr gt r p e mp mn mc (some ⟨w10.heap.size, v11.toNat * 4, none⟩) (2 - v11.toNat) (2 - v11.toNat) none 0 0 M (([(1, 0, 0, 99), (0, 0, 0, 0)] : List In).drop v11.toNat) [] := h11.st 4 _ rfl r1 (fun b o e => by cases e; omega) h11.rO h11.fO
    have lW : (([(1, 0, 0, 99), (0, 0, 0, 0)] : List In).drop v11.toNat).length = 2 - v11.toNat := by rw [List.length_drop]; rfl
    obtain ⟨W6, hW6⟩ : ∃ W6, W6 = w11.setCell ⟨gt, 4, none⟩ (.slice (some ⟨w10.heap.size, v11.toNat * 4, none⟩) (2 - v11.toNat) (2 - v11.toNat)) := ⟨_, rfl⟩
    rw [← hW6] at hT6 ⊢
    obtain ⟨wp, hwp⟩ : ∃ wp : Option Addr, wp = some ⟨w10.heap.size, v11.toNat * 4, none⟩ := ⟨_, rfl⟩
    obtain ⟨wn, hwn⟩ : ∃ wn, wn = 2 - v11.toNat := ⟨_, rfl⟩
    obtain ⟨W, hW⟩ : ∃ W : List In, W = (([(1, 0, 0, 99), (0, 0, 0, 0)] : List In).drop v11.toNat) := ⟨_, rfl⟩
    rw [← hwp, ← hwn, ← hW] at hT6
    rw [← hW, ← hwn] at lW
    have hwn2 : wn ≤ 2 := by omega
    have HLW : Hid (W.length = wn) := lW
    clear hW6 hW hwp hwn lW r1 r0 rA zg zr zk t4 f4 h11 hA h10 h6 pk6 hk11 hp11 hk10 hp10 mkA v11a v11b hv
    have pkh := hT6.pk
    go_upto_region 8 with (first
  | (go_at_call 16; refine (code_z g _ h12.pk).mono ?_; rintro e9 w20 ⟨op, on, oc, O, rfl, hO, o1, o2, og⟩; have HO : Hid (O.length = on) := hO.len; have h20 := h12.kpg hO.kp hO.pk; have t5 := h20.T.c 5 rfl; have f5 := h20.T.fz 5)
  | (go_at_call 17; refine (num_any g 3 _ pkh (by omega) (by omega)).mono ?_; rintro e9 w12 ⟨v12, rfl, v12a, v12b, hp12, hk12⟩; have h12 := hT6.kpg hk12 hp12))
    · have hOi := own_in hO.own
      have zt := h12.T.lt
      have z1 := h12.g1
      have z2 := h12.g2
      have z3 := h12.g3
      have hT8 : Ts w (w20.setCell ⟨gt, 5, none⟩ (.slice op on oc)) g gr gt r p e mp mn mc wp wn wn op on oc M W O := h20.st 5 _ rfl h20.rW h20.fW (own_rd hO.own) (fun b o e => by have := hOi b o e; omega)
      generalize w20.setCell ⟨gt, 5, none⟩ (.slice op on oc) = W8 at *
      clear t5 f5 h20 hO hOi h12 zt
      have t0 := hT8.T.c 0 rfl
      have t1 := hT8.T.c 1 rfl
      have t2 := hT8.T.c 2 rfl
      have t3 := hT8.T.c 3 rfl
      have t4 := hT8.T.c 4 rfl
      have t5 := hT8.T.c 5 rfl
      go_wp2_with (refine wpList_stV (E := eTk) rfl 24 (.tmp 6) (.tmp 40) rfl size24 gr _ hT8.R rfl (⟨r, p, e, mp, mn, mc, wp, wn, wn, op, on, oc⟩ : Tv) rfl rfl ?_; intro w9 L9 k9)
      have e9 := load24 L9
      obtain ⟨y1, y2, y3⟩ := hT8.out k9 HM.out HLW.out HO.out hmn (by omega) (by omega)
      refine bodyPost_ret (v := .agg #[.int .i64 r, .int .i64 p, .int .i64 e, .slice mp mn mc, .slice wp wn wn, .slice op on oc]) (by simp [results, Try.results9, asAddr, Act.put, e9]) rfl ⟨p, e, mp, mn, mc, wp, wn, wn, op, on, oc, M, _, _, rfl, y1, y2, y3, ⟨hp1.1, hp1.2, he1.1, he1.2⟩, HG.out⟩
    · have t0 := h12.T.c 0 rfl
      have t1 := h12.T.c 1 rfl
      have t2 := h12.T.c 2 rfl
      have t3 := h12.T.c 3 rfl
      have t4 := h12.T.c 4 rfl
      have t5 := h12.T.c 5 rfl
      go_wp2_with (refine wpList_stV (E := eTk) rfl 24 (.tmp 6) (.tmp 40) rfl size24 gr _ h12.R rfl (⟨r, p, e, mp, mn, mc, wp, wn, wn, none, 0, 0⟩ : Tv) rfl rfl ?_; intro w9 L9 k9)
      have e9 := load24 L9
      obtain ⟨y1, y2, y3⟩ := h12.out k9 HM.out HLW.out rfl hmn (by omega) (by omega)
      refine bodyPost_ret (v := .agg #[.int .i64 r, .int .i64 p, .int .i64 e, .slice mp mn mc, .slice wp wn wn, .slice none 0 0]) (by simp [results, Try.results9, asAddr, Act.put, e9]) rfl ⟨p, e, mp, mn, mc, wp, wn, wn, none, 0, 0, M, _, _, rfl, y1, y2, y3, ⟨hp1.1, hp1.2, he1.1, he1.2⟩, HG.out⟩
  · clear h6 pk6 hk10 hp10 mkA hA
    have pkh := h10.pk
    go_upto_region 8 with (first
  | (go_at_call 16; refine (code_z g _ h12.pk).mono ?_; rintro e9 w20 ⟨op, on, oc, O, rfl, hO, o1, o2, og⟩; have HO : Hid (O.length = on) := hO.len; have h20 := h12.kpg hO.kp hO.pk; have t5 := h20.T.c 5 rfl; have f5 := h20.T.fz 5)
  | (go_at_call 17; refine (num_any g 3 _ pkh (by omega) (by omega)).mono ?_; rintro e9 w12 ⟨v12, rfl, v12a, v12b, hp12, hk12⟩; have h12 := h10.kpg hk12 hp12))
    · have hOi := own_in hO.own
      have zt := h12.T.lt
      have z1 := h12.g1
      have z2 := h12.g2
      have z3 := h12.g3
      have hT8 : Ts w (w20.setCell ⟨gt, 5, none⟩ (.slice op on oc)) g gr gt r p e mp mn mc none 0 0 op on oc M [] O := h20.st 5 _ rfl h20.rW h20.fW (own_rd hO.own) (fun b o e => by have := hOi b o e; omega)
      generalize w20.setCell ⟨gt, 5, none⟩ (.slice op on oc) = W8 at *
      clear t5 f5 h20 hO hOi h12 zt
      have t0 := hT8.T.c 0 rfl
      have t1 := hT8.T.c 1 rfl
      have t2 := hT8.T.c 2 rfl
      have t3 := hT8.T.c 3 rfl
      have t4 := hT8.T.c 4 rfl
      have t5 := hT8.T.c 5 rfl
      go_wp2_with (refine wpList_stV (E := eTk) rfl 24 (.tmp 6) (.tmp 40) rfl size24 gr _ hT8.R rfl (⟨r, p, e, mp, mn, mc, none, 0, 0, op, on, oc⟩ : Tv) rfl rfl ?_; intro w9 L9 k9)
      have e9 := load24 L9
      obtain ⟨y1, y2, y3⟩ := hT8.out k9 HM.out rfl HO.out hmn (by omega) (by omega)
      refine bodyPost_ret (v := .agg #[.int .i64 r, .int .i64 p, .int .i64 e, .slice mp mn mc, .slice none 0 0, .slice op on oc]) (by simp [results, Try.results9, asAddr, Act.put, e9]) rfl ⟨p, e, mp, mn, mc, none, 0, 0, op, on, oc, M, _, _, rfl, y1, y2, y3, ⟨hp1.1, hp1.2, he1.1, he1.2⟩, HG.out⟩
    · have t0 := h12.T.c 0 rfl
      have t1 := h12.T.c 1 rfl
      have t2 := h12.T.c 2 rfl
      have t3 := h12.T.c 3 rfl
      have t4 := h12.T.c 4 rfl
      have t5 := h12.T.c 5 rfl
      go_wp2_with (refine wpList_stV (E := eTk) rfl 24 (.tmp 6) (.tmp 40) rfl size24 gr _ h12.R rfl (⟨r, p, e, mp, mn, mc, none, 0, 0, none, 0, 0⟩ : Tv) rfl rfl ?_; intro w9 L9 k9)
      have e9 := load24 L9
      obtain ⟨y1, y2, y3⟩ := h12.out k9 HM.out rfl rfl hmn (by omega) (by omega)
      refine bodyPost_ret (v := .agg #[.int .i64 r, .int .i64 p, .int .i64 e, .slice mp mn mc, .slice none 0 0, .slice none 0 0]) (by simp [results, Try.results9, asAddr, Act.put, e9]) rfl ⟨p, e, mp, mn, mc, none, 0, 0, none, 0, 0, M, _, _, rfl, y1, y2, y3, ⟨hp1.1, hp1.2, he1.1, he1.2⟩, HG.out⟩
end Go.Proofs.Ytonholadabebbaa
