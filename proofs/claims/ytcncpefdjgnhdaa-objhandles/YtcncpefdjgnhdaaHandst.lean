/-
  The state of ObjHandles: the table, the handles, whether they are had, their kinds.
-/
import Derived.Test.YtcncpefdjgnhdaaHands
import Derived.Test.YtcncpefdjgnhdaaDropn
import Derived.Test.YtcncpefdjgnhdaaKeeps
namespace Go.Proofs.Ytcncpefdjgnhdaa
open Go.ChangeShapes Go.WideShapes Go.ChangeAt Go.RowKit
attribute [local go_sem ↓] Go.wp_at_zero Go.wp_at_succ

structure Hs (w wr : World) (g H0 : Nat) (y : Tw) (T : Tb) (p q r : Option Addr) (c d e : Nat) (hs : List (Int × Int)) (bs : List Bool) (ks : List Int) : Prop where
  v : Vw wr g y 30
  t : ∃ B w3, Tk B w3 y T ∧ Kept B w3 wr ∧ (g < B ∨ w3.heap.size ≤ g) ∧ Ou B w3 p ∧ Ou B w3 q ∧ Ou B w3 r
  oh : Own eH wr H0 38 p c hs
  ob : Own eB wr H0 4 q d bs
  ok : Own eI wr H0 3 r e ks
  b : Below w.heap.size w wr
  le : H0 ≤ wr.heap.size
variable {w wr wr' : World} {g H0 : Nat} {y : Tw} {T : Tb} {p q r : Option Addr} {c d e : Nat} {hs : List (Int × Int)} {bs : List Bool} {ks : List Int}
theorem Hs.below (h : Hs w wr g H0 y T p q r c d e hs bs ks) (hb : Below wr.heap.size wr wr') : Hs w wr' g H0 y T p q r c d e hs bs ks := by
  obtain ⟨B, w3, h1, h2, h3⟩ := h.t
  exact ⟨h.v.below hb, ⟨B, w3, h1, h2.below hb, h3⟩, own_below h.oh hb, own_below h.ob hb, own_below h.ok hb, bel_call h.b (Nat.le_refl _) hb, Nat.le_trans h.le hb.size⟩
theorem Hs.tr (h : Hs w wr g H0 y T p q r c d e hs bs ks) : Tr wr y T := by
  obtain ⟨B, w3, h1, h2, h3⟩ := h.t
  exact h1 wr h2
theorem Ou.mono {B B' : Nat} {w3 : World} {p : Option Addr} (h : Ou B w3 p) (hB : B ≤ B') : Ou B' w3 p := fun b h1 h2 => h b (Nat.le_trans hB h1) h2
/-- a table that was made from block B on, in a variable of its own -/
structure Nx (B : Nat) (w3 wx : World) (gx : Nat) (z : Tw) (p q r : Option Addr) : Prop where
  x : Vw wx gx z 30
  k : Kept B w3 wx
  op : Ou B w3 p
  oq : Ou B w3 q
  or_ : Ou B w3 r
theorem Nx.below {B : Nat} {w3 wx wy : World} {gx : Nat} {z : Tw} (h : Nx B w3 wx gx z p q r) (hb : Below wx.heap.size wx wy) : Nx B w3 wy gx z p q r := ⟨h.x.below hb, h.k.below hb, h.op, h.oq, h.or_⟩
theorem Hs.nx {B : Nat} {w3 wx : World} {gx : Nat} {z : Tw} (h : Hs w wr g H0 y T p q r c d e hs bs ks) (hx : Vw wx gx z 30) (hk : Kept B w3 wx) (hB : wr.heap.size ≤ B) : Nx B w3 wx gx z p q r := ⟨hx, hk, (Ou.own h.oh).mono hB, (Ou.own h.ob).mono hB, (Ou.own h.ok).mono hB⟩
/-- .. is laid into the variable -/
theorem Hs.set {B : Nat} {w3 : World} {z : Tw} {U : Tb} {g1 gx : Nat} {xs : List Tc} (h : Hs w wr g H0 y T p q r c d e hs bs ks) (hn : Nx B w3 wr gx z p q r) (hg0 : g < B) (how : Ow w3 B g1 z xs U) (hk : Kp g wr wr') (hv : Vw wr' g z 30) (hgw : w.heap.size ≤ g) (hgH : g < H0) : Hs w wr' g H0 z U p q r c d e hs bs ks :=
  ⟨hv, ⟨B, w3, how.tk, hn.k.kp hk (Or.inl hg0), Or.inl hg0, hn.op, hn.oq, hn.or_⟩, own_kp h.oh hk hgH, own_kp h.ob hk hgH, own_kp h.ok hk hgH, bel_kp h.b hk hgw h.b.size, Nat.le_trans h.le hk.size⟩
theorem Nx.hand {B : Nat} {w3 wy : World} {gx : Nat} {z : Tw} {p' : Option Addr} (h : Nx B w3 wr gx z p q r) (hS : Hs w wr g H0 y T p q r c d e hs bs ks) (hg : Grew wr wy p p') (hb : Below H0 wr wy) : Nx B w3 wy gx z p' q r := ⟨Lv.grew h.x hg (Far.type hS.oh h.x (by decide)), h.k.grew h.op hg hb.size, h.op.grew h.k hg, h.oq, h.or_⟩
theorem Nx.had {B : Nat} {w3 wy : World} {gx : Nat} {z : Tw} {q' : Option Addr} (h : Nx B w3 wr gx z p q r) (hS : Hs w wr g H0 y T p q r c d e hs bs ks) (hg : Grew wr wy q q') (hb : Below H0 wr wy) : Nx B w3 wy gx z p q' r := ⟨Lv.grew h.x hg (Far.type hS.ob h.x (by decide)), h.k.grew h.oq hg hb.size, h.op, h.oq.grew h.k hg, h.or_⟩
theorem Nx.kind {B : Nat} {w3 wy : World} {gx : Nat} {z : Tw} {r' : Option Addr} (h : Nx B w3 wr gx z p q r) (hS : Hs w wr g H0 y T p q r c d e hs bs ks) (hg : Grew wr wy r r') (hb : Below H0 wr wy) : Nx B w3 wy gx z p q r' := ⟨Lv.grew h.x hg (Far.type hS.ok h.x (by decide)), h.k.grew h.or_ hg hb.size, h.op, h.oq, h.or_.grew h.k hg⟩
/-- a handle more -/
theorem Hs.hand {p' : Option Addr} {c' : Nat} {hs' : List (Int × Int)} (h : Hs w wr g H0 y T p q r c d e hs bs ks) (ho : Own eH wr' H0 38 p' c' hs') (hg : Grew wr wr' p p') (hb : Below H0 wr wr') (hH : w.heap.size ≤ H0) : Hs w wr' g H0 y T p' q r c' d e hs' bs ks := by
  obtain ⟨B, w3, h1, h2, h3, h4, h5, h6⟩ := h.t
  exact ⟨Lv.grew h.v hg (Far.type h.oh h.v (by decide)), ⟨B, w3, h1, h2.grew h4 hg hb.size, h3, h4.grew h2 hg, h5, h6⟩, ho, Own.grew h.ob hg (Two.type h.oh h.ob (by decide)), Own.grew h.ok hg (Two.type h.oh h.ok (by decide)), h.b.trans (hb.mono hH), Nat.le_trans h.le hb.size⟩
theorem Hs.had {q' : Option Addr} {d' : Nat} {bs' : List Bool} (h : Hs w wr g H0 y T p q r c d e hs bs ks) (ho : Own eB wr' H0 4 q' d' bs') (hg : Grew wr wr' q q') (hb : Below H0 wr wr') (hH : w.heap.size ≤ H0) : Hs w wr' g H0 y T p q' r c d' e hs bs' ks := by
  obtain ⟨B, w3, h1, h2, h3, h4, h5, h6⟩ := h.t
  exact ⟨Lv.grew h.v hg (Far.type h.ob h.v (by decide)), ⟨B, w3, h1, h2.grew h5 hg hb.size, h3, h4, h5.grew h2 hg, h6⟩, Own.grew h.oh hg (Two.type h.ob h.oh (by decide)), ho, Own.grew h.ok hg (Two.type h.ob h.ok (by decide)), h.b.trans (hb.mono hH), Nat.le_trans h.le hb.size⟩
theorem Hs.kind {r' : Option Addr} {e' : Nat} {ks' : List Int} (h : Hs w wr g H0 y T p q r c d e hs bs ks) (ho : Own eI wr' H0 3 r' e' ks') (hg : Grew wr wr' r r') (hb : Below H0 wr wr') (hH : w.heap.size ≤ H0) : Hs w wr' g H0 y T p q r' c d e' hs bs ks' := by
  obtain ⟨B, w3, h1, h2, h3, h4, h5, h6⟩ := h.t
  exact ⟨Lv.grew h.v hg (Far.type h.ok h.v (by decide)), ⟨B, w3, h1, h2.grew h6 hg hb.size, h3, h4, h5, h6.grew h2 hg⟩, Own.grew h.oh hg (Two.type h.ok h.oh (by decide)), Own.grew h.ob hg (Two.type h.ok h.ob (by decide)), ho, h.b.trans (hb.mono hH), Nat.le_trans h.le hb.size⟩
/-- one is had no more -/
theorem own_setB {base : Nat} {e : TypeId} {b c : Nat} {l : List Bool} (h : Own eB wr base e (some ⟨b, 0, none⟩) c l) (k : Nat) (v : Bool) :
    wr.frozen? ⟨b, k, none⟩ = false ∧ Own eB (wr.setCell ⟨b, k, none⟩ (.bool v)) base e (some ⟨b, 0, none⟩) c (l.set k v) := by
  rcases h.2 with ⟨h1, _⟩ | ⟨g, cap, cur, h1, h2, h3, h4, h5, h6, h7⟩
  · simp at h1
  · simp only [Value.slice.injEq, Option.some.injEq, Addr.mk.injEq, true_and, and_true] at h1
    obtain ⟨rfl, rfl⟩ := h1
    refine ⟨by simp [World.frozen?, h3], by simp [fl_length], .inr ⟨b, c, cur.setIfInBounds k (.bool v), by simp, h2, heap_setCell_same _ _ _ _ _ _ h3, by simpa using h4, h5, by simpa using h6, ?_⟩⟩
    have e1 : eB.k = 1 := rfl
    rw [e1] at h7
    rw [Nat.mul_one] at h7
    have e2 : fl eB l = l.map Value.bool := flB l
    have e3 : fl eB (l.set k v) = (l.set k v).map Value.bool := flB _
    rw [e1, e3]
    rw [e2] at h7
    simp only [List.length_set, Nat.mul_one, Array.toList_setIfInBounds, List.take_set, List.map_set]
    rw [h7]
theorem Hs.off {b : Nat} (h : Hs w wr g H0 y T p (some ⟨b, 0, none⟩) r c d e hs bs ks) (k : Nat) (hH : w.heap.size ≤ H0) : wr.frozen? ⟨b, k, none⟩ = false ∧ Hs w (wr.setCell ⟨b, k, none⟩ (.bool false)) g H0 y T p (some ⟨b, 0, none⟩) r c d e hs (bs.set k false) ks := by
  obtain ⟨h8, h9⟩ := own_setB h.ob k false
  obtain ⟨B, w3, h1, h2, h3, h4, h5, h6⟩ := h.t
  have hkp : Kp b wr (wr.setCell ⟨b, k, none⟩ (.bool false)) := Kp.set rfl _
  have hge := own_ge h.ob
  have hfv : g ≠ b := fun e => Far.type h.ob h.v (by decide) b 0 rfl e.symm
  have f1 : Far p b := fun b' o e he => Two.type h.ob h.oh (by decide) b' o e b 0 rfl he.symm
  have f2 : Far r b := fun b' o e he => Two.type h.ob h.ok (by decide) b' o e b 0 rfl he.symm
  have hgb : b < B ∨ w3.heap.size ≤ b := by
    rcases Nat.lt_or_ge b B with h | h
    · exact Or.inl h
    · rcases Nat.lt_or_ge b w3.heap.size with h' | h'
      · exact absurd rfl (h5 b h h' b 0 rfl)
      · exact Or.inr h'
  refine ⟨h8, ⟨h.v.kp hkp hfv, ⟨B, w3, h1, h2.kp hkp hgb, h3, h4, h5, h6⟩, own_setFar h.oh f1 _ _, h9, own_setFar h.ok f2 _ _, bel_kp h.b hkp (Nat.le_trans hH hge) h.b.size, Nat.le_trans h.le hkp.size⟩⟩
theorem Hs.m0 (h : Hs w wr g H0 y T p q r c d e hs bs ks) {i : Nat} (hi : i < hs.length) : ∃ b o, p = some ⟨b, o, none⟩ ∧ b < wr.heap.size ∧ wr.cell? ⟨b, o + i * 2, none⟩ = some (.int .i64 (hh hs i).1) ∧ wr.cell? ⟨b, o + i * 2 + 1, none⟩ = some (.int .i64 (hh hs i).2) := by
  obtain ⟨b, o, e, hb, h0, h1⟩ := (own_rd h.oh).hnd i hi
  have e : hh hs i = hs[i] := by unfold hh; rw [List.getD_eq_getElem?_getD, List.getElem?_eq_getElem hi]; rfl
  rw [e]
  exact ⟨b, o, ‹_›, hb, h0, h1⟩
theorem Hs.m1 (h : Hs w wr g H0 y T p q r c d e hs bs ks) {i : Nat} (hi : i < bs.length) : ∃ b, q = some ⟨b, 0, none⟩ ∧ b < wr.heap.size ∧ wr.cell? ⟨b, i, none⟩ = some (.bool (bs.getD i false)) := by
  rcases h.ob.2 with ⟨h1, h2⟩ | ⟨b, cap, cur, h1, _⟩
  · simp only [Value.slice.injEq] at h1
    omega
  · simp only [Value.slice.injEq] at h1
    obtain ⟨rfl, _⟩ := h1
    obtain ⟨b', o, e, hb, h0⟩ := (own_rd h.ob).bool i hi
    cases e
    refine ⟨b, rfl, hb, ?_⟩
    rw [Nat.zero_add] at h0
    rw [h0, List.getD_eq_getElem?_getD, List.getElem?_eq_getElem hi]
    rfl
theorem Hs.m2 (h : Hs w wr g H0 y T p q r c d e hs bs ks) {i : Nat} (hi : i < ks.length) : ∃ b o, r = some ⟨b, o, none⟩ ∧ b < wr.heap.size ∧ wr.cell? ⟨b, o + i, none⟩ = some (.int .i64 (ks.getD i 0)) := by
  obtain ⟨b, o, e, hb, h0⟩ := (own_rd h.ok).num i hi
  refine ⟨b, o, e, hb, ?_⟩
  rw [h0, List.getD_eq_getElem?_getD, List.getElem?_eq_getElem hi]
  rfl
end Go.Proofs.Ytcncpefdjgnhdaa
