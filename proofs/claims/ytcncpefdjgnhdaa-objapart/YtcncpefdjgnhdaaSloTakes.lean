/-
  What Take of package slots hands back: the first place that is not taken, under a number that is one more.
-/
import Derived.Test.YtcncpefdjgnhdaaSloLow
namespace Go.Proofs.Ytcncpefdjgnhdaa.Slo
open Go.ChangeShapes Go.WideShapes Go.ChangeAt Go.RowKit
attribute [local go_sem ↓] Go.wp_at_zero Go.wp_at_succ

/-- The first place that is not taken, of those that both lists have. -/
def freeIn (gs : List Int) (bs : List Bool) : Option Nat := freeAt (bs.take (min gs.length bs.length))

theorem Own.setLow {α : Type} {w : World} {base : Nat} {f : α → Value} {p : Option Addr} {c : Nat} {l : List α} (h : Own w base f p c l) {a : Addr} (ha : a.block < base) (u : Value) : Own (w.setCell a u) base f p c l :=
  h.setFar (fun b e hl => by obtain ⟨b', e', h1, _⟩ := h.own hl; rw [e] at e'; cases e'; omega) u

theorem pair_far {w' : World} {B0 : Nat} {x y : Value} (h : w'.cell? ⟨B0, 0, none⟩ = some x ∧ w'.cell? ⟨B0, 1, none⟩ = some y) {B o1 o2 : Nat} (hB : B ≠ B0) (u v : Value) :
    ((w'.setCell ⟨B, o1, none⟩ u).setCell ⟨B, o2, none⟩ v).cell? ⟨B0, 0, none⟩ = some x ∧ ((w'.setCell ⟨B, o1, none⟩ u).setCell ⟨B, o2, none⟩ v).cell? ⟨B0, 1, none⟩ = some y :=
  ⟨by rw [World.cell?_setCell_far _ _ _ _ hB, World.cell?_setCell_far _ _ _ _ hB]; exact h.1, by rw [World.cell?_setCell_far _ _ _ _ hB, World.cell?_setCell_far _ _ _ _ hB]; exact h.2⟩

theorem Rd.take {α : Type} {w : World} {f : α → Value} {p : Option Addr} {c : Nat} {l : List α} (h : Rd w f p c l) (n : Nat) : Rd w f p c (l.take n) := by
  refine ⟨Nat.le_trans (by simp; omega) h.cap, ?_⟩
  rcases h.at_ with ⟨rfl, rfl, rfl⟩ | ⟨b, o, s, rfl, hs, hc⟩
  · exact .inl ⟨rfl, by simp, rfl⟩
  · exact .inr ⟨b, o, s, rfl, fun h => hs (fun e => h (by simp [e])), fun i hi => by
      have hi' : i < l.length := by simp at hi; omega
      rw [hc i hi']; simp⟩

theorem places_n (gp ip : Option Addr) (n gc m ic k : Nat) (w : World) (hk : k = min n m) :
    Calls Try.prog 73 #[.agg #[.slice gp n gc, .slice ip m ic]] w fun e w' => e = .returned (.int .i64 k) ∧ Below w.heap.size w w' := by
  subst hk; exact places_any gp ip n gc m ic w

theorem handle_n (gp : Option Addr) (iv : Value) (gc n : Nat) (gs : List Int) (k : Nat) (x : Int) (w : World) (hr : Rd w (Value.int .i64) gp gc gs) (hl : gs.length ≤ 64) (hn : n = gs.length) (hk : k < gs.length) (hx : gs[k] = x) :
    Calls Try.prog 74 #[.agg #[.slice gp n gc, iv], .int .i64 k] w fun e w' => e = .returned (.agg #[.int .i64 k, .int .i64 x]) ∧ Below w.heap.size w w' := by
  subst hn hx; exact handle_any gp iv gc gs k w hr hl hk

theorem index_n (p : Option Addr) (c n : Nat) (l : List Bool) (w : World) (hr : Rd w Value.bool p c l) (hl : l.length ≤ 64) (hn : n = l.length) (r : Int) (hrr : freeI l = r) :
    Calls Try.prog 72 #[.slice p n c, .bool false] w fun e w' => e = .returned (.int .i64 r) ∧ w' = w := by
  subst hn hrr; exact index_any p c l w hr hl

def tg (gs : List Int) (bs : List Bool) : List Int := match freeIn gs bs with | some k => gs.set k (gs.getD k 0 + 1) | none => gs
def tb (gs : List Int) (bs : List Bool) : List Bool := match freeIn gs bs with | some k => bs.set k true | none => bs
def tAt (gs : List Int) (bs : List Bool) : Int := match freeIn gs bs with | some k => (k : Int) | none => 0
def tGen (gs : List Int) (bs : List Bool) : Int := match freeIn gs bs with | some k => gs.getD k 0 + 1 | none => 0
def tOk (gs : List Int) (bs : List Bool) : Bool := (freeIn gs bs).isSome
def Small (gs : List Int) : Prop := ∀ g ∈ gs, -2199023255552 ≤ g ∧ g ≤ 2199023255552

/-- e hands back what Take promises of the places gs and bs, in memory of its own. -/
def Took (w w' : World) (gs : List Int) (bs : List Bool) (e : Ending) : Prop :=
  ∃ gp gc ip ic, e = .returned (.tuple #[.agg #[.slice gp (tg gs bs).length gc, .slice ip (tb gs bs).length ic], .agg #[.int .i64 (tAt gs bs), .int .i64 (tGen gs bs)], .bool (tOk gs bs)]) ∧
    Own w' w.heap.size (Value.int .i64) gp gc (tg gs bs) ∧ Own w' w.heap.size Value.bool ip ic (tb gs bs) ∧ Below w.heap.size w w'

theorem took_none {w w' : World} {gs : List Int} {bs : List Bool} {gp ip : Option Addr} {gc ic : Nat} (hno : freeIn gs bs = none) (hg : Own w' w.heap.size (Value.int .i64) gp gc gs) (hi : Own w' w.heap.size Value.bool ip ic bs) (hb : Below w.heap.size w w') :
    Took w w' gs bs (.returned (.tuple #[.agg #[.slice gp gs.length gc, .slice ip bs.length ic], .agg #[.int .i64 0, .int .i64 0], .bool false])) :=
  ⟨gp, gc, ip, ic, by simp [tg, tb, tAt, tGen, tOk, hno], by simpa [tg, hno] using hg, by simpa [tb, hno] using hi, hb⟩

theorem took_some {w w' : World} {gs : List Int} {bs : List Bool} {gp ip : Option Addr} {gc ic k : Nat} (hk : freeIn gs bs = some k) (hkg : k < gs.length) (hg : Own w' w.heap.size (Value.int .i64) gp gc (gs.set k (gs[k] + 1))) (hi : Own w' w.heap.size Value.bool ip ic (bs.set k true)) (hb : Below w.heap.size w w') :
    Took w w' gs bs (.returned (.tuple #[.agg #[.slice gp gs.length gc, .slice ip bs.length ic], .agg #[.int .i64 k, .int .i64 (gs[k] + 1)], .bool true])) :=
  ⟨gp, gc, ip, ic, by simp [tg, tb, tAt, tGen, tOk, hk, hkg], by simpa [tg, hk, hkg] using hg, by simpa [tb, hk] using hi, hb⟩

theorem freeIn_lt {gs : List Int} {bs : List Bool} {k : Nat} (h : freeIn gs bs = some k) : k < gs.length ∧ k < bs.length ∧ bs[k]? = some false := by
  unfold freeIn freeAt at h
  rw [List.findIdx?_eq_some_iff_getElem] at h
  obtain ⟨h1, h2, _⟩ := h
  have h1' : k < gs.length ∧ k < bs.length := by simp at h1; omega
  refine ⟨h1'.1, h1'.2, ?_⟩
  rw [List.getElem?_eq_getElem h1'.2]
  simpa using h2

set_option maxHeartbeats 400000 in
theorem take_any (gp ip : Option Addr) (gc ic : Nat) (gs : List Int) (bs : List Bool) (w : World) (hg : Rd w (Value.int .i64) gp gc gs) (hi : Rd w Value.bool ip ic bs) (hgl : gs.length ≤ 64) (hbl : bs.length ≤ 64) (hsm : Small gs) :
    Calls Try.prog 49 #[.agg #[.slice gp gs.length gc, .slice ip bs.length ic]] w fun e w' => Took w w' gs bs e := by
  obtain ⟨W, hW⟩ : ∃ W, W = ((w.alloc (Obj.cells #[Value.slice gp gs.length gc, Value.slice ip bs.length ic] 27)).alloc (Obj.cells #[Value.slice none 0 0, Value.slice none 0 0] 27)).alloc (Obj.cells #[.int .i64 0, .int .i64 0] 38) := ⟨_, rfl⟩
  have hWs : W.heap.size = w.heap.size + 3 := by rw [hW]; simp
  have hWb : Below w.heap.size w W := by rw [hW]; exact (((Below.refl _ _).alloc (Nat.le_refl _) _).alloc (by simp) _).alloc (by simp; omega) _
  have hd0 : W.cell? ⟨w.heap.size + 1, 0, none⟩ = some (.slice none 0 0) := by rw [hW]; simp [go_sem]
  have hd1 : W.cell? ⟨w.heap.size + 1, 1, none⟩ = some (.slice none 0 0) := by rw [hW]; simp [go_sem]
  have hd2 : W.cell? ⟨w.heap.size + 1 + 1, 0, none⟩ = some (.int .i64 0) := by rw [hW]; simp [go_sem]
  have hd3 : W.cell? ⟨w.heap.size + 1 + 1, 1, none⟩ = some (.int .i64 0) := by rw [hW]; simp [go_sem]
  have hf0 : ∀ o, W.frozen? ⟨w.heap.size + 1, o, none⟩ = false := fun o => by rw [hW]; simp [go_sem]
  have hf2 : ∀ o, W.frozen? ⟨w.heap.size + 1 + 1, o, none⟩ = false := fun o => by rw [hW]; simp [go_sem]
  obtain ⟨n, hn⟩ : ∃ n, n = min gs.length bs.length := ⟨_, rfl⟩
  obtain ⟨r, hfr⟩ : ∃ r, freeI (bs.take n) = r := ⟨_, rfl⟩
  have HN : Hid (n = min gs.length bs.length) := hn
  go_enter Try.func49, Try.ntmps49
  go_wp2_with (go_at_call 62; rw [← hW]; refine (clone_any _ _ _ _ gs bs _ (hg.below hWb) (hi.below hWb) hgl hbl).mono ?_; rintro e w1 ⟨gp1, gc1, ip1, ic1, rfl, hg1, hi1, hap, hb1⟩)
  obtain ⟨W2, hW2⟩ : ∃ W2, W2 = w1.alloc (Obj.cells #[Value.slice gp1 gs.length gc1, Value.slice ip1 bs.length ic1] 27) := ⟨_, rfl⟩
  have hc0 : W2.cell? ⟨w1.heap.size, 0, none⟩ = some (.slice gp1 gs.length gc1) := by rw [hW2]; simp [go_sem]
  have hc1 : W2.cell? ⟨w1.heap.size, 1, none⟩ = some (.slice ip1 bs.length ic1) := by rw [hW2]; simp [go_sem]
  have h12 : Below w1.heap.size w1 W2 := by rw [hW2]; exact (Below.refl _ _).alloc (Nat.le_refl _) _
  have hlt : w1.heap.size < W2.heap.size := by rw [hW2]; simp
  have kS : ∀ w', Below W2.heap.size W2 w' → w'.cell? ⟨w1.heap.size, 0, none⟩ = some (.slice gp1 gs.length gc1) ∧ w'.cell? ⟨w1.heap.size, 1, none⟩ = some (.slice ip1 bs.length ic1) ∧ Below W2.heap.size W2 w' := fun w' h =>
    ⟨(h.cell (p := ⟨w1.heap.size, 0, none⟩) hlt).trans hc0, (h.cell (p := ⟨w1.heap.size, 1, none⟩) hlt).trans hc1, h⟩
  have hi2 := (hi1.below h12)
  have hs0 : (0 : Int) ≤ (n : Int) := by omega
  have hs1 : (n : Int) ≤ (ic1 : Int) := by have := hi1.rd.cap; omega
  rw [← hW2]
  have HWs : Hid (W.heap.size = w.heap.size + 3) := hWs
  clear hn hW hW2 hWs
  go_region_held3 (fun w' => w'.cell? ⟨w1.heap.size, 0, none⟩ = some (.slice gp1 gs.length gc1) ∧ w'.cell? ⟨w1.heap.size, 1, none⟩ = some (.slice ip1 bs.length ic1) ∧ Below W2.heap.size W2 w')
    ((first | exact kS _ (Below.refl _ _).drew | exact kS _ (bel_call (‹_ ∧ _ ∧ Below _ _ _›).2.2 (Nat.le_refl _) ‹Below _ _ _›) | exact kS _ (‹_ ∧ _ ∧ Below _ _ _›).2.2))
    ((first | (go_at_call 73; refine (places_n _ _ _ _ _ _ n _ HN.out).mono ?_; rintro e w2 ⟨rfl, hb2⟩)
            | (go_at_call 72; refine (index_n _ _ n (bs.take n) _ ((hi2.rd.below (‹_ ∧ _ ∧ Below _ _ _›).2.2).take n) (by simp; omega) (by rw [HN.out]; simp) _ hfr).mono ?_; rintro e w3 ⟨rfl, rfl⟩)))
  obtain ⟨c0, c1, hb3⟩ := ‹_ ∧ _ ∧ Below _ _ _›
  have hs3 := hb3.size
  have hs2 := hb1.size
  have hB3 : Below W.heap.size W w3 := (hb1.trans (h12.mono hs2)).trans (hb3.mono (by omega))
  have hz1 : w.heap.size + 1 < W.heap.size := by rw [HWs.out]; omega
  have hz2 : w.heap.size + 1 + 1 < W.heap.size := by rw [HWs.out]; omega
  have e0 := (hB3.cell (p := ⟨w.heap.size + 1, 0, none⟩) hz1).trans hd0
  have e1 := (hB3.cell (p := ⟨w.heap.size + 1, 1, none⟩) hz1).trans hd1
  have e2 := (hB3.cell (p := ⟨w.heap.size + 1 + 1, 0, none⟩) hz2).trans hd2
  have e3 := (hB3.cell (p := ⟨w.heap.size + 1 + 1, 1, none⟩) hz2).trans hd3
  have f0 : ∀ o, w3.frozen? ⟨w.heap.size + 1, o, none⟩ = false := fun o => (hB3.frozen (p := ⟨w.heap.size + 1, o, none⟩) hz1).trans (hf0 o)
  have f2 : ∀ o, w3.frozen? ⟨w.heap.size + 1 + 1, o, none⟩ = false := fun o => (hB3.frozen (p := ⟨w.heap.size + 1 + 1, o, none⟩) hz2).trans (hf2 o)
  have hg3 := (hg1.below h12).below hb3
  have hi3 := hi2.below hb3
  have hwb : Below w.heap.size w w3 := hWb.trans (hB3.mono (by omega))
  clear kS hd0 hd1 hd2 hd3 hf0 hf2 hc0 hc1 hi2 hb2
  by_cases hno : freeIn gs bs = none
  · have hr : r = -1 := by rw [← hfr, HN.out]; exact freeI_none hno
    subst hr
    clear hfr
    go_wp2
    refine bodyPost_ret (v := .tuple #[.agg #[.slice gp1 gs.length gc1, .slice ip1 bs.length ic1], .agg #[.int .i64 0, .int .i64 0], .bool false]) (by simp [results, Try.results49, go_sem, e0, e1, e2, e3]) rfl (took_none hno ?_ ?_ ?_)
    · exact ((((hg3.setLow hz1 _).setLow hz1 _).setLow hz2 _).setLow hz2 _).mono (by omega)
    · exact ((((hi3.setLow hz1 _).setLow hz1 _).setLow hz2 _).setLow hz2 _).mono (by omega)
    · exact (((hwb.setCell (by dsimp only; omega) _).setCell (by dsimp only; omega) _).setCell (by dsimp only; omega) _).setCell (by dsimp only; omega) _
  · obtain ⟨k, hk⟩ := Option.ne_none_iff_exists'.1 hno
    obtain ⟨hkg, hkb, _⟩ := freeIn_lt hk
    have hr : r = k := by rw [← hfr, HN.out]; exact freeI_some hk
    subst hr
    clear hfr hno
    obtain ⟨b, rfl, hbW, hblt, hbf, hbc⟩ := hg3.cells (by omega)
    obtain ⟨b', rfl, hbW', hblt', hbf', hbc'⟩ := hi3.cells (by omega)
    have hne : b ≠ b' := fun e => hap (by intro e; simp [e] at hkg) (by intro e; simp [e] at hkb) (by rw [e])
    have hbw : b < w1.heap.size := by obtain ⟨_, e, _, h, _⟩ := hg1.cells (by omega); cases e; exact h
    have hbw' : b' < w1.heap.size := by obtain ⟨_, e, _, h, _⟩ := hi1.cells (by omega); cases e; exact h
    have n0 : b ≠ w1.heap.size := by omega
    have n1 : b' ≠ w1.heap.size := by omega
    have n2 : b ≠ w.heap.size + 1 := by omega
    have n3 : b' ≠ w.heap.size + 1 := by omega
    have n4 : b ≠ w.heap.size + 1 + 1 := by omega
    have n5 : b' ≠ w.heap.size + 1 + 1 := by omega
    have hck := hbc k hkg
    have hck' := hbc' k hkb
    have hgk := hsm gs[k] (List.getElem_mem hkg)
    clear hap hbc hbc'
    go_wp2
    have hg4 : Own ((w3.setCell ⟨b, k, none⟩ (.int .i64 (gs[k] + 1))).setCell ⟨b', k, none⟩ (.bool true)) W.heap.size (Value.int .i64) (some ⟨b, 0, none⟩) gc1 (gs.set k (gs[k] + 1)) :=
      (hg3.setAt k hkg _).setFar (fun x e _ => by cases e; exact hne) _
    have hi4 : Own ((w3.setCell ⟨b, k, none⟩ (.int .i64 (gs[k] + 1))).setCell ⟨b', k, none⟩ (.bool true)) W.heap.size Value.bool (some ⟨b', 0, none⟩) ic1 (bs.set k true) :=
      (hi3.setFar (fun x e _ => by cases e; exact Ne.symm hne) _).setAt k hkb true
    have hsz : ((w3.setCell ⟨b, k, none⟩ (.int .i64 (gs[k] + 1))).setCell ⟨b', k, none⟩ (.bool true)).heap.size = w3.heap.size := by simp [World.setCell]
    have hcc : ∀ x : Addr, b ≠ x.block → b' ≠ x.block → ((w3.setCell ⟨b, k, none⟩ (.int .i64 (gs[k] + 1))).setCell ⟨b', k, none⟩ (.bool true)).cell? x = w3.cell? x := fun x h1 h2 => by
      rw [World.cell?_setCell_far _ _ _ _ h2, World.cell?_setCell_far _ _ _ _ h1]
    have hff : ∀ x : Addr, ((w3.setCell ⟨b, k, none⟩ (.int .i64 (gs[k] + 1))).setCell ⟨b', k, none⟩ (.bool true)).frozen? x = w3.frozen? x := fun x => by
      rw [World.frozen?_setCell, World.frozen?_setCell]
    have hwb4 : Below w.heap.size w ((w3.setCell ⟨b, k, none⟩ (.int .i64 (gs[k] + 1))).setCell ⟨b', k, none⟩ (.bool true)) := (hwb.setCell (by dsimp only; omega) _).setCell (by dsimp only; omega) _
    generalize ((w3.setCell ⟨b, k, none⟩ (.int .i64 (gs[k] + 1))).setCell ⟨b', k, none⟩ (.bool true)) = W4 at *
    have c0' := (hcc ⟨w1.heap.size, 0, none⟩ n0 n1).trans c0
    have c1' := (hcc ⟨w1.heap.size, 1, none⟩ n0 n1).trans c1
    have e0' := (hcc ⟨w.heap.size + 1, 0, none⟩ n2 n3).trans e0
    have e1' := (hcc ⟨w.heap.size + 1, 1, none⟩ n2 n3).trans e1
    have e2' := (hcc ⟨w.heap.size + 1 + 1, 0, none⟩ n4 n5).trans e2
    have e3' := (hcc ⟨w.heap.size + 1 + 1, 1, none⟩ n4 n5).trans e3
    have m1 : w.heap.size + 1 ≠ w1.heap.size := by omega
    have m2 : w.heap.size + 1 + 1 ≠ w1.heap.size := by omega
    have hl1 : w1.heap.size < W4.heap.size := by omega
    have hl2 : w.heap.size + 1 < W4.heap.size := by omega
    have hl3 : w.heap.size + 1 + 1 < W4.heap.size := by omega
    have HZ : Hid (W4.heap.size = w3.heap.size) := hsz
    have HF : Hid (∀ x : Addr, W4.frozen? x = w3.frozen? x) := hff
    clear hcc hff hsz c0 c1 e0 e1 e2 e3 hck hck' hgk hbf hbf' n0 n1 n2 n3 n4 n5 hs0 hs1 hblt hblt' hbW hbW' hlt hs3 hs2 hbw hbw' hkb hWb
    go_region_held3 (fun w' => w'.cell? ⟨w1.heap.size, 0, none⟩ = some (.slice (some ⟨b, 0, none⟩) gs.length gc1) ∧ w'.cell? ⟨w1.heap.size, 1, none⟩ = some (.slice (some ⟨b', 0, none⟩) bs.length ic1))
      ((first | with_reducible (exact pair_far ‹World.cell? _ _ = _ ∧ World.cell? _ _ = _› m1 _ _) | with_reducible (exact pair_far ‹World.cell? _ _ = _ ∧ World.cell? _ _ = _› m2 _ _) | with_reducible (exact ⟨(hb5.cell (p := ⟨w1.heap.size, 0, none⟩) hl1).trans c0', (hb5.cell (p := ⟨w1.heap.size, 1, none⟩) hl1).trans c1'⟩) | exact ⟨c0', c1'⟩))
      ((first | (go_at_call 74; refine (handle_n _ _ _ gs.length (gs.set k (gs[k] + 1)) k (gs[k] + 1) _ (hg4.rd.below (Below.refl _ _).drew) (by simpa using hgl) (by simp) (by simpa using hkg) (by simp)).mono ?_; rintro e w5 ⟨rfl, hb5'⟩; have hb5 : Below W4.heap.size W4 w5 := (Below.refl _ _).drew.trans hb5'; have g0 := (hb5.cell (p := ⟨w.heap.size + 1, 0, none⟩) hl2).trans e0'; have g1 := (hb5.cell (p := ⟨w.heap.size + 1, 1, none⟩) hl2).trans e1'; have g2 := (hb5.cell (p := ⟨w.heap.size + 1 + 1, 0, none⟩) hl3).trans e2'; have g3 := (hb5.cell (p := ⟨w.heap.size + 1 + 1, 1, none⟩) hl3).trans e3'; have q0 : ∀ o, w5.frozen? ⟨w.heap.size + 1, o, none⟩ = false := (fun o => (hb5.frozen (p := ⟨w.heap.size + 1, o, none⟩) hl2).trans ((HF.out _).trans (f0 o))); have q1 : ∀ o, w5.frozen? ⟨w.heap.size + 1 + 1, o, none⟩ = false := (fun o => (hb5.frozen (p := ⟨w.heap.size + 1 + 1, o, none⟩) hl3).trans ((HF.out _).trans (f2 o))))))
    go_wp2
    have hg5 := hg4.below hb5
    have hi5 := hi4.below hb5
    refine bodyPost_ret (v := .tuple #[.agg #[.slice (some ⟨b, 0, none⟩) gs.length gc1, .slice (some ⟨b', 0, none⟩) bs.length ic1], .agg #[.int .i64 k, .int .i64 (gs[k] + 1)], .bool true]) (by simp [results, Try.results49, go_sem, g0, g1, g2, g3]) rfl (took_some hk hkg ?_ ?_ ?_)
    · exact ((((hg5.setLow hz1 _).setLow hz1 _).setLow hz2 _).setLow hz2 _).mono (by omega)
    · exact ((((hi5.setLow hz1 _).setLow hz1 _).setLow hz2 _).setLow hz2 _).mono (by omega)
    · exact (((((hwb4.trans (hb5.mono (by omega))).setCell (by dsimp only; omega) _).setCell (by dsimp only; omega) _).setCell (by dsimp only; omega) _).setCell (by dsimp only; omega) _)

end Go.Proofs.Ytcncpefdjgnhdaa.Slo
