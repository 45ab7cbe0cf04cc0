/-
  What is held so far: a row of places, and a map from where each was taken.
-/
import Derived.Test.YteikdocpncdheaaIndex
import Derived.Test.YteikdocpncdheaaPicks
namespace Go.Proofs.Yteikdocpncdheaa
open Go.ChangeShapes Go.WideShapes Go.ChangeAt Go.RowKit
attribute [local go_sem ↓] Go.wp_at_zero Go.wp_at_succ

/-- At hb lies a struct of a row of places o, its own, and a map, at mb, of the entries m; all from base on. -/
structure Hx (w : World) (base hb mb : Nat) (o : List Nat) (m : List En) : Prop where
  hq : ∃ q d, w.heap[hb]? = some (.cells #[.slice q o.length d, .map (some mb)] 74 (0, 0)) ∧ Own eI w base 3 q d (oI o)
  mp : IsMp w mb m
  b1 : base ≤ hb
  b2 : base ≤ mb
theorem own_len {w : World} {base : Nat} {q : Option Addr} {d n : Nat} {l : List Int} (h : Own eI w base 3 q d l) (hn : l.length = n) : w.ownsRow base 3 1 (.slice q n d) n (fl eI l) := by subst hn; exact h
theorem own_ne {w : World} {base : Nat} {q : Option Addr} {d b : Nat} {l : List Int} {cs : Array Value} (h : Own eI w base 3 q d l) (hb : w.heap[b]? = some (.cells cs 74 (0, 0))) : ∀ g, q = some ⟨g, 0, none⟩ → b ≠ g := by
  rintro g rfl rfl
  rcases h.2 with ⟨h1, _⟩ | ⟨g, cap, cur, h1, _, h2, _⟩
  · simp only [Value.slice.injEq] at h1; cases h1.1
  · simp only [Value.slice.injEq, Option.some.injEq, Addr.mk.injEq, true_and] at h1
    obtain ⟨⟨rfl, _⟩, _⟩ := h1
    rw [h2] at hb
    simp at hb
theorem own_nm {w : World} {base : Nat} {q : Option Addr} {d b : Nat} {l : List Int} {m : List En} (h : Own eI w base 3 q d l) (hb : IsMp w b m) : ∀ g, q = some ⟨g, 0, none⟩ → b ≠ g := by
  rintro g rfl rfl
  obtain ⟨es, cl, hb, _⟩ := hb
  rcases h.2 with ⟨h1, _⟩ | ⟨g, cap, cur, h1, _, h2, _⟩
  · simp only [Value.slice.injEq] at h1; cases h1.1
  · simp only [Value.slice.injEq, Option.some.injEq, Addr.mk.injEq, true_and] at h1
    obtain ⟨⟨rfl, _⟩, _⟩ := h1
    rw [h2] at hb
    simp at hb
theorem own_q {w : World} {base : Nat} {q : Option Addr} {d : Nat} {l : List Int} (h : Own eI w base 3 q d l) : q = none ∨ ∃ g, q = some ⟨g, 0, none⟩ := by
  rcases h.2 with ⟨h1, _⟩ | ⟨g, cap, cur, h1, _⟩
  · simp only [Value.slice.injEq] at h1; exact .inl h1.1
  · simp only [Value.slice.injEq] at h1; exact .inr ⟨g, h1.1⟩
theorem ownBlock_ne {q : Option Addr} {n d b : Nat} (hq : q = none ∨ ∃ g, q = some ⟨g, 0, none⟩) (h : ∀ g, q = some ⟨g, 0, none⟩ → b ≠ g) : (Value.slice q n d).ownBlock ≠ some b := by
  rcases hq with rfl | ⟨g, rfl⟩
  · simp [Value.ownBlock]
  · have := h g rfl
    simp [Value.ownBlock]
    exact fun e => this e.symm
theorem own_take {w : World} {base : Nat} {q : Option Addr} {d : Nat} {l : List Int} (h : Own eI w base 3 q d l) (hl : 0 < l.length) (k : Nat) (hk : k ≤ l.length) : Own eI w base 3 q d (l.take k) := by
  have hlen : (l.take k).length = k := by simp; omega
  unfold Own
  rw [hlen]
  refine ⟨by rw [fl_length, hlen], ?_⟩
  rcases h.2 with ⟨h1, h2⟩ | ⟨g, cap, cur, h1, h2, h3, h4, h5, h6, h7⟩
  · omega
  · simp only [Value.slice.injEq, true_and] at h1
    obtain ⟨rfl, rfl⟩ := h1
    refine .inr ⟨g, d, cur, rfl, h2, h3, by omega, h5, h6, ?_⟩
    rw [← fl_take, ← h7, List.take_take]
    congr 1
    simp [eI]
    omega

theorem Hx.below {w w' : World} {base hb mb : Nat} {o : List Nat} {m : List En} (h : Hx w base hb mb o m) (hb' : Below w.heap.size w w') : Hx w' base hb mb o m := by
  obtain ⟨⟨q, d, h1, h2⟩, h3, h4, h5⟩ := h
  exact ⟨⟨q, d, (hb'.block hb (lt_of_block h1)).trans h1, own_below h2 hb'⟩, h3.below hb', h4, h5⟩
/-- the map has turned -/
theorem Hx.kp {w w' : World} {base hb mb : Nat} {o : List Nat} {m m' : List En} (h : Hx w base hb mb o m) (hk : Kp mb w w') (hm : IsMp w' mb m') : Hx w' base hb mb o m' := by
  obtain ⟨⟨q, d, h1, h2⟩, h3, h4, h5⟩ := h
  have hne : ¬ hb = mb := by
    rintro rfl
    obtain ⟨es, cl, h6, _⟩ := h3
    rw [h6] at h1
    cases h1
  refine ⟨⟨q, d, (hk.block hb (lt_of_block h1) (by intro e; cases e; exact hne rfl)).trans h1, ?_⟩, hm, h4, h5⟩
  exact World.ownsRow.kept h2 hk (.inr (ownBlock_ne (own_q h2) (own_nm h2 h3)))
/-- the row is another one -/
theorem Hx.row {w w1 : World} {base hb mb : Nat} {o o' : List Nat} {m : List En} (h : Hx w base hb mb o m) (e1 : w1.heap[hb]? = w.heap[hb]?) (e2 : w1.heap[mb]? = w.heap[mb]?) {p : Option Addr} {c n : Nat} (hn : o'.length = n) (ho : Own eI w1 base 3 p c (oI o')) :
    Hx (w1.setCell ⟨hb, 0, none⟩ (.slice p n c)) base hb mb o' m := by
  subst hn
  obtain ⟨⟨q, d, h1, h2⟩, h3, h4, h5⟩ := h
  have hne : ¬ mb = hb := by
    rintro rfl
    obtain ⟨es, cl, h6, _⟩ := h3
    rw [h6] at h1
    cases h1
  have h1' := e1.trans h1
  refine ⟨⟨p, c, ?_, ?_⟩, (h3.of_block e2).of_block (heap_setCell_other _ _ _ _ hne), h4, h5⟩
  · rw [heap_setCell_same _ _ _ _ _ _ h1']
    rfl
  · exact ownsRow_setCell_other ho (ownBlock_ne (own_q ho) (own_ne ho h1')) _
theorem Hx.facts {w : World} {base hb mb : Nat} {o : List Nat} {m : List En} (h : Hx w base hb mb o m) :
    ∃ q d, w.heap[hb]? = some (.cells #[.slice q o.length d, .map (some mb)] 74 (0, 0)) ∧ Own eI w base 3 q d (oI o) ∧ w.cell? ⟨hb, 0, none⟩ = some (.slice q o.length d) ∧ w.cell? ⟨hb, 1, none⟩ = some (.map (some mb)) ∧ hb < w.heap.size ∧ mb < w.heap.size ∧ ¬ hb = mb ∧ (∀ j, w.frozen? ⟨hb, j, none⟩ = false) := by
  obtain ⟨⟨q, d, h1, h2⟩, h3, h4, h5⟩ := h
  refine ⟨q, d, h1, h2, by rw [cell_of_row _ _ _ _ _ _ h1]; rfl, by rw [cell_of_row _ _ _ _ _ _ h1]; rfl, lt_of_block h1, h3.lt, ?_, fun j => frozen_of_row _ _ _ _ _ h1⟩
  rintro rfl
  obtain ⟨es, cl, h6, _⟩ := h3
  rw [h6] at h1
  cases h1
def ents (l : List In) (o : List Nat) : List En := o.map fun k => (siteL l k, (k : Int))
theorem oI_snoc (o : List Nat) (a : Nat) : oI (o ++ [a]) = oI o ++ [(a : Int)] := by simp [oI]
theorem ents_snoc (l : List In) (o : List Nat) (a : Nat) : ents l (o ++ [a]) = ents l o ++ [(siteL l a, (a : Int))] := by simp [ents]
theorem ents_ne {l : List In} {o : List Nat} {a : Nat} (h : o.any (sameA l a) = false) : ∀ x ∈ ents l o, siteL l a ≠ x.1 := by
  intro x hx e
  simp only [ents, List.mem_map] at hx
  obtain ⟨k, hk, rfl⟩ := hx
  rw [List.any_eq_false] at h
  apply h k hk
  simp only [siteL, List.cons.injEq] at e
  simp [sameA, e.1]
end Go.Proofs.Yteikdocpncdheaa
