/-
  A slice of integers that the call owns, wherever it begins in its block: it is read, cut at its front, appended to.
-/
import Derived.Test.YtfghondhonflaaaKeep
import Derived.Deep.Upon
namespace Go.Proofs.Ytfghondhonflaaa
open Go.ChangeShapes Go.WideShapes Go.ChangeAt Go.RowKit
attribute [local go_sem ↓] Go.wp_at_zero Go.wp_at_succ

structure Sub (w : World) (base : Nat) (p : Option Addr) (c : Nat) (l : List Int) : Prop where
  rd : Rd eI w p c l
  max : c ≤ maxLen
  own : (p = none ∧ c = 0) ∨ ∃ b o, p = some ⟨b, o, none⟩ ∧ base ≤ b ∧ b < w.heap.size ∧ ∀ j, j < c → (w.cell? ⟨b, o + j, none⟩).isSome = true ∧ w.frozen? ⟨b, o + j, none⟩ = false
theorem Sub.nil (w : World) (base : Nat) : Sub w base none 0 [] := ⟨Rd.nil _, Nat.zero_le _, .inl ⟨rfl, rfl⟩⟩
theorem Sub.lt {w : World} {base : Nat} {b o c : Nat} {l : List Int} (h : Sub w base (some ⟨b, o, none⟩) c l) : b < w.heap.size := by
  rcases h.own with ⟨h1, _⟩ | ⟨b', o', h1, _, h2, _⟩
  · cases h1
  · cases h1; exact h2
theorem Sub.ge {w : World} {base : Nat} {b o c : Nat} {l : List Int} (h : Sub w base (some ⟨b, o, none⟩) c l) : base ≤ b := by
  rcases h.own with ⟨h1, _⟩ | ⟨b', o', h1, h2, _, _⟩
  · cases h1
  · cases h1; exact h2
/-- whatever else turns -/
theorem Sub.block {w w' : World} {base : Nat} {p : Option Addr} {c : Nat} {l : List Int} (h : Sub w base p c l) (hs : w.heap.size ≤ w'.heap.size) (hb : ∀ b o, p = some ⟨b, o, none⟩ → w'.heap[b]? = w.heap[b]?) : Sub w' base p c l := by
  have hrd : Rd eI w' p c l := by
    refine ⟨h.rd.cap, ?_⟩
    rcases h.own with ⟨h1, h2⟩ | ⟨b, o, h1, _, h3, h4⟩
    · subst h1 h2
      have := h.rd.cap
      exact .inl ⟨rfl, List.eq_nil_of_length_eq_zero (by omega), rfl⟩
    · rcases h.rd.at_ with ⟨h5, _⟩ | ⟨b', o', s, h5, hs, hc⟩
      · rw [h1] at h5; cases h5
      · rw [h1] at h5
        cases h5
        exact .inr ⟨b, o, none, h1, fun _ => rfl, fun j v hj => by rw [World.cell?_of_block (a := ⟨b, o + j, none⟩) (hb b o h1)]; exact hc j v hj⟩
  refine ⟨hrd, h.max, ?_⟩
  rcases h.own with h0 | ⟨b, o, h1, h2, h3, h4⟩
  · exact .inl h0
  · refine .inr ⟨b, o, h1, h2, Nat.lt_of_lt_of_le h3 hs, fun j hj => ?_⟩
    rw [World.cell?_of_block (a := ⟨b, o + j, none⟩) (hb b o h1), World.frozen?_of_block (a := ⟨b, o + j, none⟩) (hb b o h1)]
    exact h4 j hj
theorem Sub.below {w w' : World} {base : Nat} {p : Option Addr} {c : Nat} {l : List Int} (h : Sub w base p c l) (hb : Below w.heap.size w w') : Sub w' base p c l :=
  h.block hb.size (fun b o e => hb.block b (by subst e; exact h.lt))
theorem Sub.drop {w : World} {base : Nat} {p : Option Addr} {c : Nat} {x : Int} {l : List Int} (h : Sub w base p c (x :: l)) : ∃ b o, p = some ⟨b, o, none⟩ ∧ Sub w base (if c = 1 then some ⟨b, o, none⟩ else some ⟨b, o + 1, none⟩) (c - 1) l := by
  have hcap := h.rd.cap
  simp only [List.length_cons] at hcap
  rcases h.own with ⟨_, h2⟩ | ⟨b, o, h1, h2, h3, h4⟩
  · omega
  · subst h1
    refine ⟨b, o, rfl, ?_, by have := h.max; omega, ?_⟩
    · have := h.rd.drop 1 (by simp)
      simpa [eI, Addr.add] using this
    · by_cases hc : c = 1
      · rw [if_pos hc]
        exact .inr ⟨b, o, rfl, h2, h3, fun j hj => by omega⟩
      · rw [if_neg hc]
        exact .inr ⟨b, o + 1, rfl, h2, h3, fun j hj => by rw [Nat.add_assoc]; exact h4 (1 + j) (by omega)⟩
theorem cell_set_at (w : World) (b o j : Nat) (v : Value) (h : (w.cell? ⟨b, j, none⟩).isSome = true) : (w.setCell ⟨b, o, none⟩ v).cell? ⟨b, j, none⟩ = if j = o then some v else w.cell? ⟨b, j, none⟩ := by
  by_cases e : j = o
  · subst e
    rw [if_pos rfl]
    have := World.cell?_setCells_in b [v] j w (by simpa using h) 0 (by simp)
    simpa [World.setCells] using this
  · rw [if_neg e]
    have := World.cell?_setCells_out b [v] o w ⟨b, j, none⟩ (fun _ _ => by show j < o ∨ o + 1 ≤ j; omega)
    simpa [World.setCells] using this
/-- one more -/
theorem run_one (w : World) (ty : TypeId) (base : Nat) (p : Option Addr) (c : Nat) (l : List Int) (h : Sub w base p c l) (n : Nat) (hn : l.length = n) (hn9 : n ≤ 1000) (hbase : base ≤ w.heap.size) (b1 o1 : Nat) (x : Int) (hx : w.cell? ⟨b1, o1, none⟩ = some (.int .i64 x)) :
    ∃ p' c' w', (Builtin.append_ #[23, 23] ty #[.slice p n c, .slice (some ⟨b1, o1, none⟩) 1 1]).run Try.prog w = .ok (.slice p' (n + 1) c') w' ∧ Sub w' base p' c' (l ++ [x]) ∧ w.heap.size ≤ w'.heap.size ∧ w'.os = w.os ∧ w'.tape = w.tape ∧ w'.output = w.output ∧
      (∀ b, b < w.heap.size → (∀ o, p ≠ some ⟨b, o, none⟩) → w'.heap[b]? = w.heap[b]?) ∧ (p' = p ∨ ∃ g, p' = some ⟨g, 0, none⟩ ∧ w.heap.size ≤ g) := by
  obtain ⟨i, z, hi, hz0, hz1, hz3, hz2⟩ := tI.info
  have hk : eI.k = 1 := rfl
  rw [hk] at hz1 hz3
  have hcap := h.rd.cap
  rw [hn] at hcap
  have hsrc : ∀ w2 : World, w2.heap = w.heap → Src Try.prog i.size 23 (.slice (some ⟨b1, o1, none⟩) 1 1) 1 [.int .i64 x] w2 := fun w2 e => by
    rw [hz1]
    refine Src.ofSlice w2 tI.und ⟨b1, o1, none⟩ 1 1 [.int .i64 x] rfl (fun j u hj => ?_) (by simp [Value.oneCell'])
    match j with
    | 0 =>
      simp at hj
      subst hj
      rw [add_plain, Nat.add_zero]
      show World.cell? w2 _ = _
      unfold World.cell? at hx ⊢
      rw [e]
      exact hx
    | j + 1 => simp at hj
  have hfl : fl eI (l ++ [x]) = fl eI l ++ [.int .i64 x] := by rw [fl_append]; rfl
  have hflen : (fl eI l).length = n := by rw [flI_length]; exact hn
  by_cases hroom : n + 1 ≤ c
  · obtain ⟨b, o, rfl, hb1, hb2, hcell⟩ : ∃ b o, p = some ⟨b, o, none⟩ ∧ base ≤ b ∧ b < w.heap.size ∧ ∀ j, j < c → (w.cell? ⟨b, o + j, none⟩).isSome = true ∧ w.frozen? ⟨b, o + j, none⟩ = false := by
      rcases h.own with ⟨_, h2⟩ | h0
      · omega
      · exact h0
    have hrun := run_append_room_src (P := Try.prog) w 23 23 ty 3 i tI.und hi b o n c (.slice (some ⟨b1, o1, none⟩) 1 1) 1 [.int .i64 x] (hsrc w rfl) hroom
      (fun j hj => by simp at hj; subst hj; rw [hz1, Nat.mul_one]; exact (hcell n (by omega)).1) (fun j hj => by simp at hj; subst hj; rw [hz1, Nat.mul_one]; exact (hcell n (by omega)).2)
    rw [hz1, Nat.mul_one] at hrun
    refine ⟨_, _, _, hrun, ⟨⟨by simp; omega, .inr ⟨b, o, none, rfl, fun _ => rfl, fun j v hj => ?_⟩⟩, h.max, .inr ⟨b, o, rfl, hb1, ?_, fun j hj => ?_⟩⟩, ?_, rfl, rfl, rfl, fun k hk' hne => ?_, .inl rfl⟩
    · have hjn : j < n + 1 := by
        have := (List.getElem?_eq_some_iff.1 hj).1
        rw [hfl] at this
        simp [hflen] at this
        exact this
      show (w.setCell ⟨b, o + n, none⟩ (.int .i64 x)).cell? ⟨b, o + j, none⟩ = some v
      rw [cell_set_at w b (o + n) (o + j) _ (hcell j (by omega)).1]
      rw [hfl] at hj
      by_cases e : j = n
      · subst e
        rw [if_pos rfl]
        rw [List.getElem?_append_right (by omega), hflen] at hj
        simpa using hj
      · rw [if_neg (by omega)]
        rw [List.getElem?_append_left (by omega)] at hj
        rcases h.rd.at_ with ⟨h5, _⟩ | ⟨b', o', s, h5, _, hc⟩
        · cases h5
        · cases h5
          exact hc j v hj
    · show b < (w.setCell ⟨b, o + n, none⟩ (.int .i64 x)).heap.size
      simpa [World.setCell] using hb2
    · show ((w.setCell ⟨b, o + n, none⟩ (.int .i64 x)).cell? ⟨b, o + j, none⟩).isSome = true ∧ (w.setCell ⟨b, o + n, none⟩ (.int .i64 x)).frozen? ⟨b, o + j, none⟩ = false
      rw [cell_set_at w b (o + n) (o + j) _ (hcell j hj).1, World.frozen?_setCell]
      refine ⟨?_, (hcell j hj).2⟩
      split
      · rfl
      · exact (hcell j hj).1
    · show w.heap.size ≤ (w.setCell ⟨b, o + n, none⟩ (.int .i64 x)).heap.size
      simp [World.setCell]
    · show (w.setCell ⟨b, o + n, none⟩ (.int .i64 x)).heap[k]? = w.heap[k]?
      exact Below.heap_setCell _ _ _ _ (by intro e; subst e; exact hne o rfl)
  · have hge := grownCap_ge w (n + 1) c 3
    have hcm := grownCap_le_maxLen w (n + 1) c 3 (by unfold maxLen; omega)
    have hold : (Builtin.firstCells i.size n (.slice p n c)).run Try.prog w.drew = .ok (fl eI l).toArray w.drew := by
      rcases h.rd.at_ with ⟨rfl, rfl, rfl⟩ | ⟨b, o, s, rfl, hs, hc⟩
      · simp at hn
        subst hn
        exact run_firstCells_none w.drew i.size 0 0 0
      · by_cases hl : l = []
        · subst hl
          simp at hn
          subst hn
          exact run_firstCells_some w.drew i.size 0 _ 0 c [] (by simp) (by simp)
        · have := hs hl
          subst this
          exact run_firstCells_some w.drew i.size n ⟨b, o, none⟩ n c (fl eI l) (by rw [hflen, hz1, Nat.mul_one]) (fun j u hj => by rw [add_plain]; exact hc j u hj)
    have hrun := run_append_grow_src (P := Try.prog) w 23 23 ty 3 i z tI.und hi hz0 p n c (fl eI l) hold (.slice (some ⟨b1, o1, none⟩) 1 1) 1 [.int .i64 x] (hsrc w rfl) (by omega) (by omega) (growslice_fits (by omega) (by have := Nat.mul_le_mul (show n + 1 ≤ 1001 by omega) hz2; omega))
    rw [← hfl] at hrun
    refine ⟨_, _, _, hrun, ⟨⟨by simp; omega, .inr ⟨w.heap.size, 0, none, rfl, fun _ => rfl, fun j v hj => ?_⟩⟩, hcm, .inr ⟨w.heap.size, 0, rfl, hbase, by simp, fun j hj => ?_⟩⟩, by simp, rfl, rfl, rfl, fun k hk' _ => heap_alloc_old w.drew _ hk', .inr ⟨_, rfl, Nat.le_refl _⟩⟩
    · have hjn : j < (fl eI (l ++ [x])).length := (List.getElem?_eq_some_iff.1 hj).1
      have e1 : (w.drew.alloc (.cells ((fl eI (l ++ [x])).toArray ++ Builtin.zeroCells z.cells (grownCap w (n + 1) c 3 - (n + 1))) 3)).cell? ⟨w.heap.size, j, none⟩ = _ := World.cell?_alloc_new w.drew _ _ j
      rw [Nat.zero_add, e1, Array.getElem?_append_left (by simpa using hjn)]
      simpa using hj
    · have e1 : (w.drew.alloc (.cells ((fl eI (l ++ [x])).toArray ++ Builtin.zeroCells z.cells (grownCap w (n + 1) c 3 - (n + 1))) 3)).cell? ⟨w.heap.size, j, none⟩ = _ := World.cell?_alloc_new w.drew _ _ j
      rw [Nat.zero_add]
      refine ⟨?_, World.frozen?_alloc_new w.drew _ _ j⟩
      rw [e1]
      have hsz : ((fl eI (l ++ [x])).toArray ++ Builtin.zeroCells z.cells (grownCap w (n + 1) c 3 - (n + 1))).size = grownCap w (n + 1) c 3 := by
        rw [Array.size_append, List.size_toArray, flI_length, size_zeroCells, hz3]
        simp [hn]
        omega
      rw [Array.getElem?_eq_getElem (by rw [hsz]; exact hj)]
      rfl
/-- one more, as a step of a region that draws its order -/
theorem step_one (w : World) {ops : Array Oper} {o : Oper} {a : Act} {K : Act → World → Prop} {Q : Exit → Act → World → Prop} {G : Prop} (hgd : o.guard = none) (s x : Operand)
    (ho : o.op = .call { callee := .builtin .append, args := #[s, x], argTypes := #[23, 23] }) (base : Nat) (p : Option Addr) (c : Nat) (l : List Int) (h : Sub w base p c l) (n : Nat) (hn : l.length = n) (hn9 : n ≤ 1000) (hbase : base ≤ w.heap.size)
    (b1 o1 : Nat) (v : Int) (hv : w.cell? ⟨b1, o1, none⟩ = some (.int .i64 v)) (hs : a.eval s = .slice p n c) (hx : a.eval x = .slice (some ⟨b1, o1, none⟩) 1 1)
    (hK : ∀ p' c' w', Sub w' base p' c' (l ++ [v]) → w.heap.size ≤ w'.heap.size → w'.os = w.os → w'.tape = w.tape → w'.output = w.output → (∀ b, b < w.heap.size → (∀ o, p ≠ some ⟨b, o, none⟩) → w'.heap[b]? = w.heap[b]?) → (p' = p ∨ ∃ g, p' = some ⟨g, 0, none⟩ ∧ w.heap.size ≤ g) → K (a.put o.dst (.slice p' (n + 1) c')) w') :
    if Region.wanted o (yielded ops a.tmps) = true then Oper.wp Try.prog o a w K Q else G := by
  obtain ⟨p', c', w', hrun, h1, h2, h3, h4, h5, h6, h7⟩ := run_one w o.type base p c l h n hn hn9 hbase b1 o1 v hv
  exact step_append_run hgd s x 23 23 ho _ _ hs hx hrun (hK p' c' w' h1 h2 h3 h4 h5 h6 h7)
end Go.Proofs.Ytfghondhonflaaa
