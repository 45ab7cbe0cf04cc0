/-
  Where a machine is behind an instruction, by the program, whichever it is.
-/
import Derived.Test.YtboffjabffcddaaVrept
import Derived.Test.YtboffjabffcddaaVreck
import Derived.Deep.MidRow
namespace Go.Proofs.Ytboffjabffcddaa
open Go.ChangeShapes Go.WideShapes Go.ChangeAt Go.RowKit
attribute [local go_sem ↓] Go.wp_at_zero Go.wp_at_succ

theorem moved_any (pc : Int) (hp0 : 0 ≤ pc) (hp1 : pc ≤ 1000) (mem : List Int) (hm : mem.length = 8) (q : Option Addr) (k d : Nat) (xo xa xb xn : Int) (hmy : mayB (xo, xa, xb, xn) = true) (w : World) (base : Nat) (hbz : base ≤ w.heap.size) (R : List Rp) (hk : R.length = k) (hk3 : k ≤ 1000) (oR : Own eRp w base 73 q d R) :
    Calls Try.prog 39 #[.agg (mcell pc mem q k d false), .agg #[.int .i64 xo, .int .i64 xa, .int .i64 xb, .int .i64 xn]] w fun e w' => (∃ (q9 : Option Addr) (k9 d9 : Nat), e = .returned (.agg (mcell (nxt pc (xo, xa, xb, xn) mem) mem q9 k9 d9 (decide (xo = 0)))) ∧ (repA pc (xo, xa, xb, xn) R).length = k9 ∧ Own eRp w' base 73 q9 d9 (repA pc (xo, xa, xb, xn) R)) ∧ Below base w w' ∧ Stays w w' q := by
  have hbd := may_bd hmy
  simp only at hbd
  have hmp := may_iff.1 hmy
  unfold mayP at hmp
  simp only at hmp
  have key : ∀ {e : Ending} {w' : World}, xo ≠ 8 → e = .returned (.agg (mcell (nxt pc (xo, xa, xb, xn) mem) mem q k d (decide (xo = 0)))) ∧ Below w.heap.size w w' → (∃ (q9 : Option Addr) (k9 d9 : Nat), e = .returned (.agg (mcell (nxt pc (xo, xa, xb, xn) mem) mem q9 k9 d9 (decide (xo = 0)))) ∧ (repA pc (xo, xa, xb, xn) R).length = k9 ∧ Own eRp w' base 73 q9 d9 (repA pc (xo, xa, xb, xn) R)) ∧ Below base w w' ∧ Stays w w' q := by
    rintro e w' h8 ⟨rfl, hb⟩
    have er : repA pc (xo, xa, xb, xn) R = R := by unfold repA; rw [if_neg (by simpa using h8)]
    rw [er]
    exact ⟨⟨q, k, d, rfl, hk, own_below oR hb⟩, hb.mono hbz, stays_of_below hb⟩
  by_cases h0 : xo = 0
  · have e1 : nxt pc (xo, xa, xb, xn) mem = pc := by unfold nxt; rw [if_pos (by simpa using h0)]
    have e2 : decide (xo = 0) = true := by simpa using h0
    refine (moved_end pc mem hm q k d xo xa xb xn w h0).mono fun e w' h => key (by omega) ?_
    rw [e1, e2]
    exact h
  have e2 : decide (xo = 0) = false := by simpa using h0
  by_cases h7 : xo = 7
  · obtain ⟨V, _, _, hV⟩ : ∃ V : Int, xa.toNat < 8 ∧ xa < 8 ∧ mem[xa.toNat]? = some V := mem_at hm hbd.2.1.1 hbd.2.1.2
    by_cases hv : V = 0
    · have e1 : nxt pc (xo, xa, xb, xn) mem = pc + 1 + xn := by unfold nxt; rw [if_neg (by simpa using h0), if_pos (by simp only; rw [getD_of hV]; exact ⟨h7, hv⟩)]
      refine (moved_skip pc hp0 hp1 mem hm q k d xo xa xb xn w h7 hbd.2.1 V hV hv (by omega) (by omega)).mono fun e w' h => key (by omega) ?_
      rw [e1, e2]
      exact h
    · have e1 : nxt pc (xo, xa, xb, xn) mem = pc + 1 := by unfold nxt; rw [if_neg (by simpa using h0), if_neg (by simp only; rw [getD_of hV]; exact fun h => hv h.2)]
      refine (moved_stay pc hp0 hp1 mem hm q k d xo xa xb xn w h7 hbd.2.1 V hV hv).mono fun e w' h => key (by omega) ?_
      rw [e1, e2]
      exact h
  have e1 : nxt pc (xo, xa, xb, xn) mem = pc + 1 := by unfold nxt; rw [if_neg (by simpa using h0), if_neg (by simp only; exact fun h => h7 h.1)]
  by_cases h8 : xo = 8
  · have er : repA pc (xo, xa, xb, xn) R = R ++ [(pc + 1, pc + xb, xn - 1)] := by unfold repA; rw [if_pos (by simpa using h8)]
    rw [e1, e2, er]
    refine (moved_rep pc hp0 hp1 mem hm q k d xo xa xb xn w h8 hbd.2.2.1.1 (by omega) (by omega) (by omega) base hbz R hk hk3 oR).mono ?_
    rintro e w' ⟨⟨p7, c7, rfl, o7⟩, h⟩
    exact ⟨⟨p7, k + 1, c7, rfl, by simp [hk], o7⟩, h⟩
  · refine (moved_plain pc hp0 hp1 mem hm q k d xo xa xb xn w ⟨h0, h7, h8⟩).mono fun e w' h => key h8 ?_
    rw [e1, e2]
    exact h
/-- the memories are others -/
theorem eight {m : List Int} (h : m.length = 8) : ∃ a b c d e f g i, m = [a, b, c, d, e, f, g, i] := by
  match m, h with
  | [a, b, c, d, e, f, g, i], _ => exact ⟨a, b, c, d, e, f, g, i, rfl⟩
theorem Mc.mems {w : World} {b : Nat} {pc : Int} {mem mem' : List Int} {q : Option Addr} {k d : Nat} {ov : Bool} (h : Mc w b pc mem q k d ov) (hm : mem'.length = 8) : Mc (w.setCells b 1 (cI mem').toList) b pc mem' q k d ov := by
  obtain ⟨a0, a1, a2, a3, a4, a5, a6, a7, rfl⟩ := eight hm
  obtain ⟨c0, c1, c2, c3, c4, c5, c6, c7, rfl⟩ := eight h.len
  exact (((((((h.sm (j := 0) (by decide) a0).sm (j := 1) (by decide) a1).sm (j := 2) (by decide) a2).sm (j := 3) (by decide) a3).sm (j := 4) (by decide) a4).sm (j := 5) (by decide) a5).sm (j := 6) (by decide) a6).sm (j := 7) (by decide) a7
theorem setCells_other {b : Nat} : ∀ (vs : List Value) (w : World) (o : Nat) {g : Nat}, g ≠ b → (w.setCells b o vs).heap[g]? = w.heap[g]?
  | [], _, _, _, _ => rfl
  | v :: r, w, o, g, h => by
    rw [World.setCells]
    exact (setCells_other r _ _ h).trans (heap_setCell_other _ _ _ _ (by simpa using h))
theorem setCells_below {b B : Nat} {w0 : World} (hB : B ≤ b) : ∀ (vs : List Value) (w : World) (o : Nat), Below B w0 w → Below B w0 (w.setCells b o vs)
  | [], _, _, h => h
  | v :: r, w, o, h => by
    rw [World.setCells]
    exact setCells_below hB r _ _ (h.setCell hB _)
theorem setCells_size {b : Nat} : ∀ (vs : List Value) (w : World) (o : Nat), (w.setCells b o vs).heap.size = w.heap.size
  | [], _, _ => rfl
  | v :: r, w, o => by
    rw [World.setCells, setCells_size r]
    simp [World.setCell]
theorem Mc.range {w : World} {b : Nat} {pc : Int} {mem : List Int} {q : Option Addr} {k d : Nat} {ov : Bool} (h : Mc w b pc mem q k d ov) : w.rangeAt b 1 (cI mem).toList := by
  intro j v hv
  simp only [cI, List.getElem?_map] at hv
  cases hj : mem[j]? with
  | none => simp [hj] at hv
  | some V =>
    simp [hj] at hv
    subst hv
    obtain ⟨hl, rfl⟩ := List.getElem?_eq_some_iff.1 hj
    exact h.cm (by rw [← h.len]; exact hl)
theorem Mc.there {w : World} {b : Nat} {pc : Int} {mem : List Int} {q : Option Addr} {k d : Nat} {ov : Bool} (h : Mc w b pc mem q k d ov) : w.there b 1 8 := by
  intro j hj
  exact ⟨by rw [h.cm hj]; rfl, h.fr _⟩
end Go.Proofs.Ytboffjabffcddaa
