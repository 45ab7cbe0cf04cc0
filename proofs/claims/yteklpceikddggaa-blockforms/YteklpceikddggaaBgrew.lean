/-
  Rows that grow, and where they lie then.
-/
import Derived.Test.YteklpceikddggaaTthree
import Derived.Test.YteklpceikddggaaBrceil
namespace Go.Proofs.Yteklpceikddggaa
open Go.ChangeShapes Go.WideShapes Go.ChangeAt Go.RowKit
attribute [local go_sem ↓] Go.wp_at_zero Go.wp_at_succ

/-- A row has grown, from p to p': all blocks but p's are as they were, and p' is p's block or a new one. -/
structure Grew (w w' : World) (p p' : Option Addr) : Prop where
  stays : ∀ b, b < w.heap.size → Far p b → w'.heap[b]? = w.heap[b]?
  far : ∀ b, b < w.heap.size → Far p b → Far p' b

theorem run_appG {α : Type} {P : Program} {E : Elt α} {t e : TypeId} (T : Ty P E t e) (w : World) (ty : TypeId) (base : Nat) (p : Option Addr) (c : Nat) (l : List α) (hown : Own E w base e p c l) (q : Option Addr) (d : Nat) (m : List α) (hr : Rd E w q d m) (hlen : l.length + m.length ≤ 2000) (hbase : base ≤ w.heap.size) :
    ∃ p' c' w', (Builtin.append_ #[t, t] ty #[.slice p l.length c, .slice q m.length d]).run P w = .ok (.slice p' (l.length + m.length) c') w' ∧ Own E w' base e p' c' (l ++ m) ∧ Below base w w' ∧ Grew w w' p p' := by
  obtain ⟨i, z, hi, hz0, hz1, hz3, hz2⟩ := T.info
  have hcap := own_cap hown
  by_cases h0 : m = []
  · subst h0
    refine ⟨p, c, w, ?_, by simpa using hown, Below.refl _ _, ⟨fun _ _ _ => rfl, fun _ _ h => h⟩⟩
    have hp : p = none ∨ ∃ g, p = some ⟨g, 0, none⟩ := by
      rcases hown.2 with ⟨h1, _⟩ | ⟨g, cap, cur, h1, _⟩
      · simp only [Value.slice.injEq] at h1; exact .inl h1.1
      · simp only [Value.slice.injEq] at h1; exact .inr ⟨g, h1.1⟩
    rcases hr.at_ with ⟨rfl, _, rfl⟩ | ⟨b, o, s, rfl, _, _⟩ <;> rcases hp with rfl | ⟨g, rfl⟩
    all_goals simp [Builtin.append_, run_underlying T.und, sizeOf, typeInfo, hi, Builtin.lenOf, Builtin.firstCells, storeCells, loadCells, loadCellsFrom, hcap]
  · have hpos : 0 < m.length := List.length_pos_iff.2 h0
    obtain ⟨b, o, rfl, hb, hc⟩ := hr.pos hpos
    have hby : (l.length + m.length) * i.bytes ≤ 140737488355328 := by
      have := Nat.mul_le_mul hlen hz2
      omega
    obtain ⟨v', w', hrun, h2, h3, h4, h5⟩ := run_append_own_at (P := P) w base t ty e i z E.k i.bytes T.und hi hz0 hz1 rfl hz3 E.pos (.slice p l.length c) l.length (fl E l) hown ⟨b, o, none⟩ m.length d (fl E m) (fl_length E m)
      (fun j u hu => by rw [add_plain]; exact hc j u hu) (fl_one E m) (by simp only [maxLen]; omega) hby hbase
    obtain ⟨g, cap, rfl, _, _⟩ := World.ownsRow.form h2 (by omega)
    have hlo := World.ownsRow.lt hown
    have hp0 : ∀ b, Far p b → (Value.slice p l.length c).ownBlock ≠ some b := by
      intro b hf e
      rcases hown.2 with ⟨h1, _⟩ | ⟨g', cap', cur', h1, _⟩
      · simp only [Value.slice.injEq] at h1
        obtain ⟨rfl, _⟩ := h1
        simp [Value.ownBlock] at e
      · simp only [Value.slice.injEq] at h1
        obtain ⟨rfl, _⟩ := h1
        simp [Value.ownBlock] at e
        exact hf g' 0 rfl e
    refine ⟨_, _, _, hrun, ?_, (Below.refl _ _).grown h3 hbase (fun k hk => (hlo k hk).1), ⟨fun x hx hne => h3.block x hx (fun e => hp0 x hne e.symm), fun x hx hne => ?_⟩⟩
    · unfold Own
      rw [fl_append, List.length_append]
      exact h2
    · intro b' o' e
      cases e
      rcases h5 with h5 | h5
      · intro e
        subst e
        exact hp0 _ hne (by rw [← h5]; simp [Value.ownBlock])
      · simp [Value.ownBlock] at h5
        omega

theorem wpList_appG {α : Type} {P : Program} {E : Elt α} {t e : TypeId} (T : Ty P E t e) (w : World) {ops : Array Oper} {rest : List Oper} {o : Oper} {a : Act} {Q : Exit → Act → World → Prop} (hgd : o.guard = none) (s x : Operand)
    (ho : o.op = .call { callee := .builtin .append, args := #[s, x], argTypes := #[t, t] }) (base : Nat) (p : Option Addr) (c : Nat) (l : List α) (N : Nat) (hN : l.length = N) (hs : a.eval s = .slice p N c) (hown : Own E w base e p c l)
    (q : Option Addr) (d : Nat) (m : List α) (M : Nat) (hM : m.length = M) (hx : a.eval x = .slice q M d) (hr : Rd E w q d m) (hlen : N + M ≤ 2000) (hbase : base ≤ w.heap.size) (R : Nat) (hR : N + M = R)
    (h : ∀ p' c' w', Own E w' base e p' c' (l ++ m) → Below base w w' → Grew w w' p p' → wpList P ops Q rest (a.put o.dst (.slice p' R c')) w') : wpList P ops Q (o :: rest) a w := by
  subst hN hM hR
  obtain ⟨p', c', w', hrun, h1, h2, h3⟩ := run_appG T w o.type base p c l hown q d m hr hlen hbase
  exact Lib.wpList_append_run w hgd s x t t ho _ _ hs hx _ _ hrun (h p' c' w' h1 h2 h3)

theorem step_appG {α : Type} {P : Program} {E : Elt α} {t e : TypeId} (T : Ty P E t e) (w : World) {ops : Array Oper} {o : Oper} {a : Act} {K : Act → World → Prop} {Q : Exit → Act → World → Prop} {G : Prop} (hgd : o.guard = none) (s x : Operand)
    (ho : o.op = .call { callee := .builtin .append, args := #[s, x], argTypes := #[t, t] }) (base : Nat) (p : Option Addr) (c : Nat) (l : List α) (N : Nat) (hN : l.length = N) (hs : a.eval s = .slice p N c) (hown : Own E w base e p c l)
    (q : Option Addr) (d : Nat) (m : List α) (M : Nat) (hM : m.length = M) (hx : a.eval x = .slice q M d) (hr : Rd E w q d m) (hlen : N + M ≤ 2000) (hbase : base ≤ w.heap.size) (R : Nat) (hR : N + M = R)
    (h : ∀ p' c' w', Own E w' base e p' c' (l ++ m) → Below base w w' → Grew w w' p p' → K (a.put o.dst (.slice p' R c')) w') :
    if Region.wanted o (yielded ops a.tmps) = true then Oper.wp P o a w K Q else G := by
  subst hN hM hR
  obtain ⟨p', c', w', hrun, h1, h2, h3⟩ := run_appG T w o.type base p c l hown q d m hr hlen hbase
  exact step_append_run hgd s x t t ho _ _ hs hx hrun (h p' c' w' h1 h2 h3)

theorem rd_grew {α : Type} {E : Elt α} {w w' : World} {p p' q : Option Addr} {c : Nat} {l : List α} (h : Rd E w q c l) (hg : Grew w w' p p') (hf : l ≠ [] → ∀ b o, q = some ⟨b, o, none⟩ → Far p b) : Rd E w' q c l := by
  refine ⟨h.cap, ?_⟩
  rcases h.at_ with h0 | ⟨b, o, s, rfl, hs, hc⟩
  · exact .inl h0
  · by_cases hl : l = []
    · subst hl
      exact .inr ⟨b, o, s, rfl, fun h => absurd rfl h, fun j v hj => by simp [fl] at hj⟩
    · have := hs hl
      subst this
      have hne := hf hl b o rfl
      exact .inr ⟨b, o, none, rfl, fun _ => rfl, fun j v hj => (World.cell?_of_block (a := ⟨b, o + j, none⟩) (hg.stays b (lt_of_cell (hc j v hj)) hne)).trans (hc j v hj)⟩
theorem info33z : (Try.prog.info? 33).map (fun i => (i.zero, i.size, i.bytes)) = some (some (.agg #[.int .i64 0, .int .i64 0, .int .i64 0, .slice none 0 0, .slice none 0 0, .slice none 0 0]), 6, 96) := by kernel_rfl
theorem tTk : Ty Try.prog eTk 24 33 := by
  obtain ⟨i, hi, h0, h1, h2⟩ := info_parts info33z
  exact ⟨Try.underlying24, i, _, hi, h0, h1, rfl, by omega⟩
/-- where the rows of a task lie: behind g, and not where p does -/
def Ab (g : Nat) (p q : Option Addr) (l : List In) : Prop := l ≠ [] → ∀ b o, q = some ⟨b, o, none⟩ → g < b ∧ Far p b
/-- the row of tasks under way -/
structure Rx (w : World) (g : Nat) (wr : World) (p : Option Addr) (m c : Nat) (P : List Tv) (SP : List Sn) : Prop where
  own : Own eTk wr (g + 1) 33 p c P
  len : P.length = m
  sl : SP.length = m
  tk : ∀ (k : Nat) (h1 : k < P.length) (h2 : k < SP.length), ∃ M W O, Gt wr P[k] M W O ∧ erT P[k].r P[k].p P[k].e M W O = 0 ∧ spaT 0 M W = SP[k] ∧ (Lk3 M ∧ Lk3 W) ∧ Ab g p P[k].mp M ∧ Ab g p P[k].wp W ∧ Ab g p P[k].op O
  pk : Pk wr g
  bel : Below g w wr
section
variable {w wr w2 : World} {g : Nat} {p : Option Addr} {m c : Nat} {P : List Tv} {SP : List Sn}
theorem gt_kp {x : Tv} {M W O : List In} (h : Gt wr x M W O) (hk : Kp g wr w2) (a : Ab g p x.mp M) (b : Ab g p x.wp W) (d : Ab g p x.op O) : Gt w2 x M W O :=
  ⟨{ h.k with rM := rd_kp h.k.rM hk (fun b o e hl => by have := (a hl b o e).1; omega), rW := rd_kp h.k.rW hk (fun b' o e hl => by have := (b hl b' o e).1; omega), rO := rd_kp h.k.rO hk (fun b' o e hl => by have := (d hl b' o e).1; omega) }, h.r, h.p, h.e⟩
theorem gt_grew {p' : Option Addr} {x : Tv} {M W O : List In} (h : Gt wr x M W O) (hg : Grew wr w2 p p') (a : Ab g p x.mp M) (b : Ab g p x.wp W) (d : Ab g p x.op O) : Gt w2 x M W O :=
  ⟨{ h.k with rM := rd_grew h.k.rM hg (fun hl b' o e => (a hl b' o e).2), rW := rd_grew h.k.rW hg (fun hl b' o e => (b hl b' o e).2), rO := rd_grew h.k.rO hg (fun hl b' o e => (d hl b' o e).2) }, h.r, h.p, h.e⟩
theorem Ab.grew {p' q : Option Addr} {d : Nat} {l : List In} (a : Ab g p q l) (hr : Rd eIn wr q d l) (hg : Grew wr w2 p p') : Ab g p' q l := fun hl b o e =>
  ⟨(a hl b o e).1, hg.far b (by
    obtain ⟨b', o', e', hlt, _⟩ := hr.pos (List.length_pos_iff.2 hl)
    rw [e] at e'; cases e'; exact hlt) (a hl b o e).2⟩
theorem Rx.kpg (h : Rx w g wr p m c P SP) (hk : Kp g wr w2) (hp : Pk w2 g) : Rx w g w2 p m c P SP :=
  ⟨own_kp h.own hk (Nat.lt_succ_self _), h.len, h.sl, (fun k h1 h2 => by
      obtain ⟨M, W, O, a1, a2, a3, a4, a5, a6, a7⟩ := h.tk k h1 h2
      exact ⟨M, W, O, gt_kp a1 hk a5 a6 a7, a2, a3, a4, a5, a6, a7⟩), hp, h.bel.trans (hk.below (B := g) (Nat.le_refl _) (Nat.le_of_lt h.pk.lt))⟩
theorem Rx.below (h : Rx w g wr p m c P SP) (hb : Below wr.heap.size wr w2) : Rx w g w2 p m c P SP :=
  ⟨own_below h.own hb, h.len, h.sl, (fun k h1 h2 => by
      obtain ⟨M, W, O, a1, a2, a3, a4, a5, a6, a7⟩ := h.tk k h1 h2
      exact ⟨M, W, O, a1.below hb, a2, a3, a4, a5, a6, a7⟩), h.pk.below hb, h.bel.trans (hb.mono (Nat.le_of_lt h.pk.lt))⟩
theorem Rx.far (h : Rx w g wr p m c P SP) {b : Nat} (hb : wr.heap.size ≤ b) : Far p b := fun b' o e => by
  have := (own_in h.own b' o e).2
  omega
theorem Rx.snoc {p' : Option Addr} {c' : Nat} {x : Tv} {M W O : List In} {S : Sn} (h : Rx w g wr p m c P SP) (ho : Own eTk w2 (g + 1) 33 p' c' (P ++ [x])) (hb : Below (g + 1) wr w2) (hg : Grew wr w2 p p') (hx : Gt wr x M W O) (hE : erT x.r x.p x.e M W O = 0) (hS : spaT 0 M W = S) (hL : Lk3 M ∧ Lk3 W) (a : Ab g p x.mp M) (b : Ab g p x.wp W) (d : Ab g p x.op O) : Rx w g w2 p' (m + 1) c' (P ++ [x]) (SP ++ [S]) := by
  have hl1 := h.len
  have hl2 := h.sl
  refine ⟨ho, by rw [List.length_append, hl1]; rfl, by rw [List.length_append, hl2]; rfl, fun k h1 h2 => ?_, h.pk.under hb (Nat.lt_succ_self _), h.bel.trans (hb.mono (Nat.le_succ _))⟩
  by_cases hk : k < m
  · have e1 : (P ++ [x])[k] = P[k]'(by omega) := List.getElem_append_left (by omega)
    have e2 : (SP ++ [S])[k] = SP[k]'(by omega) := List.getElem_append_left (by omega)
    obtain ⟨M, W, O, a1, a2, a3, a4, a5, a6, a7⟩ := h.tk k (by omega) (by omega)
    rw [e1, e2]
    exact ⟨M, W, O, gt_grew a1 hg a5 a6 a7, a2, a3, a4, a5.grew a1.k.rM hg, a6.grew a1.k.rW hg, a7.grew a1.k.rO hg⟩
  · have hk2 : k = m := by rw [List.length_append, hl1] at h1; simp at h1; omega
    have e1 : (P ++ [x])[k] = x := by
      rw [List.getElem_append_right (by omega)]; simp
    have e2 : (SP ++ [S])[k] = S := by
      rw [List.getElem_append_right (by omega)]; simp
    rw [e1, e2]
    exact ⟨M, W, O, gt_grew hx hg a b d, hE, hS, hL, a.grew hx.k.rM hg, b.grew hx.k.rW hg, d.grew hx.k.rO hg⟩
end
end Go.Proofs.Yteklpceikddggaa
