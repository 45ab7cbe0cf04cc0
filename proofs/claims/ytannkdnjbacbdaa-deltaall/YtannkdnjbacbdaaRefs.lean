/-
  What append does with rows of dues, and what DropDue and TickDue of the document's answer hand back.
-/
import Derived.Test.YtannkdnjbacbdaaBegun
import Derived.Test.YtannkdnjbacbdaaTimes
namespace Go.Proofs.Ytannkdnjbacbdaa
open Go.ChangeShapes Go.WideShapes Go.ChangeAt Go.RowKit
attribute [local go_sem ↓] Go.wp_at_zero Go.wp_at_succ

theorem Try.info57 : (Try.prog.info? 57).map (fun i => (i.zero, i.size, i.bytes)) = some (some (.agg #[.int .i64 0, .int .i64 0]), 2, 16) := by kernel_rfl

theorem rd_block {w : World} {vb : Nat} {a k : Int} {t : TypeId} {fr : Nat × Nat} (h : w.heap[vb]? = some (.cells #[.int .i64 a, .int .i64 k] t fr)) : Rd w (some ⟨vb, 0, none⟩) 1 [(a, k)] :=
  ⟨by simp, .inr ⟨vb, 0, none, rfl, fun _ => rfl, fun j v hj => by
    have := World.news_of_block h j v hj
    rwa [add_plain] at this⟩⟩

/-- What is left as it was: all blocks but p's. -/
def Stays (w w' : World) (p : Option Addr) : Prop := ∀ b, b < w.heap.size → (∀ g, p = some ⟨g, 0, none⟩ → b ≠ g) → w'.heap[b]? = w.heap[b]?

theorem run_app (w : World) (ty : TypeId) (base : Nat) (p : Option Addr) (c : Nat) (l : List Tm) (hown : Own w base 57 p c l) (q : Option Addr) (d : Nat) (m : List Tm) (hr : Rd w q d m) (hlen : l.length + m.length ≤ 200) (hbase : base ≤ w.heap.size) :
    ∃ p' c' w', (Builtin.append_ #[25, 25] ty #[.slice p l.length c, .slice q m.length d]).run Try.prog w = .ok (.slice p' (l.length + m.length) c') w' ∧ Own w' base 57 p' c' (l ++ m) ∧ Below base w w' ∧ Stays w w' p := by
  obtain ⟨i, hi, hz0, hz1, hz2⟩ := info_parts Try.info57
  have hcap := own_cap hown
  by_cases h0 : m = []
  · subst h0
    refine ⟨p, c, w, ?_, by simpa using hown, Below.refl _ _, fun _ _ _ => rfl⟩
    have hp : p = none ∨ ∃ g, p = some ⟨g, 0, none⟩ := by
      rcases hown.2 with ⟨h1, _⟩ | ⟨g, cap, cur, h1, _⟩
      · simp only [Value.slice.injEq] at h1; exact .inl h1.1
      · simp only [Value.slice.injEq] at h1; exact .inr ⟨g, h1.1⟩
    rcases hr.at_ with ⟨rfl, _, rfl⟩ | ⟨b, o, s, rfl, _, _⟩ <;> rcases hp with rfl | ⟨g, rfl⟩
    all_goals simp [Builtin.append_, run_underlying Try.underlying25, sizeOf, typeInfo, hi, Builtin.lenOf, Builtin.firstCells, storeCells, loadCells, loadCellsFrom, hcap]
  · have hpos : 0 < m.length := List.length_pos_iff.2 h0
    obtain ⟨b, o, rfl, hb, hc⟩ := hr.pos hpos
    obtain ⟨v', w', hrun, h2, h3, h4, h5⟩ := run_append_own_at (P := Try.prog) w base 25 ty 57 i _ 2 16 Try.underlying25 hi hz0 hz1 hz2 rfl (by omega) (.slice p l.length c) l.length (fl l) hown ⟨b, o, none⟩ m.length d (fl m) (fl_length m)
      (fun j u hu => by rw [add_plain]; exact hc j u hu) (fl_one m) (by simp only [maxLen]; omega) (by omega) hbase
    obtain ⟨g, cap, rfl, _, _⟩ := World.ownsRow.form h2 (by omega)
    have hlo := World.ownsRow.lt hown
    refine ⟨_, _, _, hrun, ?_, (Below.refl _ _).grown h3 hbase (fun k hk => (hlo k hk).1), fun x hx hne => h3.block x hx (fun e => ?_)⟩
    · unfold Own
      rw [fl_append, List.length_append]
      exact h2
    · cases p with
      | none => simp [Value.ownBlock] at e
      | some a =>
        rcases hown.2 with ⟨h1, _⟩ | ⟨g', cap', cur', h1, _⟩
        · simp only [Value.slice.injEq] at h1; cases h1.1
        · simp only [Value.slice.injEq] at h1
          obtain ⟨h1, _⟩ := h1
          cases h1
          simp [Value.ownBlock] at e
          exact hne g' rfl e

theorem wpList_app (w : World) {ops : Array Oper} {rest : List Oper} {o : Oper} {a : Act} {Q : Exit → Act → World → Prop} (hgd : o.guard = none) (s x : Operand)
    (ho : o.op = .call { callee := .builtin .append, args := #[s, x], argTypes := #[25, 25] }) (base : Nat) (p : Option Addr) (c : Nat) (l : List Tm) (N : Nat) (hN : l.length = N) (hs : a.eval s = .slice p N c) (hown : Own w base 57 p c l)
    (q : Option Addr) (d : Nat) (m : List Tm) (M : Nat) (hM : m.length = M) (hx : a.eval x = .slice q M d) (hr : Rd w q d m) (hlen : N + M ≤ 200) (hbase : base ≤ w.heap.size) (R : Nat) (hR : N + M = R)
    (h : ∀ p' c' w', Own w' base 57 p' c' (l ++ m) → Below base w w' → Stays w w' p → wpList Try.prog ops Q rest (a.put o.dst (.slice p' R c')) w') : wpList Try.prog ops Q (o :: rest) a w := by
  subst hN hM hR
  obtain ⟨p', c', w', hrun, h1, h2, h3⟩ := run_app w o.type base p c l hown q d m hr hlen hbase
  exact Lib.wpList_append_run w hgd s x 25 25 ho _ _ hs hx _ _ hrun (h p' c' w' h1 h2 h3)

theorem step_app (w : World) {ops : Array Oper} {o : Oper} {a : Act} {K : Act → World → Prop} {Q : Exit → Act → World → Prop} {E : Prop} (hgd : o.guard = none) (s x : Operand)
    (ho : o.op = .call { callee := .builtin .append, args := #[s, x], argTypes := #[25, 25] }) (base : Nat) (p : Option Addr) (c : Nat) (l : List Tm) (N : Nat) (hN : l.length = N) (hs : a.eval s = .slice p N c) (hown : Own w base 57 p c l)
    (q : Option Addr) (d : Nat) (m : List Tm) (M : Nat) (hM : m.length = M) (hx : a.eval x = .slice q M d) (hr : Rd w q d m) (hlen : N + M ≤ 200) (hbase : base ≤ w.heap.size) (R : Nat) (hR : N + M = R)
    (h : ∀ p' c' w', Own w' base 57 p' c' (l ++ m) → Below base w w' → Stays w w' p → K (a.put o.dst (.slice p' R c')) w') :
    if Region.wanted o (yielded ops a.tmps) = true then Oper.wp Try.prog o a w K Q else E := by
  subst hN hM hR
  obtain ⟨p', c', w', hrun, h1, h2, h3⟩ := run_app w o.type base p c l hown q d m hr hlen hbase
  exact step_append_run hgd s x 25 25 ho _ _ hs hx hrun (h p' c' w' h1 h2 h3)

/-! ### DropDue -/
theorem delA_snoc (X : List Tm) (y : Tm) (k : Int) : delA (X ++ [y]) k = if y.2 = k then delA X k else delA X k ++ [y] := by
  unfold delA
  rw [List.filter_append]
  by_cases h : y.2 = k <;> simp [h]
theorem delA_le (X : List Tm) (k : Int) : (delA X k).length ≤ X.length := List.length_filter_le _ _

set_option maxHeartbeats 1000000 in
theorem dropDue_any (p : Option Addr) (c : Nat) (B : List Tm) (w : World) (hr : Rd w p c B) (hl : B.length ≤ 100) (k : Int) :
    Calls Try.prog 11 #[.slice p B.length c, .int .i64 k] w fun e w' => Told w w' e (delA B k) (decide (k ∈ B.map (·.2))) := by
  go_enter Try.func11, Try.ntmps11
  go_wp2
  go_loopw [6, 7, 8] (fun o is i wr => ∃ (j : Nat) (p' : Option Addr) (c' : Nat), j ≤ B.length ∧ i = .int .i64 j ∧ o = .slice p' (delA (B.take j) k).length c' ∧ is = .bool (decide (k ∈ (B.take j).map (·.2))) ∧ Own wr w.heap.size 57 p' c' (delA (B.take j) k) ∧ Below w.heap.size w wr) (fun _ _ i _ => B.length - (intOf i).toNat)
  case atStart => exact ⟨0, none, 0, Nat.zero_le _, rfl, rfl, by simp, World.ownsRow_nil _ _ _ _, Below.refl _ _⟩
  case round =>
    obtain ⟨j, p', c', hj, rfl, rfl, rfl, hown, hbw⟩ := hrel
    have hsz := hbw.size
    by_cases hlt : j < B.length
    · obtain ⟨b, o, rfl, hb, hc1, hc2⟩ := (hr.below hbw).cells j hlt
      have HS : Hid (delA (B.take (j + 1)) k = if B[j].2 = k then delA (B.take j) k else delA (B.take j) k ++ [B[j]]) := by
        show _ = _
        rw [List.take_succ_eq_append_getElem hlt, delA_snoc]
      have HM : Hid (decide (k ∈ (B.take (j + 1)).map (·.2)) = (decide (k ∈ (B.take j).map (·.2)) || decide (k = B[j].2))) := by
        show _ = _
        rw [List.take_succ_eq_append_getElem hlt, List.map_append]
        simp
      have hdl := delA_le (B.take j) k
      rw [List.length_take] at hdl
      by_cases hk : B[j].2 = k
      · rw [if_pos hk] at HS
        have hk' : (k == k) = true := by simp
        rw [hk] at hc2
        have HM2 : Hid (decide (k ∈ (B.take (j + 1)).map (·.2)) = true) := by show _ = _; rw [HM.out, hk]; simp
        clear HM hk
        generalize delA (B.take j) k = X at *
        go_wp2
        go_roundw
        case rel => exact ⟨j + 1, _, _, by omega, by go_num, by rw [HS.out], by rw [HM2.out], by rw [HS.out]; exact hown, hbw⟩
        case measure => simp [intOf]; omega
      · rw [if_neg hk] at HS
        have hk' : (B[j].2 == k) = false := by simpa using hk
        have HM2 : Hid (decide (k ∈ (B.take (j + 1)).map (·.2)) = decide (k ∈ (B.take j).map (·.2))) := by
          show _ = _
          rw [HM.out]
          have : decide (k = B[j].2) = false := by simpa using fun e => hk e.symm
          rw [this, Bool.or_false]
        obtain ⟨X, hX⟩ : ∃ X, X = delA (B.take j) k := ⟨_, rfl⟩
        obtain ⟨tb, htb⟩ : ∃ tb, tb = decide (k ∈ (B.take j).map (·.2)) := ⟨_, rfl⟩
        rw [← hX] at HS hown hdl ⊢
        rw [← htb] at HM2 ⊢
        obtain ⟨y, hy⟩ : ∃ y, y = B[j] := ⟨_, rfl⟩
        rw [← hy] at HS hc1 hc2 hk'
        clear HM hk hX htb hy
        obtain ⟨ya, yk⟩ := y
        simp only at hc1 hc2 hk'
        go_wp2_with (at_builtin; refine wpList_app _ rfl _ _ rfl w.heap.size p' c' X X.length rfl rfl (own_below hown ((Below.refl _ _).alloc (Nat.le_refl _) _)) _ _ [(ya, yk)] 1 rfl rfl (rd_block (heap_alloc_new _ _)) (by omega) (by simp; omega) _ rfl ?_; intro p2 c2 w2 ho2 hb2 hst2)
        go_roundw
        case rel => exact ⟨j + 1, p2, c2, by omega, by go_num, by rw [HS.out, List.length_append]; rfl, by rw [HM2.out], by rw [HS.out]; exact ho2, (hbw.alloc hsz _).trans hb2⟩
        case measure => simp [intOf]; omega
    · obtain rfl : j = B.length := by omega
      rw [List.take_length] at hown ⊢
      go_wp2
      go_ret2
      exact ⟨_, _, rfl, own_rd hown, hbw⟩

/-! ### TickDue -/
theorem tickA_snoc (X : List Tm) (y : Tm) : tickA (X ++ [y]) = if 1 < y.1 then tickA X ++ [(y.1 - 1, y.2)] else tickA X := by
  unfold tickA
  rw [List.filter_append]
  by_cases h : 1 < y.1 <;> simp [h]
theorem dueA_snoc (X : List Tm) (y : Tm) : dueA (X ++ [y]) = if 1 < y.1 then dueA X else dueA X ++ [y.2] := by
  unfold dueA
  rw [List.filter_append]
  by_cases h : 1 < y.1
  · have : ¬ (y.1 ≤ 1) := by omega
    simp [h, this]
  · have : y.1 ≤ 1 := by omega
    simp [h, this]
theorem tickA_le (X : List Tm) : (tickA X).length ≤ X.length := by unfold tickA; rw [List.length_map]; exact List.length_filter_le _ _
theorem dueA_le (X : List Tm) : (dueA X).length ≤ X.length := by unfold dueA; rw [List.length_map]; exact List.length_filter_le _ _

/-- keys that the call owns -/
def OwnK (w : World) (base : Nat) (q : Option Addr) (d : Nat) (ks : List Int) : Prop := w.ownsRow base 3 1 (.slice q ks.length d) ks.length (ks.map (Value.int .i64))
theorem ownK_below {w w' : World} {base : Nat} {q : Option Addr} {d : Nat} {ks : List Int} (h : OwnK w base q d ks) (hb : Below w.heap.size w w') : OwnK w' base q d ks :=
  World.ownsRow.kept h (row := none) ⟨hb.os, hb.tape, hb.output, hb.size, fun k hk _ => hb.block k hk⟩ (by cases hv : (Value.slice q ks.length d).ownBlock <;> simp)
/-- A row of dues is not a row of keys. -/
theorem ownK_stays {w w' : World} {base : Nat} {p q : Option Addr} {c d : Nat} {l : List Tm} {ks : List Int} (h : OwnK w base q d ks) (ho : Own w base 57 p c l) (hb : Below base w w') (hs : Stays w w' p) : OwnK w' base q d ks := by
  refine World.ownsRow.kept h (row := (Value.slice p l.length c).ownBlock) ⟨hb.os, hb.tape, hb.output, hb.size, fun x hx hne => hs x hx (fun g hg e => ?_)⟩ ?_
  · subst hg; exact hne (by rw [e]; rfl)
  · rcases h.2 with ⟨h1, _⟩ | ⟨g, cap, cur, h1, _, h3, _⟩
    · left; rw [h1]; rfl
    · right
      rw [h1]
      rcases ho.2 with ⟨k1, _⟩ | ⟨g', cap', cur', k1, _, k3, _⟩
      · rw [k1]; simp [Value.ownBlock]
      · rw [k1]
        simp only [Value.ownBlock, ne_eq, Option.some.injEq]
        intro e
        rw [e, k3] at h3
        cases h3
theorem own_grown {w w' : World} {base : Nat} {p q : Option Addr} {c d : Nat} {l : List Tm} {n : Nat} {xs : List Value} (ho : Own w base 57 p c l) (h : w.ownsRow base 3 1 (.slice q n d) n xs) (hg : w.grownBy w' (Value.slice q n d).ownBlock) : Own w' base 57 p c l := by
  refine World.ownsRow.kept ho hg ?_
  rcases ho.2 with ⟨k1, _⟩ | ⟨g', cap', cur', k1, _, k3, _⟩
  · left; rw [k1]; rfl
  · right
    rw [k1]
    rcases h.2 with ⟨h1, _⟩ | ⟨g, cap, cur, h1, _, h3, _⟩
    · rw [h1]; simp [Value.ownBlock]
    · rw [h1]
      simp only [Value.ownBlock, ne_eq, Option.some.injEq]
      intro e
      rw [← e, k3] at h3
      cases h3

set_option maxHeartbeats 2000000 in
theorem tickDue_any (p : Option Addr) (c : Nat) (B : List Tm) (w : World) (hr : Rd w p c B) (hl : B.length ≤ 100) (hbd : ∀ y ∈ B, 0 ≤ y.1 ∧ y.1 ≤ 4611686018427387904) :
    Calls Try.prog 13 #[.slice p B.length c] w fun e w' => Ticked w w' e (tickA B) (dueA B) := by
  obtain ⟨i0, hi, hz0, hz1, hz2⟩ := info_parts Try.info3
  go_enter Try.func13, Try.ntmps13
  go_wp2
  go_loopw [4, 5, 6] (fun o ks i wr => ∃ (j : Nat) (p' : Option Addr) (c' : Nat) (q' : Option Addr) (d' : Nat), j ≤ B.length ∧ i = .int .i64 j ∧ o = .slice p' (tickA (B.take j)).length c' ∧ ks = .slice q' (dueA (B.take j)).length d' ∧ Own wr w.heap.size 57 p' c' (tickA (B.take j)) ∧ OwnK wr w.heap.size q' d' (dueA (B.take j)) ∧ Below w.heap.size w wr) (fun _ _ i _ => B.length - (intOf i).toNat)
  case atStart => exact ⟨0, none, 0, none, 0, Nat.zero_le _, rfl, rfl, rfl, World.ownsRow_nil _ _ _ _, World.ownsRow_nil _ _ _ _, Below.refl _ _⟩
  case round =>
    obtain ⟨j, p', c', q', d', hj, rfl, rfl, rfl, hown, hok, hbw⟩ := hrel
    have hsz := hbw.size
    by_cases hlt : j < B.length
    · obtain ⟨b, o, rfl, hb, hc1, hc2⟩ := (hr.below hbw).cells j hlt
      have HS := tickA_snoc (B.take j) B[j]
      have HD := dueA_snoc (B.take j) B[j]
      rw [← List.take_succ_eq_append_getElem hlt] at HS HD
      have hyb := hbd B[j] (List.getElem_mem hlt)
      have hdl := tickA_le (B.take j)
      have hkl := dueA_le (B.take j)
      rw [List.length_take] at hdl hkl
      obtain ⟨X, hX⟩ : ∃ X, X = tickA (B.take j) := ⟨_, rfl⟩
      obtain ⟨Y, hY⟩ : ∃ Y, Y = dueA (B.take j) := ⟨_, rfl⟩
      obtain ⟨y, hy⟩ : ∃ y, y = B[j] := ⟨_, rfl⟩
      rw [← hX] at HS hown hdl ⊢
      rw [← hY] at HD hok hkl ⊢
      rw [← hy] at HS HD hc1 hc2 hyb
      clear hX hY hy
      obtain ⟨ya, yk⟩ := y
      simp only at hc1 hc2 HS HD hyb
      have y0 := hyb.1
      have y1 := hyb.2
      by_cases hy1 : 1 < ya
      · rw [if_pos hy1] at HS HD
        have HS' : Hid (tickA (B.take (j + 1)) = X ++ [(ya - 1, yk)]) := HS
        have HD' : Hid (dueA (B.take (j + 1)) = Y) := HD
        have dy : decide (ya ≤ 1) = false := by simp; omega
        have hw1 : wrap64 (ya - 1) = ya - 1 := w64 _ (by omega)
        have hw2 : IntKind.i64.wrap (ya - 1) = ya - 1 := by rw [IntKind.wrap_i64]; omega
        clear HS HD hyb
        have hoA : Own (wr.drew.alloc (.cells #[.int .i64 (ya - 1), .int .i64 yk] 57)) w.heap.size 57 p' c' X := own_below (w := wr.drew) hown ((Below.refl _ _).alloc (Nat.le_refl _) _)
        have hrA : Rd (wr.drew.alloc (.cells #[.int .i64 (ya - 1), .int .i64 yk] 57)) (some ⟨wr.heap.size, 0, none⟩) 1 [(ya - 1, yk)] := rd_block (heap_alloc_new wr.drew _)
        have hbA : Below wr.heap.size wr (wr.drew.alloc (.cells #[.int .i64 (ya - 1), .int .i64 yk] 57)) := (Below.refl _ _).drew.alloc (Nat.le_refl _) _
        have hzA : w.heap.size ≤ (wr.drew.alloc (.cells #[.int .i64 (ya - 1), .int .i64 yk] 57)).heap.size := by have := hbA.size; omega
        have hX9 : X.length + 1 ≤ 200 := by omega
        go_wp2
        go_region_law (refine step_app _ rfl _ _ rfl w.heap.size p' c' X X.length rfl (by simp [Act.eval]) hoA _ _ [(ya - 1, yk)] 1 rfl (by simp [Act.eval]) hrA hX9 hzA _ rfl ?_; intro p2 c2 w2 ho2 hb2 hst2)
        all_goals
          go_wp2
          have hok2 : OwnK w2 w.heap.size q' d' Y := ownK_stays (ownK_below hok hbA) hoA hb2 hst2
          go_roundw
          case rel => exact ⟨j + 1, p2, c2, q', d', by omega, by go_num, by rw [HS'.out, List.length_append]; rfl, by rw [HD'.out], by rw [HS'.out]; exact ho2, by rw [HD'.out]; exact hok2, (hbw.drew.alloc hsz _).trans hb2⟩
          case measure => simp [intOf]; omega
      · rw [if_neg hy1] at HS HD
        have HS' : Hid (tickA (B.take (j + 1)) = X) := HS
        have HD' : Hid (dueA (B.take (j + 1)) = Y ++ [yk]) := HD
        have dy : decide (ya ≤ 1) = true := by simp; omega
        clear HS HD hyb
        go_wp2_with (at_builtin; refine wpList_append_lies _ rfl _ _ 33 rfl w.heap.size 3 i0 _ 1 8 Try.underlying33 hi hz0 hz1 hz2 rfl (by omega) (.slice q' Y.length d') Y.length (Y.map (Value.int .i64)) rfl (World.ownsRow.alloc hok _) ⟨wr.heap.size, 0, none⟩ 1 1 [.int .i64 yk] rfl rfl (World.news_of_block (cs := #[.int .i64 yk]) (t := 3) (fr := (0, 0)) (heap_alloc_new _ _)) (by simp [Value.oneCell']) (by omega) (by simp only [maxLen]; omega) (by omega) (by simp; omega) _ rfl ?_; intro g cap w2 hok2 hgrow hat hlt2)
        have hlo := World.ownsRow.lt hok
        have ho2 : Own w2 w.heap.size 57 p' c' X := own_grown (own_below hown ((Below.refl _ _).alloc (Nat.le_refl _) _)) (World.ownsRow.alloc hok _) hgrow
        have hok3 : OwnK w2 w.heap.size (some ⟨g, 0, none⟩) cap (Y ++ [yk]) := by unfold OwnK; rw [List.length_append, List.map_append]; exact hok2
        go_roundw
        case rel => exact ⟨j + 1, p', c', _, _, by omega, by go_num, by rw [HS'.out], by rw [HD'.out, List.length_append]; rfl, by rw [HS'.out]; exact ho2, by rw [HD'.out]; exact hok3, (hbw.alloc hsz _).grown hgrow (by simp; omega) (fun x hx => (hlo x hx).1)⟩
        case measure => simp [intOf]; omega
    · obtain rfl : j = B.length := by omega
      rw [List.take_length] at hown hok ⊢
      have hR := rdI_own rfl hok
      go_wp2
      go_ret2
      exact ⟨_, _, _, _, rfl, own_rd hown, hR, hbw⟩
end Go.Proofs.Ytannkdnjbacbdaa
