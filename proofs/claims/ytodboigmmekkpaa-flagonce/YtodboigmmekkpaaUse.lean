/-
  Flags that are read; deeds with letters for lengths and answers; flags stay as they are when a variable is written; that the package does something.
-/
import Derived.Test.YtodboigmmekkpaaAwait
import Derived.Test.YtodboigmmekkpaaRAwait
namespace Go.Proofs.Ytodboigmmekkpaa
open Go.ChangeShapes Go.WideShapes Go.ChangeAt Go.RowKit
attribute [local go_sem ↓] Go.wp_at_zero Go.wp_at_succ

/-- Flags that are read: bits, who waits. -/
structure Fx (w : World) (b : Nat) (p : Option Addr) (c n : Nat) (l : List Wt) : Prop where
  rd : Rd eW w p c l
  ln : l.length = n
  u : UL l
  b32 : b < 4294967296
  n9 : n ≤ 1000
theorem Fx.below {w w' : World} {b : Nat} {p : Option Addr} {c n : Nat} {l : List Wt} (h : Fx w b p c n l) (hb : Below w.heap.size w w') : Fx w' b p c n l := ⟨h.rd.below hb, h.ln, h.u, h.b32, h.n9⟩
theorem Fx.nil (w : World) {b : Nat} (hb : b < 4294967296) : Fx w b none 0 0 [] := ⟨Rd.nil _, rfl, UL.nil, hb, by decide⟩
theorem Rd.void {α : Type} {E : Elt α} {w w' : World} {p : Option Addr} {c : Nat} (h : Rd E w p c []) : Rd E w' p c [] := by
  refine ⟨h.cap, ?_⟩
  rcases h.at_ with h0 | ⟨b, o, s, rfl, hs, hc⟩
  · exact .inl h0
  · exact .inr ⟨b, o, s, rfl, fun h => absurd rfl h, fun j v hj => by simp [fl] at hj⟩
/-- rows of who waits are in no block that holds no int -/
theorem Rd.keep {w w' : World} {p : Option Addr} {c : Nat} {L : List Wt} (h : Rd eW w p c L) {g : Nat} {cs : Array Value} {e : TypeId} (hg : Lv w g cs e) (hcs : ∀ (j : Nat) (x : Int), cs[j]? ≠ some (.int .i64 x)) (hw : ∀ b, b < w.heap.size → b ≠ g → w'.heap[b]? = w.heap[b]?) : Rd eW w' p c L := by
  cases L with
  | nil => exact Rd.void h
  | cons x R =>
    obtain ⟨b, o, rfl, hb, hc, -⟩ := h.wt 0 (by simp)
    have hne : b ≠ g := by
      rintro rfl
      rw [cell_of_row _ _ _ _ _ _ hg] at hc
      exact hcs _ _ hc
    refine ⟨h.cap, ?_⟩
    rcases h.at_ with ⟨h0, _⟩ | ⟨b', o', s, h1, hs, hc'⟩
    · cases h0
    · cases h1
      refine .inr ⟨b, o, none, rfl, fun _ => rfl, fun j v hj => ?_⟩
      rw [World.cell?_of_block (a := ⟨b, o + j, none⟩) (hw b hb hne)]
      exact hc' j v hj
theorem flag_no {b : Nat} {p : Option Addr} {n c : Nat} (j : Nat) (x : Int) : (#[Value.int .u32 (b : Int), Value.slice p n c] : Array Value)[j]? ≠ some (.int .i64 x) := by
  match j with
  | 0 => simp
  | 1 => simp
  | j + 2 => simp
theorem Rd.stored {w : World} {p : Option Addr} {c : Nat} {L : List Wt} (h : Rd eW w p c L) {g b1 : Nat} {p1 : Option Addr} {n1 c1 : Nat} (hg : Fv w g b1 p1 n1 c1) (a b : Value) : Rd eW ((w.setCell ⟨g, 0, none⟩ a).setCell ⟨g, 1, none⟩ b) p c L :=
  h.keep hg flag_no (fun k _ hk => by rw [Below.heap_setCell _ _ _ _ hk, Below.heap_setCell _ _ _ _ hk])
theorem Fx.stored {w : World} {b : Nat} {p : Option Addr} {c n : Nat} {l : List Wt} (h : Fx w b p c n l) {g b1 : Nat} {p1 : Option Addr} {n1 c1 : Nat} (hg : Fv w g b1 p1 n1 c1) (u v : Value) : Fx ((w.setCell ⟨g, 0, none⟩ u).setCell ⟨g, 1, none⟩ v) b p c n l := ⟨h.rd.stored hg u v, h.ln, h.u, h.b32, h.n9⟩
theorem Fx.drw {w : World} {b : Nat} {p : Option Addr} {c n : Nat} {l : List Wt} (h : Fx w b p c n l) : Fx w.drew b p c n l := h.below (Below.refl _ _).drew
theorem Fv.put {w : World} {g b0 : Nat} {p0 : Option Addr} {n0 c0 : Nat} (h : Fv w g b0 p0 n0 c0) (b : Nat) (p : Option Addr) (n c : Nat) : Fv ((w.setCell ⟨g, 0, none⟩ (.int .u32 (b : Int))).setCell ⟨g, 1, none⟩ (.slice p n c)) g b p n c := (Lv.set h 0 (.int .u32 (b : Int))).set 1 (.slice p n c)
section
variable {w : World} {b : Nat} {p : Option Addr} {c n : Nat} {l : List Wt}
theorem raise_c (h : Fx w b p c n l) (B0 : Int) (hB0 : B0 = (b : Int)) (m : Nat) (hm : m < 4294967296) (M0 : Int) (hM0 : M0 = (m : Int)) (B1 : Nat) (hB1 : lf (b ||| m) l = B1) (X1 : Int) (hX1 : X1 = (B1 : Int)) (L1 T1 : List Wt) (hL1 : kp (b ||| m) l = L1) (hT1 : tl (b ||| m) l = T1) (n1 t1 : Nat) (hn1 : L1.length = n1) (ht1 : T1.length = t1) :
    Calls Try.prog 8 #[.agg #[.int .u32 B0, .slice p n c], .int .u32 M0] w fun e w' => ∃ (q : Option Addr) (d : Nat) (u : Option Addr) (v : Nat), e = .returned (.tuple #[.agg #[.int .u32 X1, .slice q n1 d], .slice u t1 v]) ∧ Fx w' B1 q d n1 L1 ∧ Rd eW w' u v T1 ∧ Below w.heap.size w w' := by
  subst hB0 hM0 hX1 hB1 hL1 hT1 hn1 ht1
  refine (raise_any b m p c l w h.b32 hm h.rd h.u n h.ln h.n9).mono ?_
  rintro e w' ⟨q, d, u, v, rfl, o1, o2, -, hb⟩
  have h1 := kp_le (b ||| m) l
  have h2 := h.ln
  have h3 := h.n9
  exact ⟨q, d, u, v, rfl, ⟨own_rd o1, rfl, h.u.kp _, lf_lt (or_lt h.b32 hm) _, by omega⟩, own_rd o2, hb⟩
theorem rraise_c (h : Fx w b p c n l) (B0 : Int) (hB0 : B0 = (b : Int)) (m : Nat) (hm : m < 4294967296) (M0 : Int) (hM0 : M0 = (m : Int)) (B1 : Nat) (hB1 : lf (b ||| m) l = B1) (X1 : Int) (hX1 : X1 = (B1 : Int)) (L1 T1 : List Wt) (hL1 : kp (b ||| m) l = L1) (hT1 : tl (b ||| m) l = T1) (n1 t1 : Nat) (hn1 : L1.length = n1) (ht1 : T1.length = t1) :
    Calls Try.prog 9 #[.agg #[.int .u32 B0, .slice p n c], .int .u32 M0] w fun e w' => ∃ (q : Option Addr) (d : Nat) (u : Option Addr) (v : Nat), e = .returned (.tuple #[.agg #[.int .u32 X1, .slice q n1 d], .slice u t1 v]) ∧ Fx w' B1 q d n1 L1 ∧ Rd eW w' u v T1 ∧ Below w.heap.size w w' := by
  subst hB0 hM0 hX1 hB1 hL1 hT1 hn1 ht1
  refine (rraise_any b m p c l w h.b32 hm h.rd h.u n h.ln h.n9).mono ?_
  rintro e w' ⟨q, d, u, v, rfl, o1, o2, -, hb⟩
  have h1 := kp_le (b ||| m) l
  have h2 := h.ln
  have h3 := h.n9
  exact ⟨q, d, u, v, rfl, ⟨own_rd o1, rfl, h.u.kp _, lf_lt (or_lt h.b32 hm) _, by omega⟩, own_rd o2, hb⟩
theorem await_c (h : Fx w b p c n l) (B0 : Int) (hB0 : B0 = (b : Int)) (cl : Int) (m : Nat) (hm : m < 4294967296) (M0 : Int) (hM0 : M0 = (m : Int)) (B1 : Nat) (hB1 : awB b cl m = B1) (X1 : Int) (hX1 : X1 = (B1 : Int)) (G1 : Nat) (hG1 : awG b cl m = G1) (Y1 : Int) (hY1 : Y1 = (G1 : Int)) (O : Bool) (hO : awO b l cl m = O) (L1 : List Wt) (hL1 : awW b l cl m = L1) (n1 : Nat) (hn1 : L1.length = n1) (hn19 : n1 ≤ 1000) :
    Calls Try.prog 12 #[.agg #[.int .u32 B0, .slice p n c], .int .i64 cl, .int .u32 M0] w fun e w' => ∃ (q : Option Addr) (d : Nat), e = .returned (.tuple #[.agg #[.int .u32 X1, .slice q n1 d], .int .u32 Y1, .bool O]) ∧ Fx w' B1 q d n1 L1 ∧ Below w.heap.size w w' := by
  subst hB0 hM0 hX1 hY1 hB1 hG1 hO hL1 hn1
  refine (await_any b m cl p c l w h.b32 hm h.rd h.u n h.ln h.n9).mono ?_
  rintro e w' ⟨q, d, rfl, o1, hb⟩
  exact ⟨q, d, rfl, ⟨own_rd o1, rfl, awW_UL h.u hm, awB_lt h.b32 _ _, hn19⟩, hb⟩
theorem rawait_c (h : Fx w b p c n l) (B0 : Int) (hB0 : B0 = (b : Int)) (cl : Int) (m : Nat) (hm : m < 4294967296) (M0 : Int) (hM0 : M0 = (m : Int)) (B1 : Nat) (hB1 : awB b cl m = B1) (X1 : Int) (hX1 : X1 = (B1 : Int)) (G1 : Nat) (hG1 : awG b cl m = G1) (Y1 : Int) (hY1 : Y1 = (G1 : Int)) (O : Bool) (hO : awO b l cl m = O) (L1 : List Wt) (hL1 : awW b l cl m = L1) (n1 : Nat) (hn1 : L1.length = n1) (hn19 : n1 ≤ 1000) :
    Calls Try.prog 13 #[.agg #[.int .u32 B0, .slice p n c], .int .i64 cl, .int .u32 M0] w fun e w' => ∃ (q : Option Addr) (d : Nat), e = .returned (.tuple #[.agg #[.int .u32 X1, .slice q n1 d], .int .u32 Y1, .bool O]) ∧ Fx w' B1 q d n1 L1 ∧ Below w.heap.size w w' := by
  subst hB0 hM0 hX1 hY1 hB1 hG1 hO hL1 hn1
  refine (rawait_any b m cl p c l w h.b32 hm h.rd h.u n h.ln h.n9).mono ?_
  rintro e w' ⟨q, d, rfl, o1, hb⟩
  exact ⟨q, d, rfl, ⟨own_rd o1, rfl, awW_UL h.u hm, awB_lt h.b32 _ _, hn19⟩, hb⟩
theorem same_c {p2 : Option Addr} {c2 : Nat} (h : Fx w b p c n l) (h2 : Fx w b p2 c2 n l) (B0 : Int) (hB0 : B0 = (b : Int)) :
    Calls Try.prog 10 #[.agg #[.int .u32 B0, .slice p n c], .agg #[.int .u32 B0, .slice p2 n c2]] w fun e w' => e = .returned (.bool true) ∧ Below w.heap.size w w' := by
  subst hB0
  exact sameflag_yes b p c p2 c2 l w h.rd h2.rd n h.ln h.n9
theorem reset_c (h : Fx w b p c n l) (B0 : Int) (hB0 : B0 = (b : Int)) (A : List Int) (hA : l.map (·.1) = A) :
    Calls Try.prog 14 #[.agg #[.int .u32 B0, .slice p n c]] w fun e w' => ∃ (u : Option Addr) (v : Nat), e = .returned (.tuple #[.agg #[.int .u32 0, .slice none 0 0], .slice u n v]) ∧ Rd eI w' u v A ∧ Below w.heap.size w w' := by
  subst hB0 hA
  refine (reset_any b p c l w h.rd n h.ln h.n9).mono ?_
  rintro e w' ⟨u, v, rfl, o, hb⟩
  exact ⟨u, v, rfl, own_rd o, hb⟩
theorem clients_c (h : Fx w b p c n l) (B0 : Int) (hB0 : B0 = (b : Int)) (A : List Int) (hA : l.map (·.1) = A) :
    Calls Try.prog 16 #[.agg #[.int .u32 B0, .slice p n c]] w fun e w' => ∃ (u : Option Addr) (v : Nat), e = .returned (.slice u n v) ∧ Rd eI w' u v A ∧ Below w.heap.size w w' := by
  subst hB0 hA
  refine (clients_any b p c l w h.rd n h.ln h.n9).mono ?_
  rintro e w' ⟨u, v, rfl, o, hb⟩
  exact ⟨u, v, rfl, own_rd o, hb⟩
end
set_option maxHeartbeats 4000000 in
theorem begun_any (w : World) : Calls Try.prog 7 #[] w fun e w' => e = .returned (.bool true) ∧ Below w.heap.size w w' := by
  have B0 := Below.refl w.heap.size w
  go_enter Try.func7, Try.ntmps7
  go_wp2_with (first
    | (go_at_call 12; (with_reducible (refine (await_c (Fx.nil _ (b := 0) (by decide)) (0) ?h1 (1) 6 (by decide) (6) ?h2 0 ?h3 (0) ?h4 0 ?h5 (0) ?h6 true ?h7 [(1, 6)] ?h8 1 ?h9 (by decide)).mono ?_)); (case h1 => first | rfl | decide); (case h2 => first | rfl | decide); (case h3 => first | rfl | decide); (case h4 => first | rfl | decide); (case h5 => first | rfl | decide); (case h6 => first | rfl | decide); (case h7 => first | rfl | decide); (case h8 => first | rfl | decide); (case h9 => first | rfl | decide); (rintro e y1 ⟨q1, d1, rfl, x1, b1⟩; have B1 := bel_call B0 (Nat.le_refl _) b1; have s1 := bel_self y1 (.cells #[.int .u32 0, .slice q1 1 d1] 25); have X1 := x1.below s1; have V1 := Fv.new y1 0 q1 1 d1; have B1 := bel_call B1 (Nat.le_refl _) s1; have e0 := V1.c0; have e1 := V1.c1))
    | (go_at_call 8; (with_reducible (refine (raise_c X1 (0) ?h1 3 (by decide) (3) ?h2 1 ?h3 (1) ?h4 [] [(1, 2)] ?h5 ?h6 0 1 ?h7 ?h8).mono ?_)); (case h1 => first | rfl | decide); (case h2 => first | rfl | decide); (case h3 => first | rfl | decide); (case h4 => first | rfl | decide); (case h5 => first | rfl | decide); (case h6 => first | rfl | decide); (case h7 => first | rfl | decide); (case h8 => first | rfl | decide); (rintro e y2 ⟨q2, d2, u2, v2, rfl, x2, t2, b2⟩; have B2 := bel_call B1 (Nat.le_refl _) b2; have s2 := bel_self y2 (.cells #[.int .u32 1, .slice q2 0 d2] 25); have X2 := x2.below s2; have R2 := t2.below s2; have X1b := (X1.below b2).below s2; have V1b := (V1.below b2); have l1b := V1b.lt; have V2 := Fv.new y2 1 q2 0 d2; have B2 := bel_call B2 (Nat.le_refl _) s2; have e2 := (V1b.below s2).c0; have e3 := (V1b.below s2).c1; have e4 := V2.c0; have e5 := V2.c1))
    | (go_at_call 12; (with_reducible (refine (await_c X2 (1) ?h1 (2) 1 (by decide) (1) ?h2 0 ?h3 (0) ?h4 1 ?h5 (1) ?h6 true ?h7 [] ?h8 0 ?h9 (by decide)).mono ?_)); (case h1 => first | rfl | decide); (case h2 => first | rfl | decide); (case h3 => first | rfl | decide); (case h4 => first | rfl | decide); (case h5 => first | rfl | decide); (case h6 => first | rfl | decide); (case h7 => first | rfl | decide); (case h8 => first | rfl | decide); (case h9 => first | rfl | decide); (rintro e y3 ⟨q3, d3, rfl, x3, b3⟩; have B3 := bel_call B2 (Nat.le_refl _) b3; have s3 := bel_self y3 (.cells #[.int .u32 0, .slice q3 0 d3] 25); have R3 := (R2.below b3).below s3; have X1c := (X1b.below b3).below s3; have V1c := ((V1b.below s2).below b3); have V2c := V2.below b3; have l1c := V1c.lt; have l2c := V2c.lt; have V3 := Fv.new y3 0 q3 0 d3; have B3 := bel_call B3 (Nat.le_refl _) s3; have e6 := (V1c.below s3).c0; have e7 := (V1c.below s3).c1; have e8 := V3.c0; have e9 := V3.c1))
    | (go_at_call 14; (with_reducible (refine (reset_c X1c (0) ?h1 [1] ?h2).mono ?_)); (case h1 => rfl); (case h2 => rfl); (rintro e y4 ⟨u4, v4, rfl, r4, b4⟩; have B4 := bel_call B3 (Nat.le_refl _) b4; have s4 := bel_self y4 (.cells #[.int .u32 0, .slice none 0 0] 25); have R4 := (R3.below b4).below s4; have N4 := r4.below s4; have V2d := ((V2c.below s3).below b4); have V3d := V3.below b4; have l3d := V3d.lt; have l2d := V2d.lt; have B4 := bel_call B4 (Nat.le_refl _) s4; have f0 := (V2d.below s4).c0; have f1 := (V2d.below s4).c1; have f2 := (V3d.below s4).c0; have f3 := (V3d.below s4).c1; obtain ⟨ub, uo, rfl, hub, kc0, kc1⟩ := R4.wt 0 (by decide); obtain ⟨nb, no, rfl, hnb, nc0⟩ := N4.num 0 (by decide); simp only [Nat.zero_mul, Nat.add_zero, List.getElem_cons_zero] at kc0 kc1 nc0)))
  go_ret
  exact ⟨rfl, B4⟩
end Go.Proofs.Ytodboigmmekkpaa
