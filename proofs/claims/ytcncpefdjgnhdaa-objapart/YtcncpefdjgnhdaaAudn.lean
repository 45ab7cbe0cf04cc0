/-
  What Audit of package obj hands back.
-/
import Derived.Test.YtcncpefdjgnhdaaTurns
import Derived.Test.YtcncpefdjgnhdaaStorep
import Derived.Test.YtcncpefdjgnhdaaNlts
import Derived.Test.YtcncpefdjgnhdaaMakes
import Derived.Test.YtcncpefdjgnhdaaSames
namespace Go.Proofs.Ytcncpefdjgnhdaa
open Go.ChangeShapes Go.WideShapes Go.ChangeAt Go.RowKit
attribute [local go_sem ↓] Go.wp_at_zero Go.wp_at_succ

/-- the first n things anew -/
def audN (l : List Th) (n : Nat) : List Th := (l.take n).map audT ++ l.drop n
theorem audN_zero (l : List Th) : audN l 0 = l := by simp [audN]
theorem audN_all {l : List Th} {n : Nat} (h : l.length = n) : audN l n = l.map audT := by subst h; simp [audN]
theorem audN_len (l : List Th) (n : Nat) : (audN l n).length = l.length := by simp [audN]; omega
theorem audN_set {l : List Th} {n : Nat} (h : n < l.length) : audN l (n + 1) = (audN l n).set n (audT (l.getD n th0)) := by
  have e : l.getD n th0 = l[n] := by simp [List.getD_eq_getElem?_getD, h]
  have hl : ((l.take n).map audT).length = n := by rw [List.length_map, List.length_take]; omega
  unfold audN
  rw [e, List.set_append_right _ _ (by omega), hl, Nat.sub_self, List.take_succ_eq_append_getElem h, List.map_append, List.drop_eq_getElem_cons h, List.set_cons_zero]
  simp
theorem audN_at {l : List Th} {n : Nat} (h : n < l.length) : (audN l n).getD n th0 = l.getD n th0 := by
  have hl : ((l.take n).map audT).length = n := by rw [List.length_map, List.length_take]; omega
  unfold audN
  rw [List.getD_eq_getElem?_getD, List.getElem?_append_right (by omega), hl, Nat.sub_self, List.getElem?_drop, Nat.add_zero, ← List.getD_eq_getElem?_getD]
theorem audN_same {l : List Th} {n : Nat} (h : n < l.length) (ha : anew (l.getD n th0) = false) : audN l (n + 1) = audN l n := by
  rw [audN_set h]
  unfold audT
  rw [ha]
  have := set_same (audN l n) n th0 (by rw [audN_len]; exact h)
  rw [audN_at h] at this
  exact this
/-- a row of rows that is the call's own; q: another own row beside it -/
def Lo (w : World) (B : Nat) (p : Option Addr) (c : Nat) (l : List (List Int)) (q : Option Addr) : Prop := ∃ ss : List (Option Addr × Nat × Nat), Own eS w B 24 p c ss ∧ ss.length = l.length ∧ ∀ (i : Nat) (h1 : i < ss.length) (h2 : i < l.length), l[i].length = ss[i].2.1 ∧ ss[i].2.1 ≤ 1000 ∧ (∃ base, Own eI w base 3 ss[i].1 ss[i].2.2 l[i]) ∧ Two q ss[i].1
theorem Lo.lr {w : World} {B : Nat} {p : Option Addr} {c : Nat} {l : List (List Int)} {q : Option Addr} (h : Lo w B p c l q) : Lr w p c l := by
  obtain ⟨ss, h1, h2, h3⟩ := h
  exact ⟨ss, own_rd h1, h2, fun i a b => ⟨(h3 i a b).1, (h3 i a b).2.1, by obtain ⟨_, ho⟩ := (h3 i a b).2.2.1; exact own_rd ho⟩⟩
theorem Lo.below {w w' : World} {B : Nat} {p : Option Addr} {c : Nat} {l : List (List Int)} {q : Option Addr} (h : Lo w B p c l q) (hb : Below w.heap.size w w') : Lo w' B p c l q := by
  obtain ⟨ss, h1, h2, h3⟩ := h
  exact ⟨ss, own_below h1 hb, h2, fun i a b => ⟨(h3 i a b).1, (h3 i a b).2.1, (by obtain ⟨q, ho⟩ := (h3 i a b).2.2.1; exact ⟨q, own_below ho hb⟩), (h3 i a b).2.2.2⟩⟩
theorem Lo.nil (w : World) (B : Nat) (q : Option Addr) : Lo w B none 0 [] q := ⟨[], own_nil _ _ _, rfl, fun i h => by simp at h⟩
theorem own_type {α : Type} {E : Elt α} {w w' : World} {base : Nat} {e : TypeId} {p : Option Addr} {c : Nat} {l : List α} (h : Own E w base e p c l) {g : Nat} {cs : Array Value} {t : TypeId} (hl : Lv w g cs t) (hne : e ≠ t) (hk : Kp g w w') : Own E w' base e p c l :=
  own_block_eq h (fun b o he => hk.block b (by subst he; exact own_lt h) (by intro hh; have hh := Option.some.inj hh; exact Far.type h hl hne b o he hh))
theorem Lo.kp {w w' : World} {B : Nat} {p : Option Addr} {c : Nat} {l : List (List Int)} {q : Option Addr} (h : Lo w B p c l q) {g : Nat} {cs : Array Value} {t : TypeId} (hl : Lv w g cs t) (h1 : (24 : TypeId) ≠ t) (h2 : (3 : TypeId) ≠ t) (hk : Kp g w w') : Lo w' B p c l q := by
  obtain ⟨ss, q1, q2, q3⟩ := h
  exact ⟨ss, own_type q1 hl h1 hk, q2, fun i a b => ⟨(q3 i a b).1, (q3 i a b).2.1, (by obtain ⟨q, ho⟩ := (q3 i a b).2.2.1; exact ⟨q, own_type ho hl h2 hk⟩), (q3 i a b).2.2.2⟩⟩
/-- the row beside it has grown -/
theorem Lo.grew {w w' : World} {B : Nat} {p : Option Addr} {c : Nat} {l : List (List Int)} {q q' : Option Addr} (h : Lo w B p c l q) {base d : Nat} {m : List Int} (ho : Own eI w base 3 q d m) (hg : Grew w w' q q') : Lo w' B p c l q' := by
  obtain ⟨ss, q1, q2, q3⟩ := h
  refine ⟨ss, Own.grew q1 hg (Two.type ho q1 (by decide)), q2, fun i a b => ?_⟩
  obtain ⟨a1, a2, ⟨r, hr⟩, a4⟩ := q3 i a b
  exact ⟨a1, a2, ⟨r, Own.grew hr hg a4⟩, Two.grew hr hg a4⟩
/-- it has grown by one row -/
theorem Lo.snoc {w w' : World} {B : Nat} {p p' : Option Addr} {c c' : Nat} {l : List (List Int)} {q : Option Addr} {ss : List (Option Addr × Nat × Nat)} (q1 : Own eS w B 24 p c ss) (q2 : ss.length = l.length) (q3 : ∀ (i : Nat) (h1 : i < ss.length) (h2 : i < l.length), l[i].length = ss[i].2.1 ∧ ss[i].2.1 ≤ 1000 ∧ (∃ base, Own eI w base 3 ss[i].1 ss[i].2.2 l[i]) ∧ Two q ss[i].1)
    (hg : Grew w w' p p') {s : Option Addr × Nat × Nat} {L : List Int} (ho : Own eS w' B 24 p' c' (ss ++ [s])) (h1 : L.length = s.2.1) (h2 : s.2.1 ≤ 1000) {base : Nat} (h3 : Own eI w base 3 s.1 s.2.2 L) (h4 : Two q s.1) : Lo w' B p' c' (l ++ [L]) q := by
  have keep : ∀ {b : Nat} {x : Option Addr} {d : Nat} {m : List Int}, Own eI w b 3 x d m → Own eI w' b 3 x d m := fun h => Own.grew h hg (Two.type q1 h (by decide))
  refine ⟨ss ++ [s], ho, by simp [q2], fun i a b => ?_⟩
  by_cases hi : i < l.length
  · have e1 : (ss ++ [s])[i]'a = ss[i]'(by omega) := List.getElem_append_left (by omega)
    have e2 : (l ++ [L])[i]'b = l[i] := List.getElem_append_left hi
    rw [e1, e2]
    obtain ⟨a1, a2, ⟨r, hr⟩, a4⟩ := q3 i (by omega) hi
    exact ⟨a1, a2, ⟨r, keep hr⟩, a4⟩
  · have e : i = l.length := by simp at b; omega
    subst e
    have e1 : (ss ++ [s])[l.length]'a = s := by simp [← q2]
    have e2 : (l ++ [L])[l.length]'b = L := by simp
    rw [e1, e2]
    exact ⟨h1, h2, ⟨base, keep h3⟩, h4⟩
end Go.Proofs.Ytcncpefdjgnhdaa
