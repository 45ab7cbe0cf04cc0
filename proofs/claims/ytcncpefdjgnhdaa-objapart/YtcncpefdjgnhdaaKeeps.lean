/-
  A table that is read is as it was behind a store into a variable of three slices: its rows hold no slice where such a variable does.
-/
import Derived.Test.YtcncpefdjgnhdaaWith
namespace Go.Proofs.Ytcncpefdjgnhdaa
open Go.ChangeShapes Go.WideShapes Go.ChangeAt Go.RowKit
attribute [local go_sem ↓] Go.wp_at_zero Go.wp_at_succ

/-- the first cell of an element is no slice -/
def Ns {α : Type} (E : Elt α) : Prop := ∀ a, ∃ v, (E.enc a)[0]? = some v ∧ ∀ q n d, v ≠ .slice q n d
theorem nsI : Ns eI := fun a => ⟨.int .i64 a, rfl, fun _ _ _ h => by cases h⟩
theorem nsB : Ns eB := fun a => ⟨.bool a, rfl, fun _ _ _ h => by cases h⟩
theorem nsW : Ns eW := fun a => ⟨.int .i64 a.1, rfl, fun _ _ _ h => by cases h⟩
theorem nsT : Ns eT := fun a => ⟨.int .i64 a.k, rfl, fun _ _ _ h => by cases h⟩
theorem vw_slice {w : World} {g : Nat} {x : Tw} {e : TypeId} (hv : Vw w g x e) {o : Nat} {v : Value} (h : w.cell? ⟨g, o, none⟩ = some v) : ∃ q n d, v = .slice q n d := by
  obtain ⟨c0, c1, c2⟩ := hv.at
  by_cases h0 : o = 0
  · subst h0; rw [c0] at h; exact ⟨_, _, _, (Option.some.inj h).symm⟩
  by_cases h1 : o = 1
  · subst h1; rw [c1] at h; exact ⟨_, _, _, (Option.some.inj h).symm⟩
  by_cases h2 : o = 2
  · subst h2; rw [c2] at h; exact ⟨_, _, _, (Option.some.inj h).symm⟩
  · exfalso
    have hv' : w.heap[g]? = some (.cells #[.slice x.gp 12 x.gc, .slice x.ip 12 x.ic, .slice x.tp 12 x.tc] e (0, 0)) := hv
    obtain ⟨j, rfl⟩ : ∃ j, o = j + 3 := ⟨o - 3, by omega⟩
    simp [World.cell?, hv'] at h
theorem Rd.kpS {α : Type} {E : Elt α} {w w' : World} {p : Option Addr} {c : Nat} {l : List α} (hr : Rd E w p c l) (hE : Ns E) {g : Nat} {x : Tw} {e : TypeId} (hv : Vw w g x e) (hk : Kp g w w') : Rd E w' p c l := by
  refine ⟨hr.cap, ?_⟩
  rcases hr.at_ with h0 | ⟨b, o, s, rfl, hs, hc⟩
  · exact .inl h0
  · by_cases hn : l = []
    · subst hn
      exact .inr ⟨b, o, s, rfl, fun h => absurd rfl h, fun j v hj => by simp [fl] at hj⟩
    · have hs0 := hs hn
      subst hs0
      obtain ⟨b2, o2, e2, hb, hc2⟩ := hr.pos (Nat.pos_of_ne_zero (fun h => hn (List.eq_nil_of_length_eq_zero h)))
      cases e2
      have hne : b ≠ g := by
        intro h
        subst h
        cases l with
        | nil => exact hn rfl
        | cons a r =>
          obtain ⟨v, h1, h2⟩ := hE a
          have h3 := hc2 0 v (by
            show (E.enc a ++ fl E r)[0]? = some v
            rw [List.getElem?_append_left (by rw [E.len]; exact E.pos)]
            exact h1)
          obtain ⟨q, n, d, h4⟩ := vw_slice hv h3
          exact h2 q n d h4
      exact .inr ⟨b, o, none, rfl, fun _ => rfl, fun j v hj => (World.cell?_of_block (a := ⟨b, o + j, none⟩) (hk.block b hb (by intro h; exact hne (Option.some.inj h)))).trans (hc2 j v hj)⟩
theorem Ok.kpS {w w' : World} {X : Tc} {t : Th} (h : Ok w X t) {g : Nat} {x : Tw} {e : TypeId} (hv : Vw w g x e) (hk : Kp g w w') : Ok w' X t :=
  { h with L := h.L.kpS nsI hv hk, W := h.W.kpS nsI hv hk, F := h.F.kpS nsW hv hk }
theorem Tr.kpS {w w' : World} {y : Tw} {T : Tb} (h : Tr w y T) {g : Nat} {x : Tw} {e : TypeId} (hv : Vw w g x e) (hk : Kp g w w') : Tr w' y T :=
  { h with G := h.G.kpS nsI hv hk, I := h.I.kpS nsB hv hk, R := by obtain ⟨xs, h1, h2⟩ := h.R; exact ⟨xs, h1.kpS nsT hv hk, h2.1, fun i a b => (h2.2 i a b).kpS hv hk⟩ }
end Go.Proofs.Ytcncpefdjgnhdaa
