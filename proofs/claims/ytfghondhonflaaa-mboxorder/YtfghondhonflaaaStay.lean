/-
  Slices of the law's own beside a box's rows; a box's variable that is written while the law's own slice stays.
-/
import Derived.Test.YtfghondhonflaaaSubs
namespace Go.Proofs.Ytfghondhonflaaa
open Go.ChangeShapes Go.WideShapes Go.ChangeAt Go.RowKit

/-- p lies in another block than pw -/
def Ap (pw p : Option Addr) (l : List Int) : Prop := ∀ b o, pw = some ⟨b, o, none⟩ → ∀ b' o', p = some ⟨b', o', none⟩ → l ≠ [] → b' ≠ b
theorem Ap.nil (p : Option Addr) (l : List Int) : Ap none p l := fun _ _ h => by cases h
theorem Sub.ge' {w : World} {base : Nat} {p : Option Addr} {c : Nat} {l : List Int} (h : Sub w base p c l) {b o : Nat} (e : p = some ⟨b, o, none⟩) : base ≤ b := by subst e; exact h.ge
theorem Ap.new {w : World} {base : Nat} {pw : Option Addr} {c : Nat} {l : List Int} (h : Sub w base pw c l) {p : Option Addr} (hp : Nw w.heap.size p) (L : List Int) : Ap pw p L := by
  rintro b o rfl b' o' e _
  have := hp b' o' e
  have := h.lt
  omega
theorem Far.subHigh {w : World} {base : Nat} {pw : Option Addr} {c : Nat} {l : List Int} (h : Sub w base pw c l) {g : Nat} (hg : w.heap.size ≤ g) : Far pw g := by
  rintro b o rfl
  have := h.lt
  omega
theorem Far.subLow {w : World} {base : Nat} {pw : Option Addr} {c : Nat} {l : List Int} (h : Sub w base pw c l) {g : Nat} (hg : g < base) : Far pw g := by
  rintro b o rfl
  have := h.ge
  omega
theorem Far.next {w : World} {pn pw : Option Addr} (hp : pn = pw ∨ ∃ g, pn = some ⟨g, 0, none⟩ ∧ w.heap.size ≤ g) {g : Nat} (h : Far pw g) (hg : g < w.heap.size) : Far pn g := by
  rcases hp with rfl | ⟨x, rfl, hx⟩
  · exact h
  · rintro b o e
    cases e
    omega
theorem Ap.next {w : World} {pn pw : Option Addr} (hp : pn = pw ∨ ∃ g, pn = some ⟨g, 0, none⟩ ∧ w.heap.size ≤ g) {p : Option Addr} {c : Nat} {l : List Int} (h : Ap pw p l) (hr : Rd eI w p c l) : Ap pn p l := by
  rcases hp with rfl | ⟨x, rfl, hx⟩
  · exact h
  · rintro b o e b' o' e' hl
    cases e
    subst e'
    obtain ⟨b2, o2, e2, hlt, _⟩ := hr.pos (List.length_pos_iff.2 hl)
    cases e2
    omega
theorem Ap.same {b o o' : Nat} {p : Option Addr} {l : List Int} (h : Ap (some ⟨b, o, none⟩) p l) : Ap (some ⟨b, o', none⟩) p l := fun b1 _ e => by cases e; exact h b o rfl
theorem Rd.blocks {w w' : World} {p : Option Addr} {c : Nat} {l : List Int} (h : Rd eI w p c l) (hb : ∀ b o, p = some ⟨b, o, none⟩ → l ≠ [] → b < w.heap.size → w'.heap[b]? = w.heap[b]?) : Rd eI w' p c l := by
  cases l with
  | nil => exact Rd.void h
  | cons x r =>
    obtain ⟨b, o, rfl, hlt, hc⟩ := h.num 0 (by simp)
    refine ⟨h.cap, ?_⟩
    rcases h.at_ with ⟨h0, _⟩ | ⟨b', o', s, h1, hs, hc'⟩
    · cases h0
    · cases h1
      exact .inr ⟨b, o, none, rfl, fun _ => rfl, fun j v hj => by rw [World.cell?_of_block (a := ⟨b, o + j, none⟩) (hb b o rfl (by simp) hlt)]; exact hc' j v hj⟩
theorem Bx.blocks {w w' : World} {p : Option Addr} {c n : Nat} {L : List Int} {q : Option Addr} {d m : Nat} {Q : List Int} (h : Bx w p c n L q d m Q) (hb : ∀ b o, p = some ⟨b, o, none⟩ → L ≠ [] → b < w.heap.size → w'.heap[b]? = w.heap[b]?) (hq : ∀ b o, q = some ⟨b, o, none⟩ → Q ≠ [] → b < w.heap.size → w'.heap[b]? = w.heap[b]?) : Bx w' p c n L q d m Q :=
  ⟨h.rl.blocks hb, h.rq.blocks hq, h.ln, h.lm, h.n9, h.m9⟩
theorem Sub.setFar {w : World} {base : Nat} {p : Option Addr} {c : Nat} {l : List Int} (h : Sub w base p c l) {g : Nat} (hf : Far p g) (j : Nat) (v : Value) : Sub (w.setCell ⟨g, j, none⟩ v) base p c l :=
  h.block (by simp [World.setCell]) (fun b o e => Below.heap_setCell _ _ _ _ (hf b o e))
end Go.Proofs.Ytfghondhonflaaa
