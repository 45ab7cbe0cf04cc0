/-
  The sum of numbers, as plain mathematics over Nat: turned to the left by five bits, a byte laid over it; where one byte is another one the sum is another one; noughts turn it round.
-/
import Derived.Laws.BitsAllLaws
namespace Go.Proofs.Ytcncpefdjgnhdaa

/-- h of 32 bits, turned to the left by five. -/
def rot (h : Nat) : Nat := h % 134217728 * 32 + h / 134217728
/-- .. and a number's lowest byte laid over it. -/
def stp (h u : Nat) : Nat := rot h ^^^ (u % 256)
/-- k bytes of u. -/
def wnk : Nat → Nat → Nat → Nat
  | 0, h, _ => h
  | k + 1, h, u => wnk k (stp h u) (u / 256)
/-- an int64 as 64 bits -/
def ubits (x : Int) : Nat := (x % 18446744073709551616).toNat
def sumv : Nat → List Int → Nat
  | h, [] => h
  | h, x :: r => sumv (wnk 8 h (ubits x)) r
/-- the sum of nothing -/
def seed : Nat := 2166136261

theorem rot_lt {h : Nat} (hh : h < 4294967296) : rot h < 4294967296 := by unfold rot; omega
theorem stp_lt {h : Nat} (u : Nat) (hh : h < 4294967296) : stp h u < 4294967296 := by
  unfold stp
  exact Nat.xor_lt_two_pow (n := 32) (rot_lt hh) (by omega)
theorem wnk_lt : ∀ (k : Nat) {h : Nat} (u : Nat), h < 4294967296 → wnk k h u < 4294967296
  | 0, _, _, hh => hh
  | k + 1, _, u, hh => wnk_lt k _ (stp_lt u hh)
theorem sumv_lt : ∀ (l : List Int) {h : Nat}, h < 4294967296 → sumv h l < 4294967296
  | [], _, hh => hh
  | _ :: r, _, hh => sumv_lt r (wnk_lt 8 _ hh)
theorem seed_lt : seed < 4294967296 := by decide
theorem ubits_lt (x : Int) : ubits x < 18446744073709551616 := by unfold ubits; omega
theorem sumv_append : ∀ (l m : List Int) (h : Nat), sumv h (l ++ m) = sumv (sumv h l) m
  | [], _, _ => rfl
  | _ :: r, m, _ => sumv_append r m _

theorem rot_inj {a b : Nat} (ha : a < 4294967296) (hb : b < 4294967296) (h : rot a = rot b) : a = b := by unfold rot at h; omega
theorem xor_inj {a b c : Nat} (h : a ^^^ c = b ^^^ c) : a = b := by
  have := congrArg (· ^^^ c) h
  simpa [Nat.xor_assoc] using this
theorem xor_inj' {a b c : Nat} (h : c ^^^ a = c ^^^ b) : a = b := by
  have := congrArg (c ^^^ ·) h
  simpa [← Nat.xor_assoc] using this
theorem stp_inj {a b : Nat} (u : Nat) (ha : a < 4294967296) (hb : b < 4294967296) (h : stp a u = stp b u) : a = b := rot_inj ha hb (xor_inj h)
theorem wnk_inj : ∀ (k : Nat) {a b : Nat} (u : Nat), a < 4294967296 → b < 4294967296 → wnk k a u = wnk k b u → a = b
  | 0, _, _, _, _, _, h => h
  | k + 1, _, _, u, ha, hb, h => stp_inj u ha hb (wnk_inj k _ (stp_lt u ha) (stp_lt u hb) h)
theorem sumv_inj : ∀ (l : List Int) {a b : Nat}, a < 4294967296 → b < 4294967296 → sumv a l = sumv b l → a = b
  | [], _, _, _, _, h => h
  | x :: r, _, _, ha, hb, h => wnk_inj 8 (ubits x) ha hb (sumv_inj r (wnk_lt 8 _ ha) (wnk_lt 8 _ hb) h)

/-- One byte of u is another one: so is what comes of it. -/
theorem wnk_ne : ∀ (j k : Nat) (h u b : Nat), h < 4294967296 → j < k → 0 < b → b < 256 → wnk k h (u ^^^ b * 256 ^ j) ≠ wnk k h u
  | 0, k + 1, h, u, b, hh, _, h0, h1 => by
    intro e
    simp only [wnk, Nat.pow_zero, Nat.mul_one] at e
    have ed : (u ^^^ b) / 256 = u / 256 := by
      have := Nat.xor_div_two_pow (a := u) (b := b) (n := 8)
      simp only [show (2 : Nat) ^ 8 = 256 from rfl] at this
      rw [this, show b / 256 = 0 by omega, Nat.xor_zero]
    rw [ed] at e
    have e2 := wnk_inj k _ (stp_lt _ hh) (stp_lt _ hh) e
    unfold stp at e2
    have e3 := xor_inj' e2
    have em := Nat.xor_mod_two_pow (a := u) (b := b) (n := 8)
    simp only [show (2 : Nat) ^ 8 = 256 from rfl] at em
    rw [em, show b % 256 = b by omega] at e3
    have e4 := congrArg ((u % 256) ^^^ ·) e3
    simp [← Nat.xor_assoc] at e4
    omega
  | j + 1, k + 1, h, u, b, hh, hj, h0, h1 => by
    intro e
    simp only [wnk] at e
    have ed : (u ^^^ b * 256 ^ (j + 1)) / 256 = u / 256 ^^^ b * 256 ^ j := by
      have := Nat.xor_div_two_pow (a := u) (b := b * 256 ^ (j + 1)) (n := 8)
      simp only [show (2 : Nat) ^ 8 = 256 from rfl] at this
      rw [this, Nat.pow_succ, ← Nat.mul_assoc, Nat.mul_div_cancel _ (by decide)]
    have em : (u ^^^ b * 256 ^ (j + 1)) % 256 = u % 256 := by
      have := Nat.xor_mod_two_pow (a := u) (b := b * 256 ^ (j + 1)) (n := 8)
      simp only [show (2 : Nat) ^ 8 = 256 from rfl] at this
      rw [this, Nat.pow_succ, ← Nat.mul_assoc, Nat.mul_mod_left, Nat.xor_zero]
    have es : stp h (u ^^^ b * 256 ^ (j + 1)) = stp h u := by unfold stp; rw [em]
    rw [ed, es] at e
    exact wnk_ne j k _ _ b (stp_lt _ hh) (by omega) h0 h1 e

/-- .. and the sum of the row. -/
theorem sumv_ne {h : Nat} (hh : h < 4294967296) : ∀ (l : List Int) (i : Nat) (hi : i < l.length) (y : Int), (∀ g, g < 4294967296 → wnk 8 g (ubits y) ≠ wnk 8 g (ubits l[i])) → sumv h (l.set i y) ≠ sumv h l := by
  intro l
  induction l generalizing h with
  | nil => intro i hi; simp at hi
  | cons x r ih =>
    intro i hi y hy
    cases i with
    | zero =>
      intro e
      simp only [List.set_cons_zero, sumv] at e
      exact hy h hh (sumv_inj r (wnk_lt 8 _ hh) (wnk_lt 8 _ hh) e)
    | succ i =>
      simp only [List.set_cons_succ, sumv]
      exact ih (wnk_lt 8 _ hh) i (by simpa using hi) y (by simpa using hy)

/-- turned by eight bits -/
def rot8 (h : Nat) : Nat := h % 16777216 * 256 + h / 16777216
theorem rot_eq (h : Nat) : rot h + 4294967295 * (h / 134217728) = 32 * h := by unfold rot; omega
theorem stp_zero (h : Nat) : stp h 0 = rot h := by unfold stp; simp
theorem wnk_zero : ∀ (k h : Nat), h < 4294967296 → ∃ q, wnk k h 0 + 4294967295 * q = 32 ^ k * h ∧ (wnk k h 0 = 0 ↔ h = 0)
  | 0, h, _ => ⟨0, by simp [wnk], Iff.rfl⟩
  | k + 1, h, hh => by
    obtain ⟨q, hq, hz⟩ := wnk_zero k (rot h) (rot_lt hh)
    refine ⟨q + 32 ^ k * (h / 134217728), ?_, ?_⟩
    · simp only [wnk, stp_zero]
      have e := rot_eq h
      rw [Nat.pow_succ, Nat.mul_assoc, ← e, Nat.mul_add, Nat.mul_add, ← hq, show 0 / 256 = 0 from rfl]
      have : 4294967295 * (32 ^ k * (h / 134217728)) = 32 ^ k * (4294967295 * (h / 134217728)) := Nat.mul_left_comm _ _ _
      omega
    · simp only [wnk, stp_zero]
      rw [hz]
      unfold rot
      omega
theorem wn_zero {h : Nat} (hh : h < 4294967296) : wnk 8 h 0 = rot8 h := by
  obtain ⟨q, hq, hz⟩ := wnk_zero 8 h hh
  have hl := wnk_lt 8 (h := h) 0 hh
  unfold rot8
  rw [show (32 : Nat) ^ 8 = 1099511627776 from rfl] at hq
  generalize wnk 8 h 0 = g at *
  omega
theorem rot8_lt {h : Nat} (hh : h < 4294967296) : rot8 h < 4294967296 := by unfold rot8; omega
def rots : Nat → Nat → Nat
  | 0, h => h
  | n + 1, h => rots n (rot8 h)
theorem sumv_zeros : ∀ (n : Nat) {h : Nat}, h < 4294967296 → sumv h (List.replicate n 0) = rots n h
  | 0, _, _ => rfl
  | n + 1, h, hh => by
    rw [List.replicate_succ, sumv, show ubits 0 = 0 from rfl, wn_zero hh, sumv_zeros n (rot8_lt hh)]
    rfl
theorem rots_eq {h : Nat} (hh : h < 4294967296) :
    rots 1 h = h % 16777216 * 256 + h / 16777216 ∧ rots 2 h = h % 65536 * 65536 + h / 65536 ∧ rots 3 h = h % 256 * 16777216 + h / 256 ∧ rots 4 h = h := by
  have e1 : rots 1 h = h % 16777216 * 256 + h / 16777216 := rfl
  have e2 : rots 2 h = h % 65536 * 65536 + h / 65536 := by show rot8 (rot8 h) = _; unfold rot8; omega
  have e3 : rots 3 h = h % 256 * 16777216 + h / 256 := by
    show rot8 (rots 2 h) = _
    rw [e2]; unfold rot8; omega
  have e4 : rots 4 h = h := by
    show rot8 (rots 3 h) = _
    rw [e3]; unfold rot8; omega
  exact ⟨e1, e2, e3, e4⟩

abbrev Wt := Int × Nat
/-- all masks fit -/
def UL (l : List Wt) : Prop := ∀ x ∈ l, x.2 < 4294967296
/-- A thing. -/
structure Th where
  k : Int
  a : Int
  g : Int
  c : Int
  h : Int
  L : List Int
  W : List Int
  b : Nat
  F : List Wt
  s : Nat
/-- who waits for flags, as numbers -/
def fce : List Wt → List Int
  | [] => []
  | x :: r => x.1 :: (x.2 : Int) :: fce r
theorem fce_append : ∀ l m : List Wt, fce (l ++ m) = fce l ++ fce m
  | [], _ => rfl
  | x :: r, m => by simp [fce, fce_append r m]
theorem fce_length : ∀ l : List Wt, (fce l).length = 2 * l.length
  | [] => rfl
  | x :: r => by simp [fce, fce_length r]; omega
def sparts (t : Th) : List Int := [t.k, t.a, t.g, t.c, t.h, (t.L.length : Int)] ++ t.L ++ [(t.W.length : Int)] ++ t.W ++ [(t.b : Int)] ++ fce t.F
/-- a thing's seal -/
def sealOf (t : Th) : Nat := sumv seed (sparts t)
theorem sealOf_lt (t : Th) : sealOf t < 4294967296 := sumv_lt _ seed_lt
theorem sealOf_s (t : Th) (s : Nat) : sealOf { t with s := s } = sealOf t := rfl
/-- all bits turned -/
def comp (s : Nat) : Nat := 4294967295 - s
theorem comp_lt (s : Nat) : comp s < 4294967296 := by unfold comp; omega
theorem comp_ne {s : Nat} (h : s < 4294967296) : comp s ≠ s := by unfold comp; omega
theorem comp_comp {s : Nat} (h : s < 4294967296) : comp (comp s) = s := by unfold comp; omega
/-- nothing -/
def th0 : Th := ⟨0, 0, 0, 0, 0, [], [], 0, [], 0⟩
def sealedT (t : Th) : Th := { t with s := sealOf t }
def turnT (t : Th) : Th := { t with s := comp t.s }
def turnedT (t : Th) : Bool := decide (t.s ≠ sealOf t)
/-- a thing as it begins, its ceiling c if it is a semaphore -/
def freshT (k a g c : Int) : Th := sealedT ⟨k, a, g, if k = 1 then c else 0, 0, [], [], 0, [], 0⟩
/-- who waits -/
def waitT (t : Th) : List Int := t.W ++ t.F.map (·.1)
/-- what a thing is when c, h, L, W, b, F are put -/
def putT (t : Th) (c h : Int) (L W : List Int) (b : Nat) (F : List Wt) : Th :=
  if turnedT t then turnT (sealedT { t with c := c, h := h, L := L, W := W, b := b, F := F }) else sealedT { t with c := c, h := h, L := L, W := W, b := b, F := F }
/-- the places of kind k, of the first n -/
def plc (k : Int) (l : List Th) : Nat → List Int
  | 0 => []
  | n + 1 => plc k l n ++ if (l.getD n th0).k = k then [(n : Int)] else []
theorem plc_le (k : Int) (l : List Th) : ∀ n, (plc k l n).length ≤ n
  | 0 => Nat.le_refl _
  | n + 1 => by
    have := plc_le k l n
    rw [plc, List.length_append]
    split
    · simp; omega
    · simp; omega
/-- how many there may be -/
def mostN (k : Int) : Nat := if k = 1 ∨ k = 2 ∨ k = 3 then 4 else 0
/-- is something there? -/
def isThere (l : List Th) (p : Int) : Bool := decide (0 ≤ p ∧ p < 12 ∧ (l.getD p.toNat th0).k ≠ 0)
/-- does it begin anew? -/
def anew (t : Th) : Bool := decide (t.k ≠ 0) && turnedT t
/-- what begins anew has, of the first n -/
def audT (t : Th) : Th := if anew t then freshT t.k t.a t.g t.c else t
def audP (l : List Th) : Nat → List Int
  | 0 => []
  | n + 1 => audP l n ++ if anew (l.getD n th0) then [(n : Int)] else []
def audW (l : List Th) : Nat → List (List Int)
  | 0 => []
  | n + 1 => audW l n ++ if anew (l.getD n th0) then [waitT (l.getD n th0)] else []
theorem audP_le (l : List Th) : ∀ n, (audP l n).length ≤ n
  | 0 => Nat.le_refl _
  | n + 1 => by
    have := audP_le l n
    rw [audP, List.length_append]
    split
    · simp; omega
    · simp; omega
theorem audW_len (l : List Th) : ∀ n, (audW l n).length = (audP l n).length
  | 0 => rfl
  | n + 1 => by
    rw [audP, audW, List.length_append, List.length_append, audW_len l n]
    split <;> rfl
end Go.Proofs.Ytcncpefdjgnhdaa
