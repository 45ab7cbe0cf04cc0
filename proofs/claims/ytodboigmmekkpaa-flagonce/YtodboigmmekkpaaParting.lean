/-
  What parts hands back: which flags go to each that waits, and which to none.
-/
import Derived.Test.YtodboigmmekkpaaFirst
namespace Go.Proofs.Ytodboigmmekkpaa
open Go.ChangeShapes Go.WideShapes Go.ChangeAt Go.RowKit
attribute [local go_sem ↓] Go.wp_at_zero Go.wp_at_succ

theorem Own.drw {α : Type} {E : Elt α} {w : World} {base : Nat} {e : TypeId} {p : Option Addr} {c : Nat} {l : List α} (h : Own E w base e p c l) : Own E w.drew base e p c l := h
theorem made_zeroU (n : Nat) : (madeCells (Value.int .u32 0).cells (n * 1)).toList = fl eU (List.replicate n 0) := by
  rw [flU_zero]
  simp [madeCells, Value.cells, Nat.mod_one, List.map_const']
theorem or_val {x k : Nat} (hx : x < 4294967296) (hk : k < 32) : bits .or .u32 (x : Int) ((2 : Int) ^ k % 4294967296) = ((x ||| 2 ^ k : Nat) : Int) := by
  have h2 : 2 ^ k < 4294967296 := Nat.pow_lt_pow_of_lt (by decide : 1 < 2) hk
  have e : ((2 : Int) ^ k % 4294967296) = ((2 ^ k : Nat) : Int) := by
    have : ((2 : Int) ^ k) = ((2 ^ k : Nat) : Int) := by simp
    rw [this]
    generalize 2 ^ k = X at h2
    omega
  rw [e]
  exact u32_or_nat _ _ hx h2
theorem nk_lt32 (b : Nat) (l : List Wt) {k : Nat} (hk : k < 32) : nk b l k < 4294967296 := Nat.lt_trans (nk_lt b l k) (Nat.pow_lt_pow_of_lt (by decide : 1 < 2) hk)
theorem gk_lt32 (b : Nat) (l : List Wt) {k i : Nat} (hk : k < 32) (h : i < (gk b l k).length) : (gk b l k)[i] < 4294967296 := Nat.lt_trans (gk_lt b l k i h) (Nat.pow_lt_pow_of_lt (by decide : 1 < 2) hk)
set_option maxHeartbeats 2000000 in
theorem parts_any (b : Nat) (p : Option Addr) (c : Nat) (l : List Wt) (w : World) (hb32 : b < 4294967296) (h : Rd eW w p c l) (hU : UL l) (n : Nat) (hn : l.length = n) (hn9 : n ≤ 1000) :
    Calls Try.prog 20 #[.int .u32 (b : Int), .slice p n c] w fun e w' => ∃ q d, e = .returned (.tuple #[.slice q n d, .int .u32 ((lf b l : Nat) : Int)]) ∧ Own eU w' w.heap.size 22 q d (gs b l) ∧ Below w.heap.size w w' := by
  obtain ⟨i0, hi0, hz0, hz1, hz2⟩ := info_parts Try.info22
  have HN : Hid (l.length = n) := hn
  have HU : Hid (UL l) := hU
  clear hn hU
  go_enter Try.func20, Try.ntmps20
  go_wp2_with (at_make; refine wpList_make_full _ rfl _ _ 45 rfl w.heap.size 22 i0 _ 1 Try.underlying45 hi0 hz0 hz1 .i64 .i64 _ _ n rfl rfl rfl rfl (by rw [hz2]; omega) (by unfold maxLen; omega) (Nat.le_refl _) ?_; intro w0 hown0 hgrow0)
  have hB0 : Below w.heap.size w w0 := (Below.refl _ _).grown hgrow0 (Nat.le_refl _) (fun k hk => by cases hk)
  have hO : Own eU w0 w.heap.size 22 (some ⟨w.heap.size, 0, none⟩) n (gk b l 0) := by
    rw [gk_zero, HN.out]
    unfold Own
    rw [List.length_replicate, ← made_zeroU]
    exact hown0
  clear hown0 hgrow0 hi0 hz0 hz1 hz2
  obtain ⟨g, hg⟩ : ∃ g, g = w.heap.size := ⟨_, rfl⟩
  have hgw : w.heap.size ≤ g := by omega
  rw [← hg] at hO
  simp only [← hg]
  clear hg
  go_loopw [5, 12] (fun v i wr => ∃ k : Nat, k ≤ 32 ∧ i = .int .i64 k ∧ v = .int .u32 ((nk b l k : Nat) : Int) ∧ Own eU wr w.heap.size 22 (some ⟨g, 0, none⟩) n (gk b l k) ∧ Below w.heap.size w wr) (fun _ i _ => 32 - (intOf i).toNat)
  case atStart => exact ⟨0, by omega, rfl, by rw [nk_zero]; rfl, own_mono hO hgw, hB0⟩
  case round =>
    obtain ⟨k, hk, rfl, rfl, hO, hbw⟩ := hrel
    by_cases hlt : k < 32
    · have hdk : decide ((k : Int) < 32) = true := by simp; omega
      have hd := bit_eq k hb32
      cases hb : b.testBit k with
      | false =>
        rw [hb] at hd
        have HB : Hid (b.testBit k = false) := hb
        clear hb
        simp only [Bool.not_false] at hd
        go_wp2
        go_roundw
        case rel => exact ⟨k + 1, by omega, by go_num, by rw [nk_off HB.out], by rw [gk_off HB.out]; exact hO, hbw⟩
        case measure => simp [intOf]; omega
      | true =>
        rw [hb] at hd
        have HB : Hid (b.testBit k = true) := hb
        clear hb
        simp only [Bool.not_true] at hd
        rcases fst_ex k l with ⟨i, hF⟩ | hF
        · have HF : Hid (FstP l k i) := hF
          have hil : i < n := by obtain ⟨h1, _⟩ := hF; rw [HN.out] at h1; exact h1
          have hgl : i < (gk b l k).length := by rw [gk_length, HN.out]; exact hil
          clear hF
          go_wp2_with (go_at_call 23; refine (first_yes _ _ l k _ (h.below hbw) HU.out n HN.out hn9 hlt i HF.out).mono ?_; rintro e w1 ⟨rfl, b1⟩
                       obtain ⟨g', hg', hg1, hg2, hfz, hcl, hset⟩ := own_setU (own_below hO b1) i hgl
                       obtain rfl : g = g' := by cases hg'; rfl
                       clear hg')
          have hgl32 := gk_lt32 b l hlt hgl
          obtain ⟨G, hG⟩ : ∃ G, (gk b l k)[i] = G := ⟨_, rfl⟩
          have HG : Hid ((gk b l k)[i] = G) := hG
          rw [hG] at hcl hgl32
          have hor := or_val hgl32 hlt
          have hGS : Hid (gk b l (k + 1) = (gk b l k).set i (G ||| 2 ^ k)) := by
            show _ = _
            rw [gk_fst HB.out HF.out hgl, HG.out]
          clear hG
          go_region
          go_wp2
          go_roundw
          case rel => exact ⟨k + 1, by omega, by go_num, by rw [nk_fst HF.out], by rw [hGS.out]; exact (hset _).drw, (Below.setCell (bel_call hbw (Nat.le_refl _) b1) (p := ⟨g, i, none⟩) hgw _).drew⟩
          case measure => simp [intOf]; omega
        · have HF : Hid (NoneP l k) := hF
          clear hF
          have hor := or_val (nk_lt32 b l hlt) hlt
          go_wp2_with (go_at_call 23; refine (first_no _ _ l k _ (h.below hbw) HU.out n HN.out hn9 hlt HF.out).mono ?_; rintro e w1 ⟨rfl, b1⟩)
          go_roundw
          case rel => exact ⟨k + 1, by omega, by go_num, by rw [nk_none HB.out HF.out], by rw [gk_none HF.out]; exact own_below hO b1, bel_call hbw (Nat.le_refl _) b1⟩
          case measure => simp [intOf]; omega
    · have hk32 : k = 32 := by omega
      subst hk32
      have HK : Hid (nk b l 32 = lf b l) := nk_all hb32 l
      have HG : Hid (gk b l 32 = gs b l) := gk_all hb32 l
      go_wp2
      go_ret2
      refine ⟨_, _, by rw [HK.out]; rfl, ?_, hbw⟩
      rw [← HG.out]
      exact hO
end Go.Proofs.Ytodboigmmekkpaa
