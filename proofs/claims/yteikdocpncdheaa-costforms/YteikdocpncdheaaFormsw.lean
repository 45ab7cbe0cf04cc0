/-
  The law CostForms, walked.
-/
import Derived.Test.YteikdocpncdheaaOf
import Derived.Test.YteikdocpncdheaaLots
namespace Go.Proofs.Yteikdocpncdheaa
open Go.ChangeShapes Go.WideShapes Go.ChangeAt Go.RowKit
attribute [local go_sem ↓] Go.wp_at_zero Go.wp_at_succ

def fP : List (List In) := [[(0, 0, 0, 0)], [(1, 0, 0, 0), (11, 0, 0, 0), (1, 0, 0, 0), (1, 0, 0, 0), (11, 0, 0, 0), (0, 0, 0, 0)], [(8, 0, 1, 5), (1, 0, 0, 0), (0, 0, 0, 0)], [(8, 0, 3, 4), (1, 0, 0, 0), (8, 0, 1, 3), (1, 0, 0, 0), (0, 0, 0, 0)], [(7, 0, 0, 2), (1, 0, 0, 0), (1, 0, 0, 0), (0, 0, 0, 0)], [(9, 0, 0, 0), (9, 1, 0, 0), (1, 0, 0, 0), (10, 1, 0, 0), (1, 0, 0, 0), (10, 0, 0, 0), (0, 0, 0, 0)], [(8, 0, 4, 2), (9, 0, 0, 0), (8, 0, 1, 9), (1, 0, 0, 0), (10, 0, 0, 0), (0, 0, 0, 0)]]
def fA : List Nat := [1, 6, 7, 22, 4, 7, 26]
def fG : List Nat := [1, 3, 7, 22, 4, 7, 26]
def fS : List (List (Int × Int)) := [[], [], [], [], [], [(0, 5), (1, 2)], [(0, 11)]]
set_option maxRecDepth 100000 in
theorem f_ok : ∀ k, k < 7 → okB (fP.getD k []) = true ∧ tk (fP.getD k []) = fA.getD k 0 ∧ lgs (fP.getD k []) (fP.getD k []).length = fG.getD k 0 ∧ spL (fP.getD k []) (fP.getD k []).length = fS.getD k [] := by decide

theorem Rws.of {w : World} {b : Nat} {P : List (List In)} {cs : Array Value} {t : TypeId} {fr : Nat × Nat} (h : w.heap[b]? = some (.cells cs t fr)) (H : ∀ k, (hk : k < P.length) → ∃ q d, cs[k]? = some (.slice q P[k].length d) ∧ Rd eIn w q d P[k]) : Rws w b P :=
  ⟨lt_of_block h, fun k hk => by
    obtain ⟨q, d, h1, h2⟩ := H k hk
    exact ⟨q, d, by rw [cell_of_row _ _ _ _ _ _ h]; exact h1, h2⟩⟩
theorem cell_z {w : World} {b c : Nat} {z : List Int} (h : Rd eI w (some ⟨b, 0, none⟩) c z) {k : Nat} (hk : k < z.length) : b < w.heap.size ∧ w.cell? ⟨b, k, none⟩ = some (.int .i64 (z.getD k 0)) := by
  obtain ⟨b', o', e9, hb9, a0⟩ := h.num k hk
  simp only [Option.some.injEq, Addr.mk.injEq] at e9
  obtain ⟨rfl, rfl, _⟩ := e9
  rw [getD_at hk]
  rw [Nat.zero_add] at a0
  exact ⟨hb9, a0⟩
def zA : List Int := [1, 6, 7, 22, 4, 7, 26]
def zG : List Int := [1, 3, 7, 22, 4, 7, 26]
theorem f_int : ∀ k, k < 7 → zA.getD k 0 = (fA.getD k 0 : Int) ∧ zG.getD k 0 = (fG.getD k 0 : Int) ∧ (k < 5 → fS.getD k [] = []) := by decide

theorem f_round {wr : World} {b8 b9 b10 k : Nat} (HR : Rws wr b8 fP) (rA : Rd eI wr (some ⟨b9, 0, none⟩) 7 zA) (rG : Rd eI wr (some ⟨b10, 0, none⟩) 7 zG) (hk : k < 7) :
    ∃ (q : Option Addr) (d nL T G sn : Nat) (SP : List (Int × Int)), (b8 < wr.heap.size ∧ wr.cell? ⟨b8, k, none⟩ = some (.slice q nL d)) ∧ (b9 < wr.heap.size ∧ wr.cell? ⟨b9, k, none⟩ = some (.int .i64 (T : Int))) ∧ (b10 < wr.heap.size ∧ wr.cell? ⟨b10, k, none⟩ = some (.int .i64 (G : Int))) ∧ fS.getD k [] = SP ∧ SP.length = sn ∧
      (∀ w', Below wr.heap.size wr w' → Calls Try.prog 13 #[.slice q nL d] w' fun e w'' => (∃ q' d', e = .returned (.tuple #[.agg #[.int .i64 (T : Int), .int .i64 (G : Int), .slice q' sn d'], .bool true]) ∧ Own eSp w'' w'.heap.size 36 q' d' SP) ∧ Below w'.heap.size w' w'') := by
  have hkP : k < fP.length := hk
  obtain ⟨q, d, c0, r0⟩ := HR.2 k hkP
  have eP : fP[k] = fP.getD k [] := by simp [List.getD_eq_getElem?_getD, List.getElem?_eq_getElem hkP]
  rw [eP] at c0 r0
  obtain ⟨i1, i2, _⟩ := f_int k hk
  have ha := cell_z rA (k := k) hk
  have hg := cell_z rG (k := k) hk
  rw [i1] at ha
  rw [i2] at hg
  obtain ⟨o1, o2, o3, o4⟩ := f_ok k hk
  exact ⟨q, d, _, _, _, _, _, ⟨HR.1, c0⟩, ha, hg, rfl, rfl, fun w' hb => of_c q d (fP.getD k []) w' (r0.below hb) _ rfl o1 _ _ _ o2 o3 _ o4 rfl⟩
set_option maxRecDepth 100000 in
set_option maxHeartbeats 8000000 in
theorem forms_walk (w : World) : Calls Try.prog 6 #[] w fun e w' => e = .returned (.bool true) ∧ Below w.heap.size w w' := by
  go_enter Try.func6, Try.ntmps6
  go_wp2_with (go_at_call 9; refine (begun7 _).mono ?_; rintro e w1 ⟨rfl, hb1⟩)
  have hz1 := hb1.size
  go_loopw [11] (fun i wr => ∃ k : Nat, k ≤ 7 ∧ i = .int .i64 k ∧ Hid (Rws wr (w1.heap.size + 1 + 1 + 1 + 1 + 1 + 1 + 1 + 1 + 1 + 1 + 1 + 1 + 1 + 1) fP) ∧ Rd eI wr (some ⟨w1.heap.size + 1 + 1 + 1 + 1 + 1 + 1 + 1 + 1 + 1 + 1 + 1 + 1 + 1 + 1 + 1, 0, none⟩) 7 zA ∧ Rd eI wr (some ⟨w1.heap.size + 1 + 1 + 1 + 1 + 1 + 1 + 1 + 1 + 1 + 1 + 1 + 1 + 1 + 1 + 1 + 1, 0, none⟩) 7 zG ∧ Below w.heap.size w wr) (fun i _ => 7 - (intOf i).toNat)
  case atStart =>
    refine ⟨0, by omega, rfl, Rws.of (by repeat (first | (refine heap_at ?_; simp; done) | (refine Eq.trans (Below.heap_alloc _ _ _ ?_) ?_; (· simp)))) (fun k hk => ?_), rd_block (by repeat (first | (refine heap_at ?_; simp; done) | (refine Eq.trans (Below.heap_alloc _ _ _ ?_) ?_; (· simp)))) 7 rfl rfl, rd_block (by repeat (first | (refine heap_at ?_; simp; done) | (refine Eq.trans (Below.heap_alloc _ _ _ ?_) ?_; (· simp)))) 7 rfl rfl, bel_call hb1 (Nat.le_refl _) (by repeat (first | exact Below.refl _ _ | refine Below.alloc ?_ (by simp <;> omega) _))⟩
    have : k = 0 ∨ k = 1 ∨ k = 2 ∨ k = 3 ∨ k = 4 ∨ k = 5 ∨ k = 6 := by simp [fP] at hk; omega
    rcases this with rfl | rfl | rfl | rfl | rfl | rfl | rfl
    all_goals exact ⟨_, _, rfl, rd_block (by repeat (first | (refine heap_at ?_; simp; done) | (refine Eq.trans (Below.heap_alloc _ _ _ ?_) ?_; (· simp)))) _ rfl rfl⟩
  case round =>
    clear hb1
    generalize w1.heap.size + 1 + 1 + 1 + 1 + 1 + 1 + 1 + 1 + 1 + 1 + 1 + 1 + 1 + 1 + 1 + 1 = b10 at *
    generalize w1.heap.size + 1 + 1 + 1 + 1 + 1 + 1 + 1 + 1 + 1 + 1 + 1 + 1 + 1 + 1 + 1 = b9 at *
    generalize w1.heap.size + 1 + 1 + 1 + 1 + 1 + 1 + 1 + 1 + 1 + 1 + 1 + 1 + 1 + 1 = b8 at *
    obtain ⟨k, hk, rfl, HR, rA, rG, hbw⟩ := hrel
    have hsz := hbw.size
    by_cases hlt : k < 7
    · have dk : decide ((k : Int) < 7) = true := by simp; omega
      obtain ⟨q, d, nL, T, G, sn, SP, ⟨h8, c8⟩, ⟨h9, c9⟩, ⟨h10, c10⟩, hSP, hsn, K⟩ := f_round HR.out rA rG hlt
      have B2 := fun w2 (b2 : Below wr.heap.size wr w2) => bel_call hbw (Nat.le_refl _) b2
      have HRn := fun w2 (b2 : Below wr.heap.size wr w2) => HR.out.below b2
      have rAn := fun w2 (b2 : Below wr.heap.size wr w2) => rA.below b2
      have rGn := fun w2 (b2 : Below wr.heap.size wr w2) => rG.below b2
      have hki := hlt
      by_cases h5 : k < 5
      · have hs0 : sn = 0 := by rw [← hsn, ← hSP, (f_int k hlt).2.2 h5]; rfl
        subst hs0
        have d5 : ((k : Int) == 5) = false := by simp; omega
        have d6 : ((k : Int) == 6) = false := by simp; omega
        clear hSP hsn HR rA rG hbw
        go_wp2_with (go_at_call 13; (with_reducible (refine (K _ (Below.refl _ _)).mono ?_)); rintro e w2 ⟨⟨q2, d2, rfl, o2⟩, b2⟩
                     have a9 := (b2.cell (p := ⟨b9, k, none⟩) h9).trans c9
                     have a10 := (b2.cell (p := ⟨b10, k, none⟩) h10).trans c10
                     have z2 := b2.size
                     have y9 : b9 < w2.heap.size := by omega
                     have y10 : b10 < w2.heap.size := by omega)
        go_region
        go_wp2
        go_roundw
        case rel => exact ⟨k + 1, by omega, by go_num, HRn _ ((b2.alloc z2 _).drew), rAn _ ((b2.alloc z2 _).drew), rGn _ ((b2.alloc z2 _).drew), B2 _ ((b2.alloc z2 _).drew)⟩
        case measure => simp [intOf]; omega
      · by_cases h6 : k = 5
        · have ek : k = 5 := by omega
          obtain rfl : SP = [(0, 5), (1, 2)] := by rw [← hSP, ek]; rfl
          obtain rfl : sn = 2 := by rw [← hsn]; rfl
          have d5 : ((k : Int) == 5) = true := by simp; omega
          have d6 : ((k : Int) == 6) = false := by simp; omega
          clear hSP hsn HR rA rG hbw ek h6
          go_wp2_with (go_at_call 13; (with_reducible (refine (K _ (Below.refl _ _)).mono ?_)); rintro e w2 ⟨⟨q2, d2, rfl, o2⟩, b2⟩
                       have a9 := (b2.cell (p := ⟨b9, k, none⟩) h9).trans c9
                       have a10 := (b2.cell (p := ⟨b10, k, none⟩) h10).trans c10
                       have z2 := b2.size
                       have y9 : b9 < w2.heap.size := by omega
                       have y10 : b10 < w2.heap.size := by omega)
          obtain ⟨bb, ob, rfl, hbb, x0, x1⟩ := (own_rd o2).span 0 (by decide)
          simp only [Nat.zero_mul, Nat.add_zero, List.getElem_cons_zero] at x0 x1
          obtain ⟨bc, oc, ebc, hbc, x2, x3⟩ := (own_rd o2).span 1 (by decide)
          simp only [Option.some.injEq, Addr.mk.injEq] at ebc
          obtain ⟨rfl, rfl, _⟩ := ebc
          simp only [Nat.one_mul, List.getElem_cons_zero, List.getElem_cons_succ] at x2 x3
          clear o2
          go_region
          go_wp2
          go_roundw
          case rel => exact ⟨k + 1, by omega, by go_num, HRn _ ((b2.alloc z2 _).drew), rAn _ ((b2.alloc z2 _).drew), rGn _ ((b2.alloc z2 _).drew), B2 _ ((b2.alloc z2 _).drew)⟩
          case measure => simp [intOf]; omega
  
        · have ek : k = 6 := by omega
          obtain rfl : SP = [(0, 11)] := by rw [← hSP, ek]; rfl
          obtain rfl : sn = 1 := by rw [← hsn]; rfl
          have d5 : ((k : Int) == 5) = false := by simp; omega
          have d6 : ((k : Int) == 6) = true := by simp; omega
          clear hSP hsn HR rA rG hbw ek h6
          go_wp2_with (go_at_call 13; (with_reducible (refine (K _ (Below.refl _ _)).mono ?_)); rintro e w2 ⟨⟨q2, d2, rfl, o2⟩, b2⟩
                       have a9 := (b2.cell (p := ⟨b9, k, none⟩) h9).trans c9
                       have a10 := (b2.cell (p := ⟨b10, k, none⟩) h10).trans c10
                       have z2 := b2.size
                       have y9 : b9 < w2.heap.size := by omega
                       have y10 : b10 < w2.heap.size := by omega)
          obtain ⟨bb, ob, rfl, hbb, x0, x1⟩ := (own_rd o2).span 0 (by decide)
          simp only [Nat.zero_mul, Nat.add_zero, List.getElem_cons_zero] at x0 x1
          clear o2
          go_region
          go_wp2
          go_roundw
          case rel => exact ⟨k + 1, by omega, by go_num, HRn _ ((b2.alloc z2 _).drew), rAn _ ((b2.alloc z2 _).drew), rGn _ ((b2.alloc z2 _).drew), B2 _ ((b2.alloc z2 _).drew)⟩
          case measure => simp [intOf]; omega
  
    · have dk : decide ((k : Int) < 7) = false := by simp; omega
      clear hlt hk HR rA rG
      go_wp2
      go_ret
      exact ⟨rfl, hbw⟩
end Go.Proofs.Yteikdocpncdheaa
