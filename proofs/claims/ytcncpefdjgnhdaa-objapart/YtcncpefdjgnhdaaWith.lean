/-
  What with of the document hands back.
-/
import Derived.Test.YtcncpefdjgnhdaaSmall2
namespace Go.Proofs.Ytcncpefdjgnhdaa
open Go.ChangeShapes Go.WideShapes Go.ChangeAt Go.RowKit
attribute [local go_sem ↓] Go.wp_at_zero Go.wp_at_succ

theorem own_from {α : Type} {E : Elt α} {w1 : World} {n m g c : Nat} {e : TypeId} {p : Option Addr} {l : List α} (hs : m = n + 4) (h : p = some ⟨n + 1 + 1 + 1, 0, none⟩ ∨ Own E w1 m e p c l) (hg : p = some ⟨g, 0, none⟩) : n + 3 ≤ g := by
  subst hg
  rcases h with h | h
  · cases h; omega
  · have := own_ge h; omega
set_option maxHeartbeats 2000000 in
theorem with_own (x : Tw) (xs : List Tc) (w : World) (hxs : Rd eT w x.tp x.tc xs) (hxl : xs.length = 12) (k : Nat) (hk : k < 12) (y : Tc) :
    Calls Try.prog 39 #[.agg #[.slice x.gp 12 x.gc, .slice x.ip 12 x.ic, .slice x.tp 12 x.tc], .int .i64 (k : Int), .agg #[.int .i64 y.k, .int .i64 y.a, .int .i64 y.g, .int .i64 y.c, .int .i64 y.h, .slice y.lp y.ln y.lc, .slice y.wp y.wn y.wc, .int .u32 (y.b : Int), .slice y.fp y.fn y.fc, .int .u32 (y.s : Int)]] w fun e w' => ∃ (p : Option Addr) (c : Nat), e = .returned (.agg #[.slice x.gp 12 x.gc, .slice x.ip 12 x.ic, .slice p 12 c]) ∧ Own eT w' w.heap.size 56 p c (xs.set k y) ∧ Below w.heap.size w w' := by
  obtain ⟨W, hW⟩ : ∃ W, W = (((w.alloc (.cells #[.slice x.gp 12 x.gc, .slice x.ip 12 x.ic, .slice x.tp 12 x.tc] 35)).alloc (.cells #[.int .i64 y.k, .int .i64 y.a, .int .i64 y.g, .int .i64 y.c, .int .i64 y.h, .slice y.lp y.ln y.lc, .slice y.wp y.wn y.wc, .int .u32 (y.b : Int), .slice y.fp y.fn y.fc, .int .u32 (y.s : Int)] 56)).alloc (.cells #[.slice none 0 0, .slice none 0 0, .slice none 0 0] 35)).alloc (.cells #[] 56) := ⟨_, rfl⟩
  have bW : Below w.heap.size w W := by rw [hW]; exact ((((Below.refl _ _).alloc (Nat.le_refl _) _).alloc (by simp) _).alloc (by simp; omega) _).alloc (by simp; omega) _
  have hsz : W.heap.size = w.heap.size + 4 := by rw [hW]; simp
  have hV : Vw W w.heap.size x 35 := by rw [hW]; exact (((Vw.new _ _ _).below (bel_self _ _)).below (bel_self _ _)).below (bel_self _ _)
  have hY : Vt W (w.heap.size + 1) y 56 := by rw [hW]; exact Lv.below (Lv.below (heap_at (by simp)) (bel_self _ _)) (bel_self _ _)
  have hR : Lv W (w.heap.size + 1 + 1) #[.slice none 0 0, .slice none 0 0, .slice none 0 0] 35 := by rw [hW]; exact Lv.below (heap_at (by simp)) (bel_self _ _)
  have hN : Lv W (w.heap.size + 1 + 1 + 1) #[] 56 := by rw [hW]; exact heap_at (by simp)
  have rX := hxs.below bW
  have hk0 : (0 : Int) ≤ (k : Int) := by omega
  have hkI : (k : Int) < 12 := by omega
  have HXL : Hid (xs.length = 12) := hxl
  clear hxl
  go_enter Try.func39, Try.ntmps39
  go_wp2_with (first
    | (at_builtin; rw [← hW]; refine wpList_fresh tD _ rfl _ _ rfl w.heap.size (w.heap.size + 1 + 1 + 1) hN (by omega) rfl _ _ xs 12 HXL.out rfl rX (by decide) ?_; intro p1 c1 w1 o1 b1 hor; have V1 := hV.below b1; have Y1 := hY.below b1; have R1 := hR.below b1; obtain ⟨c0, c1', c2⟩ := V1.at; obtain ⟨d0, d1, d2, d3, d4, d5, d6, d7, d8, d9⟩ := Y1.at; obtain ⟨g, hg⟩ : ∃ g, p1 = some ⟨g, 0, none⟩ := own_some o1 (by rw [HXL.out]; decide); have hgg : w.heap.size + 3 ≤ g := own_from hsz hor hg; clear hor; subst hg)
    | (refine wpList_stR (E := eT) rfl 56 (.tmp 15) (.tmp 14) rfl size56 w.heap.size g c1 xs o1 k (by rw [HXL.out]; exact hk) _ rfl y rfl rfl ?_; intro w2 o2 k2; have V2 := Lv.kp V1 k2 (by omega); have R2 := R1.kp k2 (by omega); clear c0 c1' c2; obtain ⟨c0, c1', c2⟩ := Vw.at V2)
    | (refine wpList_stV (E := eTb) rfl 35 (.tmp 6) (.tmp 19) rfl size35 (w.heap.size + 1 + 1) _ R2 rfl ⟨x.gp, x.gc, x.ip, x.ic, some ⟨g, 0, none⟩, c1⟩ rfl rfl ?_; intro w3 L3 k3))
  have e9 := load35 L3
  have s1 := b1.size
  have s2 := k2.size
  have bw1 : Below w.heap.size w w1 := bel_call bW (Nat.le_refl _) b1
  have bw2 : Below w.heap.size w w2 := bel_kp bw1 k2 (by omega) bw1.size
  have bw3 : Below w.heap.size w w3 := bel_kp bw2 k3 (by omega) bw2.size
  have o3 := own_block_eq (w' := w3) o2 (fun b o e => by cases e; exact k3.block g (own_lt o2) (by intro h; cases h; omega))
  refine bodyPost_ret (v := .agg #[.slice x.gp 12 x.gc, .slice x.ip 12 x.ic, .slice (some ⟨g, 0, none⟩) 12 c1]) (by simp [results, Try.results39, asAddr, Act.put, e9]) rfl ⟨_, _, rfl, o3, bw3⟩
theorem Tr.withed {w w' : World} {gp : Option Addr} {gc : Nat} {ip : Option Addr} {ic : Nat} {tp : Option Addr} {tc : Nat} {T : Tb} (h : Tr w ⟨gp, gc, ip, ic, tp, tc⟩ T) (hb : Below w.heap.size w w') {xs : List Tc} (hts : Ts w xs T.T) {k : Nat} {y : Tc} {t : Th} (ho : Ok w y t) {B : Nat} {e : TypeId} {p : Option Addr} {c : Nat} (hR : Own eT w' B e p c (xs.set k y)) : Tr w' ⟨gp, gc, ip, ic, p, c⟩ ⟨T.G, T.I, T.T.set k t⟩ :=
  ⟨h.G.below hb, h.I.below hb, ⟨_, own_rd hR, (hts.below hb).set k (ho.below hb)⟩, h.gl, h.il, by simp [h.tl]⟩
end Go.Proofs.Ytcncpefdjgnhdaa
