/-
  A store of a part of a variable, as one step.
-/
import Derived.Test.YtcncpefdjgnhdaaStore
namespace Go.Proofs.Ytcncpefdjgnhdaa
open Go.ChangeShapes Go.WideShapes Go.ChangeAt Go.RowKit
attribute [local go_sem ↓] Go.wp_at_zero Go.wp_at_succ

section
variable {P : Program}
/-- a part of a variable -/
theorem wp_stP {op : Oper} {a : Act} {w : World} {K : Act → World → Prop} {Q : Exit → Act → World → Prop} (e' : TypeId) (x y : Operand) (ho : op.op = .store e' x y) (g o : Nat) (cs : Array Value) (e : TypeId) (hl : Lv w g cs e) (vs : List Value)
    (hi : (P.info? e').map (·.size) = some vs.length) (hs : o + vs.length ≤ cs.size) (h1 : ∀ v ∈ vs, v.oneCell' = true) (hx : a.eval x = .pointer (some ⟨g, o, none⟩)) (hy : a.eval y = .agg vs.toArray)
    (h : ∀ w', Lv w' g (putA cs o vs) e → Kp g w w' → K (a.put op.dst undef) w') : op.wp P a w K Q := by
  have hsz : vs.toArray.size = vs.length := by simp
  exact wp_store_mid e' x y ho g o vs.toArray hx hy (by rw [hsz]; exact there_of hl o _ hs) (by rw [hsz]; exact hi) (all_oneCell_toArray h1) (h _ (heap_setCells _ _ _ _ _ _ hl) (Kp.setCells _ _ _ _))
theorem wpList_stP {ops : Array Oper} {rest : List Oper} {op : Oper} {a : Act} {w : World} {Q : Exit → Act → World → Prop} (hgd : op.guard = none) (e' : TypeId) (x y : Operand) (ho : op.op = .store e' x y) (g o : Nat) (cs : Array Value) (e : TypeId) (hl : Lv w g cs e) (vs : List Value)
    (hi : (P.info? e').map (·.size) = some vs.length) (hs : o + vs.length ≤ cs.size) (h1 : ∀ v ∈ vs, v.oneCell' = true) (hx : a.eval x = .pointer (some ⟨g, o, none⟩)) (hy : a.eval y = .agg vs.toArray)
    (h : ∀ w', Lv w' g (putA cs o vs) e → Kp g w w' → wpList P ops Q rest (a.put op.dst undef) w') : wpList P ops Q (op :: rest) a w :=
  wpList_plain hgd fun _ hK => wp_stP e' x y ho g o cs e hl vs hi hs h1 hx hy fun w' h1 h2 => hK _ _ (h w' h1 h2)
theorem step_stP {ops : Array Oper} {o' : Oper} {a : Act} {w : World} {K : Act → World → Prop} {Q : Exit → Act → World → Prop} {G : Prop} (hgd : o'.guard = none) (e' : TypeId) (x y : Operand) (ho : o'.op = .store e' x y) (g o : Nat) (cs : Array Value) (e : TypeId) (hl : Lv w g cs e) (vs : List Value)
    (hi : (P.info? e').map (·.size) = some vs.length) (hs : o + vs.length ≤ cs.size) (h1 : ∀ v ∈ vs, v.oneCell' = true) (hx : a.eval x = .pointer (some ⟨g, o, none⟩)) (hy : a.eval y = .agg vs.toArray)
    (h : ∀ w', Lv w' g (putA cs o vs) e → Kp g w w' → K (a.put o'.dst undef) w') :
    if Region.wanted o' (yielded ops a.tmps) = true then Oper.wp P o' a w K Q else G := by
  have hw : Region.wanted o' (yielded ops a.tmps) = true := by simp [Region.wanted, hgd]
  rw [if_pos hw]
  exact wp_stP e' x y ho g o cs e hl vs hi hs h1 hx hy h
end
end Go.Proofs.Ytcncpefdjgnhdaa
