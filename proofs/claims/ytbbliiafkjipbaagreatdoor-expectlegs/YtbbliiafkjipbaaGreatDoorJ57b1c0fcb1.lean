/-
  Texts of mine.
-/
import Derived.Test.YtbbliiafkjipbaaGreatDoorJd2b74bd184
import Derived.Test.YtbbliiafkjipbaaGreatDoorJe343d2e1c4
namespace Go.Proofs.YtbbliiafkjipbaaGreatDoor
open Go.RowKit
set_option linter.unusedVariables false
set_option maxRecDepth 20000 in
set_option maxHeartbeats 1000000 in
theorem rgcd_any (u v : Value) (x y : Nat) (w : World) (hu : RepD w u x) (hv : RepD w v y) (hlx : nl 10000 x ≤ 400000) (hly : nl 10000 y ≤ 400000) :
  Calls Tryz.prog 90 #[u,v] w fun e w' => ∃ r,e = .returned r ∧ RepD w' r (Nat.gcd x y) ∧ Below w.heap.size w w' := by
 obtain ⟨G,hG⟩ : ∃ G,G = Nat.gcd x y := ⟨_,rfl⟩
 rw [← hG]
 have HG : Hid (Nat.gcd x y = G) := hG.symm
 clear hG
 go_enter Tryz.func90,Tryz.ntmps90
 go_wp2
 go_loopg [0,1] y (fun k va vb wr => ∃ X : Nat,RepD wr va X ∧ RepD wr vb k ∧ nl 10000 X ≤ 400000 ∧ nl 10000 k ≤ 400000 ∧ Hid (Nat.gcd X k = G) ∧ Below w.heap.size w wr)
 case atStart => exact ⟨x,hu,hv,hlx,hly,HG,Below.refl _ _⟩
 case round =>
  clear hu hv hlx hly HG
  obtain ⟨X,hX,hY,hN,hM,hg,hB⟩ := hrel
  obtain ⟨Y,hgk⟩ : ∃ Y,Y = gk := ⟨_,rfl⟩
  have HGK : Hid (Y = gk) := hgk
  rw [← hgk] at hY hM hg
  clear hgk
  have hY' := hY
  obtain ⟨bo,d,rfl,kl⟩ := hY'
  clear kl
  by_cases h0 : Y = 0
  ·subst h0
   have e1 : X = G := by rw [← hg.out,Nat.gcd_zero_right]
   subst e1
   rw [nl_zero]
   clear hg hY hM HGK
   go_wp2
   go_ret
   exact ⟨_,rfl,hX,hB⟩
  ·have k1 : 0 < nl 10000 Y := by
    have := mt (nl_eq_zero 10000 Y (by decide)).1 h0
    omega
   have hY0 : 0 < Y := by omega
   clear h0
   go_wp2_with fail
   refine (over_any _ _ X Y _ hX hY hY0 hN hM).mono ?_
   rintro e w4 ⟨q,r,rfl,hq,hr,hb4⟩
   have hY4 := hY.below hb4
   have hrl : X % Y < Y := Nat.mod_lt _ hY0
   have hgr : Hid (Nat.gcd Y (X % Y) = G) := by
    show _ = _
    rw [← hg.out,Nat.gcd_comm X Y,Nat.gcd_rec Y X,Nat.gcd_comm]
   have hnr : nl 10000 (X % Y) ≤ 400000 := Nat.le_trans (nl_le 10000 _ _ (by decide) (Nat.lt_trans hrl (lt_pow_nl 10000 Y (by decide)))) hM
   have B4 : Below w.heap.size w w4 := hB.trans (hb4.mono hB.size)
   clear hq hb4 hX hY hN hg hB
   generalize X % Y = R at *
   go_wp2
   go_roundg R
   case measure => have := HGK.out; omega
   case rel => exact ⟨Y,hY4,hr,hM,hnr,hgr,B4⟩
end Go.Proofs.YtbbliiafkjipbaaGreatDoor
