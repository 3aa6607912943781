/-
  Texts of mine, joined: what lies beneath the statement.
-/
import Derived.Test.YtpgioggbepdjpaaGreatDoorJ8da5584a49
import Derived.Test.YtpgioggbepdjpaaGreatDoorJ24fa170cf9
import Derived.Test.YtpgioggbepdjpaaGreatDoorJ64116478fd
import Derived.Deep.CutRange
namespace Go.Proofs.YtpgioggbepdjpaaGreatDoor
open Go.RowKit
set_option linter.unusedVariables false
set_option linter.unusedSimpArgs false
theorem int_mk (A C : Nat) : ((A : Int) : Rat) / ((C : Int) : Rat) = mkRat (A : Int) C := by rw [Rat.mkRat_eq_div,Rat.intCast_natCast C]
theorem sides_about (x : Rat) (m : Nat) (hm : 1 ≤ m) (A C D E : Nat) (h : aboutN (x - (x.floor : Rat)) m (m + 1) 0 1 1 1 = (A,C,D,E)) : Sides (x - (x.floor : Rat)) m A C D E ∧ A ≤ C ∧ D ≤ E := by
 obtain ⟨f1,f2⟩ := floor_two x
 have hs := about_sides (x - (x.floor : Rat)) m hm (m + 1) 0 1 1 1 (by omega) (by omega) (by omega) hm hm rfl (by rw [show mkRat ((0 : Nat) : Int) 1 = (0 : Rat) by decide +kernel]; grind) (by rw [show mkRat ((1 : Nat) : Int) 1 = (1 : Rat) by decide +kernel]; grind) A C D E h
 refine ⟨hs,?_⟩
 obtain ⟨s1,s2,s3,s4,s5,s6,s7,s8⟩ := hs
 have hAC : A < C := by
  have g : mkRat (A : Int) C < mkRat ((1 : Nat) : Int) 1 := by rw [show mkRat ((1 : Nat) : Int) 1 = (1 : Rat) by decide +kernel]; grind
  have := (mkRat_lt _ _ _ _ s3 (by omega)).1 g
  omega
 refine ⟨by omega,?_⟩
 obtain ⟨j,rfl⟩ : ∃ j,C = A + 1 + j := ⟨C - A - 1,by omega⟩
 rcases Nat.lt_or_ge E D with g | g
 ·have h1 : (E + 1) * (A + 1 + j) ≤ D * (A + 1 + j) := Nat.mul_le_mul_right _ g
  have h2 : (E + 1) * (A + 1 + j) = A * E + E + E * j + (A + 1 + j) := by grind
  omega
 ·exact g
theorem nearQ_best (x : Rat) (m : Nat) (hm : 1 ≤ m) (A C D E : Nat) (h : Sides (x - (x.floor : Rat)) m A C D E) : nearQ x A C D E = bestN x m := by
 rw [near_best hm h]; unfold nearQ; rw [int_mk,int_mk]
theorem nearQ_sz (x : Rat) (A C D E L : Nat) (hx : qsz x ≤ L) (h1 : A < 4294967296) (h2 : C < 4294967296) (h3 : D < 4294967296) (h4 : E < 4294967296) : qsz (nearQ x A C D E) ≤ L + 4 := by
 have hf : qsz ((x.floor : Int) : Rat) ≤ L + 1 := qsz_int _ (qsz_floor x hx) (by omega)
 have ha := qsz_frac (A : Int) (C : Int) (by omega) (by omega)
 have hd := qsz_frac (D : Int) (E : Int) (by omega) (by omega)
 unfold nearQ; split
 ·exact Nat.le_trans (qsz_add _ _ hf hd) (by omega)
 ·exact Nat.le_trans (qsz_add _ _ hf ha) (by omega)
theorem cmpQ_below (a b : Rat) : cmpQ a b < 0 ↔ a < b := by
 unfold cmpQ
 by_cases h1 : a < b
 ·rw [if_pos h1]; exact ⟨fun _ => h1,fun _ => by omega⟩
 ·rw [if_neg h1]
  by_cases h2 : b < a
  ·rw [if_pos h2]; exact ⟨fun h => by omega,fun h => absurd h h1⟩
  ·rw [if_neg h2]; exact ⟨fun h => by omega,fun h => absurd h h1⟩
def stepN (x b : Rat) (d : Nat) : Nat → Rat
 | 0 => b
 | k + 1 => nearer x (stepN x b d k) (cand x d k)
theorem step_two (x : Rat) (d : Nat) : stepN x (bestN x d) (d + 1) 2 = bestN x (d + 1) := rfl
set_option maxRecDepth 20000 in
set_option maxHeartbeats 1000000 in
theorem near_range (v : Value) (q : Rat) (L : Nat) (k : Int) (w : World) (hv : RatAt w v q L) (hk : k < 1 ∨ 4096 < k) :
  Calls Tryz.prog 8 #[v,.int .i64 k] w fun e w' => e = .returned (.tuple #[.agg #[.bool false,.slice none 0 0,.slice none 0 0],.int .i64 8]) ∧ Below w.heap.size w w' := by
 obtain ⟨p,ao,n,c,bo,m,d,rfl⟩ := hv.open
 rcases hk with hk | hk
 ·have BB : Below w.heap.size w w := Below.refl _ _
  obtain ⟨Wb0,hW0,hS0,hL0,VA⟩ := V3.lay w 27 (.bool p) (.slice ao n c) (.slice bo m d)
  replace BB := BB.trans (hL0.mono BB.size)
  obtain ⟨Wb1,hW1,hS1,hL1,VR⟩ := V3.lay Wb0 27 (.bool false) (.slice none 0 0) (.slice none 0 0)
  rw [hS0] at VR
  replace BB := BB.trans (hL1.mono BB.size)
  obtain ⟨x1,x2,x3,x4,x5,x6⟩ := id VR
  rw [hW1,hW0] at x1 x2 x3 BB
  clear hL0 hL1 VA VR hW0 hW1 hS0 hS1 x4 x5 x6
  go_enter Tryz.func8,Tryz.ntmps8
  go_wp2
  (try simp only [Exit.inBlock,Exit.then])
  refine bodyPost_ret (v := .tuple #[.agg #[.bool false,.slice none 0 0,.slice none 0 0],.int .i64 8]) (by simp [results,go_sem,x1,x2,x3]) rfl ?_
  exact ⟨rfl,BB⟩
 ·have hk2 : ¬ k < 1 := by omega
  have BB : Below w.heap.size w w := Below.refl _ _
  obtain ⟨Wb0,hW0,hS0,hL0,VA⟩ := V3.lay w 27 (.bool p) (.slice ao n c) (.slice bo m d)
  replace BB := BB.trans (hL0.mono BB.size)
  obtain ⟨Wb1,hW1,hS1,hL1,VR⟩ := V3.lay Wb0 27 (.bool false) (.slice none 0 0) (.slice none 0 0)
  rw [hS0] at VR
  replace BB := BB.trans (hL1.mono BB.size)
  obtain ⟨x1,x2,x3,x4,x5,x6⟩ := id VR
  rw [hW1,hW0] at x1 x2 x3 BB
  clear hL0 hL1 VA VR hW0 hW1 hS0 hS1 x4 x5 x6
  go_enter Tryz.func8,Tryz.ntmps8
  go_wp2
  (try simp only [Exit.inBlock,Exit.then])
  refine bodyPost_ret (v := .tuple #[.agg #[.bool false,.slice none 0 0,.slice none 0 0],.int .i64 8]) (by simp [results,go_sem,x1,x2,x3]) rfl ?_
  exact ⟨rfl,BB⟩
end Go.Proofs.YtpgioggbepdjpaaGreatDoor
