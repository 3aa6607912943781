/-
  Texts of mine, joined: what lies beneath the statement.
-/
import Derived.Test.YtpgioggbepdjpaaGreatDoorJ67d383c2a1
import Derived.Test.YtpgioggbepdjpaaGreatDoorJd8dc23db77
import Derived.Test.YtpgioggbepdjpaaGreatDoorJcad69a3ef9
namespace Go.Proofs.YtpgioggbepdjpaaGreatDoor
open Go.RowKit
set_option linter.unusedVariables false
set_option linter.unusedSimpArgs false
theorem neg_mkRat (z : Int) (x : Nat) (hx : 0 < x) : z < 0 ↔ mkRat z x < 0 := by
 have h := cmpI_sign z x hx
 unfold cmpI cmpQ at h
 constructor
 ·intro g
  rw [if_pos g] at h
  by_cases k : mkRat z x < 0
  ·exact k
  ·rw [if_neg k] at h; split at h <;> omega
 ·intro g
  rw [if_pos g] at h
  by_cases k : z < 0
  ·exact k
  ·rw [if_neg k] at h; split at h <;> omega
set_option maxRecDepth 20000 in
set_option maxHeartbeats 2000000 in
theorem jabs_at (u : Value) (q : Rat) (L : Nat) (w : World) (hu : DocQ w u q L) (hL : L ≤ 900) :
  Calls Tryz.prog 17 #[u] w fun e w' => ∃ x,e = .returned x ∧ DocQ w' x (absQ q) L ∧ Below w.heap.size w w' := by
 obtain ⟨p,ao,n,c,bo,m,d,rfl⟩ := hu.open
 have hpq : p = decide (q < 0) := by
  obtain ⟨z,x,hP,rfl⟩ := id hu
  obtain ⟨hz,_,hx0,_,_⟩ := hP.parts
  obtain ⟨ao5,c5,e5,_⟩ := id hz
  simp only [Value.agg.injEq,Array.mk.injEq,List.cons.injEq,Value.bool.injEq,and_true] at e5
  rw [e5.1]; exact decide_eq_decide.2 (neg_mkRat z x hx0)
 by_cases hq : q < 0
 ·have HA : Hid (absQ q = -q) := by show _ = _; unfold absQ; rw [if_pos hq]
  rw [decide_eq_true hq] at hpq
  subst hpq
  clear hq
  rw [HA.out]
  have BB : Below w.heap.size w w := Below.refl _ _
  obtain ⟨Wb0,hW0,hS0,hL0,VA⟩ := V3.lay w 35 (.bool true) (.slice ao n c) (.slice bo m d)
  replace hu := hu.below hL0
  replace BB := BB.trans (hL0.mono BB.size)
  clear hL0
  obtain ⟨Wb1,hW1,hS1,hL1,VR⟩ := V3.lay Wb0 35 (.bool false) (.slice none 0 0) (.slice none 0 0)
  rw [hS0] at VR hS1
  replace hu := hu.below hL1
  replace VA := VA.below hL1
  replace BB := BB.trans (hL1.mono BB.size)
  clear hL1
  go_enter Tryz.func17,Tryz.ntmps17
  go_wp2_with fail
  rw [← hW0]
  rw [← hW1]
  clear hW0 hW1 hS0 hS1
  refine (jminus_at _ q L _ hu hL).mono ?_
  rintro e w1 ⟨r1,rfl,h1,b1⟩
  replace hu := hu.below b1
  replace VA := VA.below b1
  replace VR := VR.below b1
  replace BB := BB.trans (b1.mono BB.size)
  clear b1
  obtain ⟨p1,a1,n1,c1,b1,m1,d1,rfl⟩ := h1.open
  have hKp := VR.keepJ (.bool p1) (.slice a1 n1 c1) (.slice b1 m1 d1)
  have hu_n := hu.keep hKp
  have h1_n := h1.keep hKp
  have BB_n := below_store3 (R := w.heap.size + 1) BB (by omega) (.bool p1) (.slice a1 n1 c1) (.slice b1 m1 d1)
  clear hKp
  obtain ⟨q1,q2,q3,q4,q5,q6⟩ := id VR
  go_wp2
  (try simp only [Exit.inBlock,Exit.then])
  refine bodyPost_ret (v := .agg #[.bool p1,.slice a1 n1 c1,.slice b1 m1 d1]) (by simp [results,go_sem,q1,q2,q3]) rfl ?_
  exact ⟨_,rfl,h1_n,BB_n⟩
 ·have HA : Hid (absQ q = q) := by show _ = _; unfold absQ; rw [if_neg hq]
  rw [decide_eq_false hq] at hpq
  subst hpq
  clear hq
  rw [HA.out]
  have BB : Below w.heap.size w w := Below.refl _ _
  obtain ⟨Wb0,hW0,hS0,hL0,VA⟩ := V3.lay w 35 (.bool false) (.slice ao n c) (.slice bo m d)
  replace hu := hu.below hL0
  replace BB := BB.trans (hL0.mono BB.size)
  obtain ⟨Wb1,hW1,hS1,hL1,VR⟩ := V3.lay Wb0 35 (.bool false) (.slice ao n c) (.slice bo m d)
  rw [hS0] at VR
  replace hu := hu.below hL1
  replace BB := BB.trans (hL1.mono BB.size)
  obtain ⟨x1,x2,x3,x4,x5,x6⟩ := id VR
  rw [hW1,hW0] at x1 x2 x3 hu BB
  clear hL0 hL1 VA VR hW0 hW1 hS0 hS1 x4 x5 x6
  go_enter Tryz.func17,Tryz.ntmps17
  go_wp2
  (try simp only [Exit.inBlock,Exit.then])
  refine bodyPost_ret (v := .agg #[.bool false,.slice ao n c,.slice bo m d]) (by simp [results,go_sem,x1,x2,x3]) rfl ?_
  exact ⟨_,rfl,hu,BB⟩
end Go.Proofs.YtpgioggbepdjpaaGreatDoor
