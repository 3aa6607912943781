/-
  Texts of mine, joined: what lies beneath the statement.
-/
import Derived.Test.YtmbmboiefhmfmaaGreatDoorJ7984dab6bb
import Derived.Lib.Bytealg
import Derived.Lib.IndexLaws
import Derived.Test.YtmbmboiefhmfmaaGreatDoorJb1573f1f59
import Derived.Deep.Cut
import Derived.Test.YtmbmboiefhmfmaaGreatDoorJ1a1701f700
import Derived.Test.YtmbmboiefhmfmaaGreatDoorJda698630e6
import Derived.Test.YtmbmboiefhmfmaaGreatDoorJe00d4c9c74
namespace Go.Proofs.YtmbmboiefhmfmaaGreatDoor
open Go.RowKit
set_option linter.unusedVariables false
set_option linter.unusedSimpArgs false
def firstAt (s : ByteArray) (c : Nat) : Int := Lib.indexByte s.data.toList c.toUInt8
theorem firstAt_one (c : Nat) (s : ByteArray) (h : [c.toUInt8] = s.toList) : firstAt s c = 0 := by
 rw [Lib.toList_data] at h; unfold firstAt; rw [← h]; simp [Lib.indexByte]
theorem firstAt_lt (s : ByteArray) (c i : Nat) (h : firstAt s c = (i : Int)) : i < s.size := by
 have h1 := (Lib.indexByte_some h).1
 have h2 := (List.getElem?_eq_some_iff.1 h1).1
 simpa using h2
theorem firstAt_cases (s : ByteArray) (c : Nat) : firstAt s c = -1 ∨ ∃ i : Nat,firstAt s c = (i : Int) := by
 have h := Lib.indexByte_ge s.data.toList c.toUInt8
 by_cases g : firstAt s c = -1
 ·exact .inl g
 ·exact .inr ⟨(firstAt s c).toNat,by unfold firstAt at *; omega⟩
set_option maxRecDepth 100000 in
set_option maxHeartbeats 1000000 in
theorem indexByte_at (s : ByteArray) (c : Nat) (w : World) : Calls Tryz.prog 161 #[.string s,.int .u8 (c : Int)] w fun e w' => e = .returned (.int .i64 (firstAt s c)) ∧ w' = w := by
 go_enter Tryz.func161,Tryz.ntmps161
 go_wp2
 rw [run_callFunc_extern Tryz.func166 (by kernel_rfl) (by kernel_rfl) (by kernel_rfl) (e := Extern.BytealgIndexByte.indexByte) (by kernel_rfl),Lib.run_indexByteString]
 simp only [Result.andThen]
 rw [Oper.upon_value]
 go_wp2
 go_ret
 exact ⟨rfl,rfl⟩
set_option maxRecDepth 100000 in
set_option maxHeartbeats 2000000 in
theorem index47_at (s : ByteArray) (w : World) : Calls Tryz.prog 150 #[.string s,.string { data := #[47] }] w fun e w' => e = .returned (.int .i64 (firstAt s 47)) ∧ w' = w := by
 by_cases hs : ([47] : List UInt8) = s.toList
 ·have h1 := firstAt_one 47 s hs
  have hb : (([47] : List UInt8) == s.toList) = true := by simp [← hs]
  rw [h1]
  clear h1 hs
  go_enter Tryz.func150,Tryz.ntmps150
  go_wp2
  go_ret
  exact ⟨rfl,rfl⟩
 ·have hb : (([47] : List UInt8) == s.toList) = false := by simpa using hs
  clear hs
  go_enter Tryz.func150,Tryz.ntmps150
  go_wp2_with fail
  refine (indexByte_at s 47 _).mono ?_
  rintro e w1 ⟨rfl,hw⟩
  subst hw
  go_wp2
  go_ret
  exact ⟨rfl,rfl⟩
set_option maxRecDepth 20000 in
set_option maxHeartbeats 1000000 in
theorem cut47_miss (s : ByteArray) (w : World) (h : firstAt s 47 = -1) : Calls Tryz.prog 107 #[.string s,.string { data := #[47] }] w fun e w' => e = .returned (.tuple #[.string s,.string { data := #[] },.bool false]) ∧ Below w.heap.size w w' := by
 have h1 : Calls Tryz.prog 132 #[.string s,.string { data := #[47] }] w fun e w' => e = .returned (.tuple #[.string s,.string { data := #[] },.bool false]) ∧ Below w.heap.size w w' := by
  go_enter Tryz.func132,Tryz.ntmps132
  go_wp2_with fail
  refine (index47_at s _).mono ?_
  rintro e w1 ⟨rfl,hw⟩
  replace hw := hw.symm
  subst hw
  rw [h]
  go_wp2
  go_ret3
  exact ⟨rfl,Below.refl _ _⟩
 go_enter Tryz.func107,Tryz.ntmps107
 go_wp2_with fail
 refine h1.mono ?_
 rintro e w2 ⟨rfl,hb⟩
 go_wp2
 go_ret3
 exact ⟨rfl,hb⟩
set_option maxRecDepth 20000 in
set_option maxHeartbeats 1000000 in
theorem cut47_hit (s : ByteArray) (i : Nat) (w : World) (h : firstAt s 47 = (i : Int)) (hl : s.size ≤ 1000000) : Calls Tryz.prog 107 #[.string s,.string { data := #[47] }] w fun e w' => e = .returned (.tuple #[.string (s.extract 0 i),.string (s.extract (i + 1) s.size),.bool true]) ∧ Below w.heap.size w w' := by
 have hi := firstAt_lt s 47 i h
 have h1 : Calls Tryz.prog 132 #[.string s,.string { data := #[47] }] w fun e w' => e = .returned (.tuple #[.string (s.extract 0 i),.string (s.extract (i + 1) s.size),.bool true]) ∧ Below w.heap.size w w' := by
  have c1 : (0 : Int) ≤ (i : Int) := by omega
  have c2 : (i : Int) ≤ (s.size : Int) := by omega
  have c3 : (0 : Int) ≤ (i : Int) + 1 := by omega
  have c4 : (i : Int) + 1 ≤ (s.size : Int) := by omega
  have c5 : IntKind.i64.wrap ((i : Int) + 1) = (i : Int) + 1 := by rw [IntKind.wrap_i64]; omega
  go_enter Tryz.func132,Tryz.ntmps132
  go_wp2_with fail
  refine (index47_at s _).mono ?_
  rintro e w1 ⟨rfl,hw⟩
  replace hw := hw.symm
  subst hw
  rw [h]
  go_wp2
  go_region
  go_wp2
  go_ret3
  exact ⟨rfl,(Below.refl _ _).drew⟩
 go_enter Tryz.func107,Tryz.ntmps107
 go_wp2_with fail
 refine h1.mono ?_
 rintro e w2 ⟨rfl,hb⟩
 go_wp2
 go_ret3
 exact ⟨rfl,hb⟩
set_option maxRecDepth 100000 in
set_option maxHeartbeats 2000000 in
theorem index46_at (s : ByteArray) (w : World) : Calls Tryz.prog 150 #[.string s,.string { data := #[46] }] w fun e w' => e = .returned (.int .i64 (firstAt s 46)) ∧ w' = w := by
 by_cases hs : ([46] : List UInt8) = s.toList
 ·have h1 := firstAt_one 46 s hs
  have hb : (([46] : List UInt8) == s.toList) = true := by simp [← hs]
  rw [h1]
  clear h1 hs
  go_enter Tryz.func150,Tryz.ntmps150
  go_wp2
  go_ret
  exact ⟨rfl,rfl⟩
 ·have hb : (([46] : List UInt8) == s.toList) = false := by simpa using hs
  clear hs
  go_enter Tryz.func150,Tryz.ntmps150
  go_wp2_with fail
  refine (indexByte_at s 46 _).mono ?_
  rintro e w1 ⟨rfl,hw⟩
  subst hw
  go_wp2
  go_ret
  exact ⟨rfl,rfl⟩
set_option maxRecDepth 20000 in
set_option maxHeartbeats 1000000 in
theorem cut46_miss (s : ByteArray) (w : World) (h : firstAt s 46 = -1) : Calls Tryz.prog 107 #[.string s,.string { data := #[46] }] w fun e w' => e = .returned (.tuple #[.string s,.string { data := #[] },.bool false]) ∧ Below w.heap.size w w' := by
 have h1 : Calls Tryz.prog 132 #[.string s,.string { data := #[46] }] w fun e w' => e = .returned (.tuple #[.string s,.string { data := #[] },.bool false]) ∧ Below w.heap.size w w' := by
  go_enter Tryz.func132,Tryz.ntmps132
  go_wp2_with fail
  refine (index46_at s _).mono ?_
  rintro e w1 ⟨rfl,hw⟩
  replace hw := hw.symm
  subst hw
  rw [h]
  go_wp2
  go_ret3
  exact ⟨rfl,Below.refl _ _⟩
 go_enter Tryz.func107,Tryz.ntmps107
 go_wp2_with fail
 refine h1.mono ?_
 rintro e w2 ⟨rfl,hb⟩
 go_wp2
 go_ret3
 exact ⟨rfl,hb⟩
set_option maxRecDepth 20000 in
set_option maxHeartbeats 1000000 in
theorem cut46_hit (s : ByteArray) (i : Nat) (w : World) (h : firstAt s 46 = (i : Int)) (hl : s.size ≤ 1000000) : Calls Tryz.prog 107 #[.string s,.string { data := #[46] }] w fun e w' => e = .returned (.tuple #[.string (s.extract 0 i),.string (s.extract (i + 1) s.size),.bool true]) ∧ Below w.heap.size w w' := by
 have hi := firstAt_lt s 46 i h
 have h1 : Calls Tryz.prog 132 #[.string s,.string { data := #[46] }] w fun e w' => e = .returned (.tuple #[.string (s.extract 0 i),.string (s.extract (i + 1) s.size),.bool true]) ∧ Below w.heap.size w w' := by
  have c1 : (0 : Int) ≤ (i : Int) := by omega
  have c2 : (i : Int) ≤ (s.size : Int) := by omega
  have c3 : (0 : Int) ≤ (i : Int) + 1 := by omega
  have c4 : (i : Int) + 1 ≤ (s.size : Int) := by omega
  have c5 : IntKind.i64.wrap ((i : Int) + 1) = (i : Int) + 1 := by rw [IntKind.wrap_i64]; omega
  go_enter Tryz.func132,Tryz.ntmps132
  go_wp2_with fail
  refine (index46_at s _).mono ?_
  rintro e w1 ⟨rfl,hw⟩
  replace hw := hw.symm
  subst hw
  rw [h]
  go_wp2
  go_region
  go_wp2
  go_ret3
  exact ⟨rfl,(Below.refl _ _).drew⟩
 go_enter Tryz.func107,Tryz.ntmps107
 go_wp2_with fail
 refine h1.mono ?_
 rintro e w2 ⟨rfl,hb⟩
 go_wp2
 go_ret3
 exact ⟨rfl,hb⟩
def errN (s : ByteArray) : Int := if digitsB s = true then 0 else 4
theorem nparse_at (s : ByteArray) (w : World) (hl : s.size ≤ 10000) :
  Calls Tryz.prog 109 #[.string s] w fun e w' => ∃ v,e = .returned (.tuple #[v,.int .i64 (errN s)]) ∧ Rep w' v (if digitsB s = true then dval s s.size else 0) ∧ Below w.heap.size w w' := by
 unfold errN
 by_cases hd : digitsB s = true
 ·rw [if_pos hd,if_pos hd]
  refine (parse_yes s w hl hd).mono ?_
  rintro e w1 ⟨v,rfl,hv,hb⟩
  exact ⟨v,rfl,hv.rep,hb⟩
 ·rw [if_neg hd,if_neg hd]
  refine (parse_form s w (by simpa using hd)).mono ?_
  rintro e w1 ⟨rfl,hb⟩
  exact ⟨_,rfl,zero_form _,hb⟩
def nval (s : ByteArray) : Nat := if digitsB s = true then dval s s.size else 0
theorem nval_nl (s : ByteArray) : nl W32 (nval s) ≤ s.size + 1 := by
 unfold nval
 split
 ·rename_i h
  simp only [digitsB,decide_eq_true_eq] at h
  exact Nat.le_trans (nl_mono W32 _ _ (by decide) (Nat.le_of_lt (dval_lt s s.size h.2))) (nl_ten s.size (s.size + 1) (by omega))
 ·rw [nl_zero]; omega
def twoErr (s t : ByteArray) : Int := if errN s = 0 then errN t else errN s
set_option maxRecDepth 20000 in
set_option maxHeartbeats 1000000 in
theorem parseTwo_at (s t : ByteArray) (w : World) (hs : s.size ≤ 10000) (ht : t.size ≤ 10000) :
  Calls Tryz.prog 108 #[.string s,.string t] w fun e w' => ∃ u v,e = .returned (.tuple #[u,v,.int .i64 (twoErr s t)]) ∧ (twoErr s t = 0 → Rep w' u (nval s) ∧ Rep w' v (nval t)) ∧ Below w.heap.size w w' := by
 have BB : Below w.heap.size w w := Below.refl _ _
 go_enter Tryz.func108,Tryz.ntmps108
 go_wp2_with fail
 refine (nparse_at s _ hs).mono ?_
 rintro e w1 ⟨v1,rfl,h1,b1⟩
 replace BB := BB.trans (b1.mono BB.size)
 clear b1
 by_cases hE : errN s = 0
 ·rw [hE]
  go_wp2_with fail
  refine (nparse_at t _ ht).mono ?_
  rintro e w2 ⟨v2,rfl,h2,b2⟩
  replace h1 := h1.below b2
  replace BB := BB.trans (b2.mono BB.size)
  clear b2
  have HT : Hid (twoErr s t = errN t) := by show _ = _; unfold twoErr; rw [if_pos hE]
  generalize errN t = E2 at *
  clear hE
  go_wp2
  go_ret3
  exact ⟨v1,v2,(by rw [HT.out]; rfl),fun _ => ⟨h1,h2⟩,BB⟩
 ·have HT : Hid (twoErr s t = 4) := by
   show _ = _
   unfold twoErr; rw [if_neg hE]; unfold errN at hE ⊢; split at hE <;> simp_all
  have h4 : errN s = 4 := by unfold errN at hE ⊢; split at hE <;> simp_all
  rw [h4]
  clear hE h4
  go_wp2
  go_ret3
  exact ⟨.slice none 0 0,.slice none 0 0,(by rw [HT.out]; rfl),fun h => (by rw [HT.out] at h; cases h),BB⟩
def ppOf (s : ByteArray) : Int × Nat × Nat :=
 if 0 ≤ firstAt s 47 then (twoErr (s.extract 0 (firstAt s 47).toNat) (s.extract ((firstAt s 47).toNat + 1) s.size),nval (s.extract 0 (firstAt s 47).toNat),nval (s.extract ((firstAt s 47).toNat + 1) s.size))
 else if 0 ≤ firstAt s 46 then (twoErr (s.extract 0 (firstAt s 46).toNat) (s.extract ((firstAt s 46).toNat + 1) s.size),nval (s.extract 0 (firstAt s 46).toNat) * 10 ^ (s.extract ((firstAt s 46).toNat + 1) s.size).size + nval (s.extract ((firstAt s 46).toNat + 1) s.size),10 ^ (s.extract ((firstAt s 46).toNat + 1) s.size).size)
 else (errN s,nval s,1)
theorem ext_le (s : ByteArray) (i j : Nat) : (s.extract i j).size ≤ s.size := by rw [ByteArray.size_extract]; omega
set_option maxRecDepth 20000 in
set_option maxHeartbeats 2000000 in
theorem parseParts_at (s : ByteArray) (w : World) (hs : s.size ≤ 9000) :
  Calls Tryz.prog 70 #[.string s] w fun e w' => ∃ u v,e = .returned (.tuple #[u,v,.int .i64 (ppOf s).1]) ∧ ((ppOf s).1 = 0 → Rep w' u (ppOf s).2.1 ∧ Rep w' v (ppOf s).2.2) ∧ Below w.heap.size w w' := by
 rcases firstAt_cases s 47 with h47 | ⟨i,h47⟩
 ·rcases firstAt_cases s 46 with h46 | ⟨j,h46⟩
  ·have HP : Hid (ppOf s = (errN s,nval s,1)) := by show _ = _; unfold ppOf; rw [h47,h46,if_neg (by omega),if_neg (by omega)]
   have BB : Below w.heap.size w w := Below.refl _ _
   go_enter Tryz.func70,Tryz.ntmps70
   go_wp2_with fail
   refine (cut47_miss s _ h47).mono ?_
   rintro e w1 ⟨rfl,b1⟩
   replace BB := BB.trans (b1.mono BB.size)
   clear b1
   go_wp2_with fail
   refine (cut46_miss s _ h46).mono ?_
   rintro e w2 ⟨rfl,b2⟩
   replace BB := BB.trans (b2.mono BB.size)
   clear b2
   go_wp2_with fail
   refine (nparse_at s _ (by omega)).mono ?_
   rintro e w3 ⟨v1,rfl,h1,b3⟩
   replace BB := BB.trans (b3.mono BB.size)
   clear b3
   generalize errN s = E at *
   go_wp2_with fail
   refine (nof_at 1 _ (by omega)).mono ?_
   rintro e w4 ⟨v2,rfl,h2,b4⟩
   replace h1 := h1.below b4
   replace BB := BB.trans (b4.mono BB.size)
   clear b4
   go_wp2
   go_ret3
   exact ⟨v1,v2,(by rw [HP.out]; rfl),fun _ => (by rw [HP.out]; exact ⟨h1,h2⟩),BB⟩
  ·have HP : Hid (ppOf s = (twoErr (s.extract 0 j) (s.extract (j + 1) s.size),nval (s.extract 0 j) * 10 ^ (s.extract (j + 1) s.size).size + nval (s.extract (j + 1) s.size),10 ^ (s.extract (j + 1) s.size).size)) := by show _ = _; unfold ppOf; rw [h47,h46,if_neg (by omega),if_pos (by omega),Int.toNat_natCast]
   have BB : Below w.heap.size w w := Below.refl _ _
   go_enter Tryz.func70,Tryz.ntmps70
   go_wp2_with fail
   have l1 := ext_le s 0 j
   have l2 := ext_le s (j + 1) s.size
   refine (cut47_miss s _ h47).mono ?_
   rintro e w1 ⟨rfl,b1⟩
   replace BB := BB.trans (b1.mono BB.size)
   clear b1
   go_wp2_with fail
   refine (cut46_hit s j _ h46 (by omega)).mono ?_
   rintro e w2 ⟨rfl,b2⟩
   replace BB := BB.trans (b2.mono BB.size)
   clear b2
   generalize s.extract 0 j = A at *
   generalize s.extract (j + 1) s.size = C at *
   go_wp2_with fail
   refine (parseTwo_at A C _ (by omega) (by omega)).mono ?_
   rintro e w3 ⟨v1,v2,rfl,h12,b3⟩
   replace BB := BB.trans (b3.mono BB.size)
   clear b3
   have n1 := nval_nl A
   have n2 := nval_nl C
   by_cases hE : twoErr A C = 0
   ·obtain ⟨h1,h2⟩ := h12 hE
    clear h12
    rw [hE]
    have HE : Hid (twoErr A C = 0) := hE
    clear hE
    go_wp2_with fail
    refine (powTen_at C.size _ (by omega)).mono ?_
    rintro e w4 ⟨v3,rfl,h3,b4⟩
    replace h1 := h1.below b4
    replace h2 := h2.below b4
    replace BB := BB.trans (b4.mono BB.size)
    clear b4
    have n3 := nl_ten C.size (C.size + 1) (by omega)
    go_wp2_with fail
    generalize 10 ^ C.size = T at *
    refine (nmul_at _ _ _ _ (A.size + 1) (C.size + 1) _ (h1.at _ n1) (h3.at _ n3) (by omega)).mono ?_
    rintro e w5 ⟨v4,rfl,h4,b5⟩
    replace h1 := h1.below b5
    replace h2 := h2.below b5
    replace h3 := h3.below b5
    replace BB := BB.trans (b5.mono BB.size)
    clear b5
    have n4 := nln_mul n1 n3
    go_wp2_with fail
    refine (nadd_at _ _ _ _ _ (C.size + 1) _ (h4.at _ n4) (h2.at _ n2) (by omega) (by omega)).mono ?_
    rintro e w6 ⟨v5,rfl,h5,b6⟩
    replace h1 := h1.below b6
    replace h2 := h2.below b6
    replace h3 := h3.below b6
    replace h4 := h4.below b6
    replace BB := BB.trans (b6.mono BB.size)
    clear b6
    go_wp2
    go_ret3
    exact ⟨v5,v3,(by rw [HP.out,HE.out]; rfl),fun _ => (by rw [HP.out]; exact ⟨h5,h3⟩),BB⟩
   ·have h4 : twoErr A C = 4 := by unfold twoErr errN at hE ⊢; repeat (split at hE <;> simp_all)
    have HE : Hid (twoErr A C = 4) := h4
    rw [h4]
    clear hE h12 h4
    go_wp2
    go_ret3
    exact ⟨.slice none 0 0,.slice none 0 0,(by rw [HP.out,HE.out]; rfl),fun h => (by rw [HP.out] at h; rw [show twoErr A C = 4 from HE.out] at h; cases h),BB⟩
 ·have HP : Hid (ppOf s = (twoErr (s.extract 0 i) (s.extract (i + 1) s.size),nval (s.extract 0 i),nval (s.extract (i + 1) s.size))) := by show _ = _; unfold ppOf; rw [h47,if_pos (by omega),Int.toNat_natCast]
  have BB : Below w.heap.size w w := Below.refl _ _
  go_enter Tryz.func70,Tryz.ntmps70
  go_wp2_with fail
  have l1 := ext_le s 0 i
  have l2 := ext_le s (i + 1) s.size
  refine (cut47_hit s i _ h47 (by omega)).mono ?_
  rintro e w1 ⟨rfl,b1⟩
  replace BB := BB.trans (b1.mono BB.size)
  clear b1
  generalize s.extract 0 i = A at *
  generalize s.extract (i + 1) s.size = C at *
  go_wp2_with fail
  refine (parseTwo_at A C _ (by omega) (by omega)).mono ?_
  rintro e w2 ⟨v1,v2,rfl,h12,b2⟩
  replace BB := BB.trans (b2.mono BB.size)
  clear b2
  generalize hE : twoErr A C = E at *
  clear hE
  go_wp2
  go_ret3
  exact ⟨v1,v2,(by rw [HP.out]; rfl),fun h => (by rw [HP.out] at h ⊢; exact h12 h),BB⟩
theorem pp_nl (s : ByteArray) (hs : s.size ≤ 9000) : nl W32 (ppOf s).2.1 ≤ 20000 ∧ nl W32 (ppOf s).2.2 ≤ 20000 := by
 have key : ∀ A C : ByteArray,A.size ≤ 9000 → C.size ≤ 9000 → nl W32 (nval A) ≤ 20000 ∧ nl W32 (nval C) ≤ 20000 ∧ nl W32 (nval A * 10 ^ C.size + nval C) ≤ 20000 ∧ nl W32 (10 ^ C.size) ≤ 20000 := fun A C h1 h2 => by
  have n1 := nval_nl A
  have n2 := nval_nl C
  have n3 := nl_ten C.size (C.size + 1) (by omega)
  have n4 := nln_mul n1 n3
  have n5 := nlz_add (x := ((nval A * 10 ^ C.size : Nat) : Int)) (y := ((nval C : Nat) : Int)) (c := A.size + 1 + (C.size + 1) + 1) (by rw [Int.natAbs_natCast]; exact n4) (by rw [Int.natAbs_natCast]; exact n2) (by omega) (by omega)
  rw [← Int.natCast_add,Int.natAbs_natCast] at n5
  exact ⟨by omega,by omega,by omega,by omega⟩
 unfold ppOf
 have e1 := ext_le s 0 (firstAt s 47).toNat
 have e2 := ext_le s ((firstAt s 47).toNat + 1) s.size
 have e3 := ext_le s 0 (firstAt s 46).toNat
 have e4 := ext_le s ((firstAt s 46).toNat + 1) s.size
 split
 ·have := key _ _ (Nat.le_trans e1 hs) (Nat.le_trans e2 hs); exact ⟨this.1,this.2.1⟩
 ·split
  ·have := key _ _ (Nat.le_trans e3 hs) (Nat.le_trans e4 hs); exact ⟨this.2.2.1,this.2.2.2⟩
  ·have := key _ _ hs hs; exact ⟨this.1,Nat.le_trans nlw_one (by omega)⟩
def qerr (s : ByteArray) : Int := if (ppOf (pdig s)).1 = 0 then (if (ppOf (pdig s)).2.2 = 0 then 2 else 0) else (ppOf (pdig s)).1
def qval (s : ByteArray) : Rat := mkRat (zof (pneg s) (ppOf (pdig s)).2.1) (ppOf (pdig s)).2.2
set_option maxRecDepth 20000 in
set_option maxHeartbeats 1000000 in
theorem qparse_yes (s : ByteArray) (w : World) (hs : s.size ≤ 9000) (ht : Tab w) (he : (ppOf (pdig s)).1 = 0) (hz : (ppOf (pdig s)).2.2 ≠ 0) :
  Calls Tryz.prog 38 #[.string s] w fun e w' => ∃ r,e = .returned (.tuple #[r,.int .i64 0]) ∧ RepQ w' r (qval s) ∧ Below w.heap.size w w' := by
 have HQ : Hid (qval s = mkRat (zof (pneg s) (ppOf (pdig s)).2.1) (ppOf (pdig s)).2.2) := rfl
 have BB : Below w.heap.size w w := Below.refl _ _
 obtain ⟨Wb0,hW0,hS0,hL0,VR⟩ := V3.lay w 27 (.bool false) (.slice none 0 0) (.slice none 0 0)
 replace ht := ht.below hL0
 replace BB := BB.trans (hL0.mono BB.size)
 clear hL0
 go_enter Tryz.func38,Tryz.ntmps38
 go_wp2_with fail
 rw [← hW0]
 clear hW0 hS0
 refine (cutPrefix_any s _).mono ?_
 rintro e wx ⟨rfl,hwx⟩
 replace hwx := hwx.symm
 subst hwx
 have hps := pdig_size s
 generalize pdig s = D at *
 generalize pneg s = N at *
 go_wp2_with fail
 refine (parseParts_at D _ (by omega)).mono ?_
 rintro e w1 ⟨v1,v2,rfl,h12,b1⟩
 replace ht := ht.below b1
 replace VR := VR.below b1
 replace BB := BB.trans (b1.mono BB.size)
 clear b1
 obtain ⟨h1,h2⟩ := h12 he
 clear h12
 rw [he]
 obtain ⟨n1,n2⟩ := pp_nl D (by omega)
 obtain ⟨a1,k1,c1,rfl⟩ := h1.open
 obtain ⟨a2,k2,c2,rfl⟩ := h2.open
 have HZ := show Hid _ from hz
 clear hz he
 generalize (ppOf D).2.1 = X at *
 generalize (ppOf D).2.2 = Y at *
 go_wp2_with fail
 have hY0 : (zof false Y : Int) ≠ 0 := by rw [zof_false]; exact fun e => HZ.out (by omega)
 refine (make_at _ _ _ _ 20000 20000 _ (IntAt.mk (p := N) (h1.at 20000 n1)) (IntAt.mk (p := false) (h2.at 20000 n2)) (by omega) (by omega) hY0 ht).mono ?_
 rintro e w2 ⟨rr,rfl,hr,b2⟩
 replace ht := ht.below b2
 replace h1 := h1.below b2
 replace h2 := h2.below b2
 replace VR := VR.below b2
 replace BB := BB.trans (b2.mono BB.size)
 clear b2
 rw [zof_false,Rat.intCast_natCast,← Rat.mkRat_eq_div,← HQ.out] at hr
 obtain ⟨pr,ar,nr,cr,br,mr,dr,rfl⟩ := hr.open
 have hKp := VR.keepJ (.bool pr) (.slice ar nr cr) (.slice br mr dr)
 have ht_n := ht.keep hKp
 have h1_n := h1.keep hKp
 have h2_n := h2.keep hKp
 have hr_n := hr.keep hKp
 have BB_n := below_store3 (R := w.heap.size) BB (by omega) (.bool pr) (.slice ar nr cr) (.slice br mr dr)
 clear hKp
 obtain ⟨q1,q2,q3,q4,q5,q6⟩ := id VR
 go_wp2
 (try simp only [Exit.inBlock,Exit.then])
 refine bodyPost_ret (v := .tuple #[.agg #[.bool pr,.slice ar nr cr,.slice br mr dr],.int .i64 0]) (by simp [results,go_sem,q1,q2,q3]) rfl ?_
 exact ⟨_,rfl,hr_n,BB_n⟩

set_option maxRecDepth 20000 in
set_option maxHeartbeats 1000000 in
theorem repeat_one (w : World) : Calls Tryz.prog 45 #[.string { data := #[48] },.int .i64 1] w fun e w' => e = .returned (.string { data := #[48] }) ∧ Below w.heap.size w w' := by
 go_enter Tryz.func45,Tryz.ntmps45
 go_wp2
 go_ret
 exact ⟨rfl,Below.refl _ _⟩
theorem mkRat_scale (z : Int) (x t : Nat) : mkRat (z * (t : Int)) x = mkRat z x * (t : Rat) := by
 rw [Rat.mkRat_eq_div,Rat.mkRat_eq_div,Rat.intCast_mul,Rat.intCast_natCast,Rat.div_def,Rat.div_def,Rat.mul_assoc,Rat.mul_assoc,Rat.mul_comm (t : Rat)]
theorem round_eighth (q : Rat) (h : q = (1 : Rat) / 8) : roundQ (q * ((100 : Nat) : Rat)) = 12 := by rw [h]; decide +kernel
theorem dec_bytes : (({ data := #[48] } ++ { data := #[49,50] } : ByteArray).extract 0 1 ++ { data := #[46] } ++ ({ data := #[48] } ++ { data := #[49,50] } : ByteArray).extract 1 3) = { data := #[48,46,49,50] } := by decide +kernel
theorem txt_12 : txt 12 = { data := #[49,50] } := by
 have e : ndec 12 = 2 := by unfold ndec; rw [nl_spec 10 _ 2 (by decide) (by decide)]; decide +kernel
 unfold txt; rw [e]; decide +kernel
set_option maxRecDepth 20000 in
set_option maxHeartbeats 2000000 in
theorem dec_eighth (v : Value) (q : Rat) (L : Nat) (w : World) (hv : RatAt w v q L) (hL : 1 ≤ L) (hM : L ≤ 9000) (h8 : q = (1 : Rat) / 8) :
  Calls Tryz.prog 9 #[v,.int .i64 2] w fun e w' => e = .returned (.tuple #[.string { data := #[48,46,49,50] },.int .i64 0]) ∧ Below w.heap.size w w' := by
 obtain ⟨p,ao,n,c,bo,m,d,rfl⟩ := hv.open
 obtain ⟨z,x,hz,hx,hq⟩ := hv.parts
 have HS : Hid (mkRat (z * ((100 : Nat) : Int)) x = q * ((100 : Nat) : Rat)) := by
  show _ = _
  rw [mkRat_scale,← hq]
 have HR : Hid (roundQ (q * ((100 : Nat) : Rat)) = 12) := round_eighth q h8
 clear hq hv h8
 have n3 : nl W32 100 ≤ 1 := nl_small7 100 (by omega)
 have BB : Below w.heap.size w w := Below.refl _ _
 obtain ⟨Wb0,hW0,hS0,hL0,VA⟩ := V3.lay w 27 (.bool p) (.slice ao n c) (.slice bo m d)
 replace hz := hz.below hL0
 replace hx := hx.below hL0
 replace BB := BB.trans (hL0.mono BB.size)
 clear hL0
 go_enter Tryz.func9,Tryz.ntmps9
 go_wp2
 rw [← hW0]
 clear hW0 hS0
 go_cut [6] from 16 (fun s6 wc => ∃ (RN : Nat) (pr : Bool) (ar : Option Addr) (nr cr : Nat),s6 = .pointer (some ⟨RN,0,none⟩) ∧ V2 wc RN (.bool pr) (.slice ar nr cr) ∧ RepI wc (.agg #[.bool pr,.slice ar nr cr]) 12 ∧ Below Wb0.heap.size Wb0 wc)
 case first =>
  clear BB
  have BB : Below Wb0.heap.size Wb0 Wb0 := Below.refl _ _
  have hDr : Below Wb0.heap.size Wb0 Wb0.drew := (Below.refl _ _).drew
  replace hz := hz.below hDr
  replace hx := hx.below hDr
  replace VA := VA.below hDr
  replace BB := BB.trans (hDr.mono BB.size)
  clear hDr
  refine wp_region_held_drew (S := (fun w' => w'.cell? ⟨w.heap.size,0,none⟩ = some (.bool p) ∧ w'.cell? ⟨w.heap.size,1,none⟩ = some (.slice ao n c) ∧ w'.cell? ⟨w.heap.size,2,none⟩ = some (.slice bo m d))) (by kernel_rfl) ?_ (fun hHeld => ?_)
  ·exact ⟨VA.1,VA.2.1,VA.2.2.1⟩
  generalize Wb0.drew = W1 at *
  refine xT 0 (v := ?_) (hy := Or.inl ⟨by rfl,?_⟩) (h := ?_)
  rotate_left
  ·(intro w hSw; (try dsimp only at hSw); go_simp; (try with_reducible rfl))
  (try simp only [Act.put,xL4,xL5,xL6])
  refine xT 1 (v := ?_) (hy := Or.inl ⟨by rfl,?_⟩) (h := ?_)
  rotate_left
  ·(intro w hSw; (try dsimp only at hSw); go_simp; (try with_reducible rfl))
  (try simp only [Act.put,xL4,xL5,xL6])
  refine xT 2 (v := ?_) (hy := Or.inl ⟨by rfl,?_⟩) (h := ?_)
  rotate_left
  ·(intro w hSw; (try dsimp only at hSw); go_simp; (try with_reducible rfl))
  (try simp only [Act.put,xL4,xL5,xL6])
  refine xT 5 (v := ?_) (hy := Or.inl ⟨by rfl,?_⟩) (h := ?_)
  rotate_left
  ·(intro w hSw; (try dsimp only at hSw); go_simp; (try with_reducible rfl))
  (try simp only [Act.put,xL4,xL5,xL6])
  refine xT 6 (v := ?_) (hy := Or.inl ⟨by rfl,?_⟩) (h := ?_)
  rotate_left
  ·(intro w hSw; (try dsimp only at hSw); go_simp; (try with_reducible rfl))
  (try simp only [Act.put,xL4,xL5,xL6])
  refine xR [3,9] (h := ?_)
  refine xC (h := fun K hK => ?_) (hs := ?_)
  ·
   go_simp
   refine (powTen_at 2 _ (by omega)).mono ?_
   rintro e w1 ⟨tp,rfl,hp,b1⟩
   replace hp : Rep _ tp 100 := hp
   go_wp2_with fail
   replace hz := hz.below b1
   replace hx := hx.below b1
   replace VA := VA.below b1
   replace BB := BB.trans (b1.mono BB.size)
   clear b1
   refine hK.out _ _ ?_ (fun hH1 => ?_)
   ·exact ⟨VA.1,VA.2.1,VA.2.2.1⟩
   clear hK K hHeld
   (try simp only [Act.put,xL4,xL5,xL6])
   refine xR [4,9] (h := ?_)
   refine xC (h := fun K hK => ?_) (hs := ?_)
   ·
    go_simp
    refine (times_at _ _ _ _ L 1 _ hz (hp.at _ n3) (by omega)).mono ?_
    rintro e w2 ⟨tt,rfl,htt,b2⟩
    obtain ⟨pt,at_,nt,ct,rfl⟩ := htt.open
    go_wp2_with fail
    replace hz := hz.below b2
    replace hx := hx.below b2
    replace hp := hp.below b2
    replace VA := VA.below b2
    replace BB := BB.trans (b2.mono BB.size)
    clear b2
    refine hK.out _ _ ?_ (fun hH2 => ?_)
    ·exact ⟨VA.1,VA.2.1,VA.2.2.1⟩
    clear hK K hH1
    (try simp only [Act.put,xL4,xL5,xL6])
    refine xT 7 (v := ?_) (hy := Or.inl ⟨by rfl,?_⟩) (h := ?_)
    rotate_left
    ·(intro w hSw; (try dsimp only at hSw); go_simp; (try with_reducible rfl))
    (try simp only [Act.put,xL4,xL5,xL6])
    refine xR [8,9] (h := ?_)
    refine xC (h := fun K hK => ?_) (hs := ?_)
    ·
     go_simp
     refine (qround_at _ (q * ((100 : Nat) : Rat)) (L + 1) _ (by rw [← HS.out]; exact RatAt.mk (htt.at _ (nlz_mul hz.nl (by rw [Int.natAbs_natCast]; exact n3) (Nat.le_refl _))) (hx.le (by omega))) (by omega) (by omega)).mono ?_
     rintro e w3 ⟨rr,rfl,hr,b3⟩
     rw [HR.out] at hr
     obtain ⟨pr,ar,nr,cr,rfl⟩ := hr.open
     go_wp2_with fail
     replace hz := hz.below b3
     replace hx := hx.below b3
     replace hp := hp.below b3
     replace htt := htt.below b3
     replace VA := VA.below b3
     replace BB := BB.trans (b3.mono BB.size)
     clear b3
     refine hK.out _ _ ?_ (fun hH3 => ?_)
     ·exact ⟨VA.1,VA.2.1,VA.2.2.1⟩
     clear hK K hH2
     (try simp only [Act.put,xL4,xL5,xL6])
     refine xR [9] (h := ?_)
     refine xN (h := fun K hK => ?_)
     go_simp
     have hZ2 : Wb0.heap.size ≤ w3.heap.size := BB.size
     have hN2VA : w.heap.size ≠ w3.heap.size := Nat.ne_of_lt VA.lt
     obtain ⟨W2,hW2,hS2,hL2,VN⟩ := V2.lay w3 25 (.bool false) (.slice none 0 0)
     replace hz := hz.below hL2
     replace hx := hx.below hL2
     replace hp := hp.below hL2
     replace htt := htt.below hL2
     replace hr := hr.below hL2
     replace VA := VA.below hL2
     replace BB := BB.trans (hL2.mono BB.size)
     clear hL2
     rw [← hW2]
     generalize w3.heap.size = R2 at *
     clear hW2 hS2
     refine hK.out _ _ ?_ (fun hH4 => ?_)
     ·exact ⟨VA.1,VA.2.1,VA.2.2.1⟩
     clear hK K hH3
     (try simp only [Act.put,xL4,xL5,xL6])
     refine xR [10] (h := ?_)
     refine xN (h := fun K hK => ?_)
     have hKp := VN.keepJ (.bool pr) (.slice ar nr cr)
     have VA_n := VA.other2 (R := R2) (by omega) (.bool pr) (.slice ar nr cr)
     have VN_n := VN.same (.bool pr) (.slice ar nr cr)
     have hz_n := hz.keep hKp
     have hx_n := hx.keep hKp
     have hp_n := hp.keep hKp
     have htt_n := htt.keep hKp
     have hr_n := hr.keep hKp
     have BB_n := below_store2 (R := R2) BB (by omega) (.bool pr) (.slice ar nr cr)
     clear hKp
     obtain ⟨VN_0,VN_1,VN_2,VN_3⟩ := id VN
     go_simp
     clear VN_0 VN_1 VN_2 VN_3
     clear BB hz hx hp htt hr VA VN
     generalize (W2.setCell ⟨R2,0,none⟩ (.bool pr)).setCell ⟨R2,1,none⟩ (.slice ar nr cr) = W3 at *
     have BB := BB_n
     have hz := hz_n
     have hx := hx_n
     have hp := hp_n
     have htt := htt_n
     have hr := hr_n
     have VA := VA_n
     have VN := VN_n
     clear BB_n hz_n hx_n hp_n htt_n hr_n VA_n VN_n
     refine hK.out _ _ ?_ (fun hH5 => ?_)
     ·exact ⟨VA.1,VA.2.1,VA.2.2.1⟩
     clear hK K hH4
     (try simp only [Act.put,xL4,xL5,xL6])
     refine wpAnyH_done (by kernel_rfl) ?_ _
     clear hH5
     go_wp2_with fail
     go_meet
     exact ⟨R2,pr,ar,nr,cr,rfl,VN,hr,BB⟩
    refine xC (h := fun K hK => ?_) (hs := ?_)
    ·
     go_simp
     have hZ4 : Wb0.heap.size ≤ w2.heap.size := BB.size
     have hN4VA : w.heap.size ≠ w2.heap.size := Nat.ne_of_lt VA.lt
     obtain ⟨W4,hW4,hS4,hL4,VN⟩ := V2.lay w2 25 (.bool false) (.slice none 0 0)
     replace hz := hz.below hL4
     replace hx := hx.below hL4
     replace hp := hp.below hL4
     replace htt := htt.below hL4
     replace VA := VA.below hL4
     replace BB := BB.trans (hL4.mono BB.size)
     clear hL4
     rw [← hW4]
     generalize w2.heap.size = R4 at *
     clear hW4 hS4
     refine hK.out _ _ ?_ (fun hH3 => ?_)
     ·exact ⟨VA.1,VA.2.1,VA.2.2.1⟩
     clear hK K hH2
     (try simp only [Act.put,xL4,xL5,xL6])
     refine xR [8] (h := ?_)
     refine xN (h := fun K hK => ?_)
     go_simp
     refine (qround_at _ (q * ((100 : Nat) : Rat)) (L + 1) _ (by rw [← HS.out]; exact RatAt.mk (htt.at _ (nlz_mul hz.nl (by rw [Int.natAbs_natCast]; exact n3) (Nat.le_refl _))) (hx.le (by omega))) (by omega) (by omega)).mono ?_
     rintro e w4 ⟨rr,rfl,hr,b4⟩
     rw [HR.out] at hr
     obtain ⟨pr,ar,nr,cr,rfl⟩ := hr.open
     go_wp2_with fail
     replace hz := hz.below b4
     replace hx := hx.below b4
     replace hp := hp.below b4
     replace htt := htt.below b4
     replace VA := VA.below b4
     replace VN := VN.below b4
     replace BB := BB.trans (b4.mono BB.size)
     clear b4
     refine hK.out _ _ ?_ (fun hH4 => ?_)
     ·exact ⟨VA.1,VA.2.1,VA.2.2.1⟩
     clear hK K hH3
     (try simp only [Act.put,xL4,xL5,xL6])
     refine xR [10] (h := ?_)
     refine xN (h := fun K hK => ?_)
     have hKp := VN.keepJ (.bool pr) (.slice ar nr cr)
     have VA_n := VA.other2 (R := R4) (by omega) (.bool pr) (.slice ar nr cr)
     have VN_n := VN.same (.bool pr) (.slice ar nr cr)
     have hz_n := hz.keep hKp
     have hx_n := hx.keep hKp
     have hp_n := hp.keep hKp
     have htt_n := htt.keep hKp
     have hr_n := hr.keep hKp
     have BB_n := below_store2 (R := R4) BB (by omega) (.bool pr) (.slice ar nr cr)
     clear hKp
     obtain ⟨VN_0,VN_1,VN_2,VN_3⟩ := id VN
     go_simp
     clear VN_0 VN_1 VN_2 VN_3
     clear BB hz hx hp htt hr VA VN
     generalize (w4.setCell ⟨R4,0,none⟩ (.bool pr)).setCell ⟨R4,1,none⟩ (.slice ar nr cr) = W5 at *
     have BB := BB_n
     have hz := hz_n
     have hx := hx_n
     have hp := hp_n
     have htt := htt_n
     have hr := hr_n
     have VA := VA_n
     have VN := VN_n
     clear BB_n hz_n hx_n hp_n htt_n hr_n VA_n VN_n
     refine hK.out _ _ ?_ (fun hH5 => ?_)
     ·exact ⟨VA.1,VA.2.1,VA.2.2.1⟩
     clear hK K hH4
     (try simp only [Act.put,xL4,xL5,xL6])
     refine wpAnyH_done (by kernel_rfl) ?_ _
     clear hH5
     go_wp2_with fail
     go_meet
     exact ⟨R4,pr,ar,nr,cr,rfl,VN,hr,BB⟩
    exact AllReadyH.nil
   refine xC (h := fun K hK => ?_) (hs := ?_)
   ·
    go_simp
    have hZ6 : Wb0.heap.size ≤ w1.heap.size := BB.size
    have hN6VA : w.heap.size ≠ w1.heap.size := Nat.ne_of_lt VA.lt
    obtain ⟨W6,hW6,hS6,hL6,VN⟩ := V2.lay w1 25 (.bool false) (.slice none 0 0)
    replace hz := hz.below hL6
    replace hx := hx.below hL6
    replace hp := hp.below hL6
    replace VA := VA.below hL6
    replace BB := BB.trans (hL6.mono BB.size)
    clear hL6
    rw [← hW6]
    generalize w1.heap.size = R6 at *
    clear hW6 hS6
    refine hK.out _ _ ?_ (fun hH2 => ?_)
    ·exact ⟨VA.1,VA.2.1,VA.2.2.1⟩
    clear hK K hH1
    (try simp only [Act.put,xL4,xL5,xL6])
    refine xR [4] (h := ?_)
    refine xN (h := fun K hK => ?_)
    go_simp
    refine (times_at _ _ _ _ L 1 _ hz (hp.at _ n3) (by omega)).mono ?_
    rintro e w5 ⟨tt,rfl,htt,b5⟩
    obtain ⟨pt,at_,nt,ct,rfl⟩ := htt.open
    go_wp2_with fail
    replace hz := hz.below b5
    replace hx := hx.below b5
    replace hp := hp.below b5
    replace VA := VA.below b5
    replace VN := VN.below b5
    replace BB := BB.trans (b5.mono BB.size)
    clear b5
    refine hK.out _ _ ?_ (fun hH3 => ?_)
    ·exact ⟨VA.1,VA.2.1,VA.2.2.1⟩
    clear hK K hH2
    (try simp only [Act.put,xL4,xL5,xL6])
    refine xT 7 (v := ?_) (hy := Or.inl ⟨by rfl,?_⟩) (h := ?_)
    rotate_left
    ·(intro w hSw; (try dsimp only at hSw); go_simp; (try with_reducible rfl))
    (try simp only [Act.put,xL4,xL5,xL6])
    refine xR [8] (h := ?_)
    refine xN (h := fun K hK => ?_)
    go_simp
    refine (qround_at _ (q * ((100 : Nat) : Rat)) (L + 1) _ (by rw [← HS.out]; exact RatAt.mk (htt.at _ (nlz_mul hz.nl (by rw [Int.natAbs_natCast]; exact n3) (Nat.le_refl _))) (hx.le (by omega))) (by omega) (by omega)).mono ?_
    rintro e w6 ⟨rr,rfl,hr,b6⟩
    rw [HR.out] at hr
    obtain ⟨pr,ar,nr,cr,rfl⟩ := hr.open
    go_wp2_with fail
    replace hz := hz.below b6
    replace hx := hx.below b6
    replace hp := hp.below b6
    replace htt := htt.below b6
    replace VA := VA.below b6
    replace VN := VN.below b6
    replace BB := BB.trans (b6.mono BB.size)
    clear b6
    refine hK.out _ _ ?_ (fun hH4 => ?_)
    ·exact ⟨VA.1,VA.2.1,VA.2.2.1⟩
    clear hK K hH3
    (try simp only [Act.put,xL4,xL5,xL6])
    refine xR [10] (h := ?_)
    refine xN (h := fun K hK => ?_)
    have hKp := VN.keepJ (.bool pr) (.slice ar nr cr)
    have VA_n := VA.other2 (R := R6) (by omega) (.bool pr) (.slice ar nr cr)
    have VN_n := VN.same (.bool pr) (.slice ar nr cr)
    have hz_n := hz.keep hKp
    have hx_n := hx.keep hKp
    have hp_n := hp.keep hKp
    have htt_n := htt.keep hKp
    have hr_n := hr.keep hKp
    have BB_n := below_store2 (R := R6) BB (by omega) (.bool pr) (.slice ar nr cr)
    clear hKp
    obtain ⟨VN_0,VN_1,VN_2,VN_3⟩ := id VN
    go_simp
    clear VN_0 VN_1 VN_2 VN_3
    clear BB hz hx hp htt hr VA VN
    generalize (w6.setCell ⟨R6,0,none⟩ (.bool pr)).setCell ⟨R6,1,none⟩ (.slice ar nr cr) = W7 at *
    have BB := BB_n
    have hz := hz_n
    have hx := hx_n
    have hp := hp_n
    have htt := htt_n
    have hr := hr_n
    have VA := VA_n
    have VN := VN_n
    clear BB_n hz_n hx_n hp_n htt_n hr_n VA_n VN_n
    refine hK.out _ _ ?_ (fun hH5 => ?_)
    ·exact ⟨VA.1,VA.2.1,VA.2.2.1⟩
    clear hK K hH4
    (try simp only [Act.put,xL4,xL5,xL6])
    refine wpAnyH_done (by kernel_rfl) ?_ _
    clear hH5
    go_wp2_with fail
    go_meet
    exact ⟨R6,pr,ar,nr,cr,rfl,VN,hr,BB⟩
   exact AllReadyH.nil
  refine xC (h := fun K hK => ?_) (hs := ?_)
  ·
   go_simp
   have hZ8 : Wb0.heap.size ≤ W1.heap.size := BB.size
   have hN8VA : w.heap.size ≠ W1.heap.size := Nat.ne_of_lt VA.lt
   obtain ⟨W8,hW8,hS8,hL8,VN⟩ := V2.lay W1 25 (.bool false) (.slice none 0 0)
   replace hz := hz.below hL8
   replace hx := hx.below hL8
   replace VA := VA.below hL8
   replace BB := BB.trans (hL8.mono BB.size)
   clear hL8
   rw [← hW8]
   generalize W1.heap.size = R8 at *
   clear hW8 hS8
   refine hK.out _ _ ?_ (fun hH1 => ?_)
   ·exact ⟨VA.1,VA.2.1,VA.2.2.1⟩
   clear hK K hHeld
   (try simp only [Act.put,xL4,xL5,xL6])
   refine xR [3] (h := ?_)
   refine xN (h := fun K hK => ?_)
   go_simp
   refine (powTen_at 2 _ (by omega)).mono ?_
   rintro e w7 ⟨tp,rfl,hp,b7⟩
   replace hp : Rep _ tp 100 := hp
   go_wp2_with fail
   replace hz := hz.below b7
   replace hx := hx.below b7
   replace VA := VA.below b7
   replace VN := VN.below b7
   replace BB := BB.trans (b7.mono BB.size)
   clear b7
   refine hK.out _ _ ?_ (fun hH2 => ?_)
   ·exact ⟨VA.1,VA.2.1,VA.2.2.1⟩
   clear hK K hH1
   (try simp only [Act.put,xL4,xL5,xL6])
   refine xR [4] (h := ?_)
   refine xN (h := fun K hK => ?_)
   go_simp
   refine (times_at _ _ _ _ L 1 _ hz (hp.at _ n3) (by omega)).mono ?_
   rintro e w8 ⟨tt,rfl,htt,b8⟩
   obtain ⟨pt,at_,nt,ct,rfl⟩ := htt.open
   go_wp2_with fail
   replace hz := hz.below b8
   replace hx := hx.below b8
   replace hp := hp.below b8
   replace VA := VA.below b8
   replace VN := VN.below b8
   replace BB := BB.trans (b8.mono BB.size)
   clear b8
   refine hK.out _ _ ?_ (fun hH3 => ?_)
   ·exact ⟨VA.1,VA.2.1,VA.2.2.1⟩
   clear hK K hH2
   (try simp only [Act.put,xL4,xL5,xL6])
   refine xT 7 (v := ?_) (hy := Or.inl ⟨by rfl,?_⟩) (h := ?_)
   rotate_left
   ·(intro w hSw; (try dsimp only at hSw); go_simp; (try with_reducible rfl))
   (try simp only [Act.put,xL4,xL5,xL6])
   refine xR [8] (h := ?_)
   refine xN (h := fun K hK => ?_)
   go_simp
   refine (qround_at _ (q * ((100 : Nat) : Rat)) (L + 1) _ (by rw [← HS.out]; exact RatAt.mk (htt.at _ (nlz_mul hz.nl (by rw [Int.natAbs_natCast]; exact n3) (Nat.le_refl _))) (hx.le (by omega))) (by omega) (by omega)).mono ?_
   rintro e w9 ⟨rr,rfl,hr,b9⟩
   rw [HR.out] at hr
   obtain ⟨pr,ar,nr,cr,rfl⟩ := hr.open
   go_wp2_with fail
   replace hz := hz.below b9
   replace hx := hx.below b9
   replace hp := hp.below b9
   replace htt := htt.below b9
   replace VA := VA.below b9
   replace VN := VN.below b9
   replace BB := BB.trans (b9.mono BB.size)
   clear b9
   refine hK.out _ _ ?_ (fun hH4 => ?_)
   ·exact ⟨VA.1,VA.2.1,VA.2.2.1⟩
   clear hK K hH3
   (try simp only [Act.put,xL4,xL5,xL6])
   refine xR [10] (h := ?_)
   refine xN (h := fun K hK => ?_)
   have hKp := VN.keepJ (.bool pr) (.slice ar nr cr)
   have VA_n := VA.other2 (R := R8) (by omega) (.bool pr) (.slice ar nr cr)
   have VN_n := VN.same (.bool pr) (.slice ar nr cr)
   have hz_n := hz.keep hKp
   have hx_n := hx.keep hKp
   have hp_n := hp.keep hKp
   have htt_n := htt.keep hKp
   have hr_n := hr.keep hKp
   have BB_n := below_store2 (R := R8) BB (by omega) (.bool pr) (.slice ar nr cr)
   clear hKp
   obtain ⟨VN_0,VN_1,VN_2,VN_3⟩ := id VN
   go_simp
   clear VN_0 VN_1 VN_2 VN_3
   clear BB hz hx hp htt hr VA VN
   generalize (w9.setCell ⟨R8,0,none⟩ (.bool pr)).setCell ⟨R8,1,none⟩ (.slice ar nr cr) = W9 at *
   have BB := BB_n
   have hz := hz_n
   have hx := hx_n
   have hp := hp_n
   have htt := htt_n
   have hr := hr_n
   have VA := VA_n
   have VN := VN_n
   clear BB_n hz_n hx_n hp_n htt_n hr_n VA_n VN_n
   refine hK.out _ _ ?_ (fun hH5 => ?_)
   ·exact ⟨VA.1,VA.2.1,VA.2.2.1⟩
   clear hK K hH4
   (try simp only [Act.put,xL4,xL5,xL6])
   refine wpAnyH_done (by kernel_rfl) ?_ _
   clear hH5
   go_wp2_with fail
   go_meet
   exact ⟨R8,pr,ar,nr,cr,rfl,VN,hr,BB⟩
  exact AllReadyH.nil
 case rest =>
  obtain ⟨RN,pr,ar,nr,cr,rfl,VN,hr,hbW⟩ := hcut
  replace hz := hz.below hbW
  replace hx := hx.below hbW
  replace VA := VA.below hbW
  replace BB := BB.trans (hbW.mono BB.size)
  clear hbW
  obtain rfl : pr = false := by
   obtain ⟨ao5,c5,e5,_⟩ := id hr
   simp only [Value.agg.injEq,Array.mk.injEq,List.cons.injEq,Value.bool.injEq] at e5
   exact e5.1
  obtain ⟨VN_0,VN_1,VN_2,VN_3⟩ := id VN
  go_wp2_with fail
  clear VN_0 VN_1 VN_2 VN_3
  refine (nprint_at _ _ _ _ (hr.abs.at 1 (nl_small7 _ (by decide))) (by omega)).mono ?_
  rintro e w1 ⟨rfl,b1⟩
  replace hz := hz.below b1
  replace hx := hx.below b1
  replace hr := hr.below b1
  replace VA := VA.below b1
  replace VN := VN.below b1
  replace BB := BB.trans (b1.mono BB.size)
  clear b1
  rw [show txt (12 : Int).natAbs = { data := #[49,50] } from txt_12]
  go_wp2_with fail
  refine (repeat_one _).mono ?_
  rintro e w2 ⟨rfl,b2⟩
  replace hz := hz.below b2
  replace hx := hx.below b2
  replace hr := hr.below b2
  replace VA := VA.below b2
  replace VN := VN.below b2
  replace BB := BB.trans (b2.mono BB.size)
  clear b2
  obtain ⟨x1,x2,x3,x4⟩ := id VN
  go_wp2
  go_region
  go_wp2
  go_ret2
  refine ⟨?_,BB.drew⟩
  show Ending.returned (.tuple #[.string (({ data := #[48] } ++ { data := #[49,50] } : ByteArray).extract 0 1 ++ { data := #[46] } ++ ({ data := #[48] } ++ { data := #[49,50] } : ByteArray).extract 1 3),.int .i64 0]) = _
  rw [dec_bytes]

theorem lt_ndec (x : Nat) : x < 10 ^ ndec x := by
 unfold ndec
 have h := lt_pow_nl 10 x (by decide)
 split
 ·rename_i h0
  rw [h0] at h
  omega
 ·exact h
theorem ndec_pos (x : Nat) : 0 < ndec x := by
 unfold ndec
 split
 ·omega
 ·omega
theorem txt_byte (x i : Nat) (h : i < ndec x) : ((txt x).data.toList.getD i 0).toNat = 48 + x / 10 ^ (ndec x - 1 - i) % 10 := by
 unfold txt
 rw [strOfNums_data]
 have e : ((decs x (ndec x)).map fun n => UInt8.ofNat n.toNat)[i]? = some (UInt8.ofNat (dd x (ndec x - 1 - i)).toNat) := by
  simp [decs,h]
 rw [List.getD,e]
 have hd : (dd x (ndec x - 1 - i)).toNat = 48 + x / 10 ^ (ndec x - 1 - i) % 10 := by unfold dd; omega
 simp only [Option.getD_some]
 rw [hd,UInt8.toNat_ofNat_of_lt']
 show _ < 256
 omega
theorem txt_digits (x : Nat) : digitsB (txt x) = true := by
 have hs := txt_size x
 simp only [digitsB,decide_eq_true_eq]
 refine ⟨by rw [hs]; exact ndec_pos x,fun i hi => ?_⟩
 rw [hs] at hi
 unfold isDig
 rw [txt_byte x i hi]
 omega
theorem txt_dval (x : Nat) : ∀ n,n ≤ ndec x → dval (txt x) n = x / 10 ^ (ndec x - n) := by
 intro n
 induction n with
 | zero => exact fun _ => by rw [Nat.sub_zero,Nat.div_eq_of_lt (lt_ndec x)]; rfl
 | succ n ih =>
  intro h
  simp only [dval]
  rw [ih (by omega),txt_byte x n (by omega)]
  have e : 10 ^ (ndec x - n) = 10 ^ (ndec x - (n + 1)) * 10 := by rw [← Nat.pow_succ]; congr 1; omega
  rw [e,← Nat.div_div_eq_div_mul,show ndec x - 1 - n = ndec x - (n + 1) by omega]
  generalize x / 10 ^ (ndec x - (n + 1)) = y
  omega
theorem txt_read (x : Nat) : dval (txt x) (txt x).size = x := by
 rw [txt_size,txt_dval x _ (Nat.le_refl _),Nat.sub_self,Nat.pow_zero,Nat.div_one]
theorem minus_data (T : ByteArray) : (({ data := #[45] } : ByteArray) ++ T).data.toList = 45 :: T.data.toList := by
 rw [ByteArray.data_append,Array.toList_append]; rfl
theorem minus_size (T : ByteArray) : (({ data := #[45] } : ByteArray) ++ T).size = T.size + 1 := by
 rw [ByteArray.size_append]; show 1 + T.size = _; omega
theorem minus_cut (T : ByteArray) : (({ data := #[45] } : ByteArray) ++ T).extract 1 (({ data := #[45] } : ByteArray) ++ T).size = T := by
 have h : ((({ data := #[45] } : ByteArray) ++ T).extract 1 (({ data := #[45] } : ByteArray) ++ T).size).data.toList = T.data.toList := by
  rw [ByteArray.data_extract,Array.toList_extract,minus_data,minus_size]
  have hl : T.data.toList.length = T.size := by simp
  show List.take (T.size + 1 - 1) T.data.toList = _
  rw [Nat.add_sub_cancel,← hl,List.take_length]
 exact ByteArray.ext (Array.toList_inj.1 h)
theorem dig_ne (s : ByteArray) (h : digitsB s = true) (c : Nat) (hc : c < 48) (i : Nat) (hi : i < s.size) : s.data.toList[i]? ≠ some c.toUInt8 := by
 have hd : 0 < s.size ∧ ∀ i,i < s.size → isDig s i := by simpa [digitsB] using h
 have h1 := hd.2 i hi
 unfold isDig at h1
 intro e
 rw [List.getD_eq_getElem?_getD,e] at h1
 simp only [Option.getD_some] at h1
 have h2 : c.toUInt8.toNat = c := by simp; omega
 rw [h2] at h1
 omega
theorem dig_none (s : ByteArray) (h : digitsB s = true) (c : Nat) (hc : c < 48) : firstAt s c = -1 := by
 rcases firstAt_cases s c with g | ⟨o,g⟩
 ·exact g
 ·exact absurd (Lib.indexByte_some g).1 (dig_ne s h c hc o (firstAt_lt s c o g))

def byt (s : ByteArray) (i : Nat) : Nat := (s.data.toList.getD i 0).toNat
theorem byt_left (A C : ByteArray) (i : Nat) (h : i < A.size) : byt (A ++ C) i = byt A i := by
 have hs : A.data.toList.length = A.size := by simp
 unfold byt
 rw [ByteArray.data_append,Array.toList_append,List.getD_eq_getElem?_getD,List.getElem?_append_left (by omega),← List.getD_eq_getElem?_getD]
theorem byt_right (A C : ByteArray) (i : Nat) : byt (A ++ C) (A.size + i) = byt C i := by
 have hs : A.data.toList.length = A.size := by simp
 unfold byt
 rw [ByteArray.data_append,Array.toList_append,List.getD_eq_getElem?_getD,List.getElem?_append_right (by omega),hs,Nat.add_sub_cancel_left,← List.getD_eq_getElem?_getD]
theorem dig_iff (s : ByteArray) : digitsB s = true ↔ 0 < s.size ∧ ∀ i,i < s.size → 48 ≤ byt s i ∧ byt s i ≤ 57 := by
 unfold digitsB; rw [decide_eq_true_eq]; exact Iff.rfl
theorem dval_congr (s t : ByteArray) : ∀ n,(∀ i,i < n → byt s i = byt t i) → dval s n = dval t n
 | 0,_ => rfl
 | n + 1,h => by
  show dval s n * 10 + (byt s n - 48) = dval t n * 10 + (byt t n - 48)
  rw [dval_congr s t n (fun i hi => h i (by omega)),h n (by omega)]
theorem dval_app (A C : ByteArray) : ∀ k,dval (A ++ C) (A.size + k) = dval A A.size * 10 ^ k + dval C k
 | 0 => by
  show dval (A ++ C) A.size = dval A A.size * 1 + 0
  rw [dval_congr (A ++ C) A A.size (fun i hi => byt_left A C i hi)]; omega
 | k + 1 => by
  show dval (A ++ C) (A.size + k) * 10 + (byt (A ++ C) (A.size + k) - 48) = dval A A.size * 10 ^ (k + 1) + (dval C k * 10 + (byt C k - 48))
  rw [dval_app A C k,byt_right,Nat.pow_succ,← Nat.mul_assoc,Nat.add_mul]; omega
theorem zeros_size (k : Nat) : (zeros k).size = k := by
 show (zeros k).data.size = k
 simp [zeros]
theorem zeros_byt (k i : Nat) (h : i < k) : byt (zeros k) i = 48 := by
 unfold byt zeros
 rw [List.getD_eq_getElem?_getD]
 simp [List.getElem?_replicate,h]
theorem zeros_dval (k : Nat) : ∀ n,n ≤ k → dval (zeros k) n = 0
 | 0,_ => rfl
 | n + 1,h => by
  show dval (zeros k) n * 10 + (byt (zeros k) n - 48) = 0
  rw [zeros_dval k n (by omega),zeros_byt k n (by omega)]
def pad (x d : Nat) : ByteArray := if (txt x).size ≤ d then zeros (d + 1 - (txt x).size) ++ txt x else txt x
theorem pad_size (x d : Nat) : d < (pad x d).size ∧ (pad x d).size ≤ (txt x).size + d := by
 have h0 := ndec_pos x
 have h1 := txt_size x
 unfold pad; split
 ·rw [ByteArray.size_append,zeros_size]; omega
 ·omega
theorem pad_dig (x d : Nat) : digitsB (pad x d) = true := by
 have ht := txt_digits x
 unfold pad; split
 ·rw [dig_iff] at ht ⊢
  refine ⟨by rw [ByteArray.size_append,zeros_size]; omega,fun i hi => ?_⟩
  rw [ByteArray.size_append,zeros_size] at hi
  by_cases g : i < d + 1 - (txt x).size
  ·rw [byt_left _ _ _ (by rw [zeros_size]; exact g),zeros_byt _ _ g]; omega
  ·obtain ⟨j,rfl⟩ : ∃ j,i = (zeros (d + 1 - (txt x).size)).size + j := ⟨i - (d + 1 - (txt x).size),by rw [zeros_size]; omega⟩
   rw [zeros_size] at hi
   rw [byt_right]; exact ht.2 j (by omega)
 ·exact ht
theorem pad_val (x d : Nat) : dval (pad x d) (pad x d).size = x := by
 unfold pad; split
 ·rw [ByteArray.size_append,dval_app,zeros_size,zeros_dval _ _ (Nat.le_refl _),txt_read]; omega
 ·exact txt_read x
def dec0 (x d : Nat) : ByteArray := if d = 0 then pad x d else (pad x d).extract 0 ((pad x d).size - d) ++ { data := #[46] } ++ (pad x d).extract ((pad x d).size - d) (pad x d).size
def decTxt (n : Int) (d : Nat) : ByteArray := if n < 0 then { data := #[45] } ++ dec0 n.natAbs d else dec0 n.natAbs d
theorem cut_dig (P : ByteArray) (a : Nat) (h : digitsB P = true) (h0 : 0 < a) (h1 : a < P.size) : digitsB (P.extract 0 a) = true ∧ digitsB (P.extract a P.size) = true ∧ (P.extract 0 a).size = a ∧ (P.extract a P.size).size = P.size - a ∧ P.extract 0 a ++ P.extract a P.size = P := by
 have s1 : (P.extract 0 a).size = a := by rw [ByteArray.size_extract]; omega
 have s2 : (P.extract a P.size).size = P.size - a := by rw [ByteArray.size_extract]; omega
 have e : P.extract 0 a ++ P.extract a P.size = P := by
  rw [← ByteArray.extract_eq_extract_append_extract a (by omega) (by omega),ByteArray.extract_zero_size]
 rw [dig_iff] at h
 refine ⟨?_,?_,s1,s2,e⟩
 ·rw [dig_iff]
  refine ⟨by omega,fun i hi => ?_⟩
  have := h.2 i (by omega)
  rw [← byt_left _ (P.extract a P.size) i hi,e]; exact this
 ·rw [dig_iff]
  refine ⟨by omega,fun i hi => ?_⟩
  have := h.2 (a + i) (by omega)
  rw [← byt_right (P.extract 0 a),e,s1]; exact this
theorem get_byt (s : ByteArray) (i c : Nat) (hc : c < 256) (h : s.data.toList[i]? = some c.toUInt8) : byt s i = c := by
 unfold byt; rw [List.getD_eq_getElem?_getD,h]; simp; omega
theorem at_byt (s : ByteArray) (i c : Nat) (hc : c < 256) (hi : i < s.size) (h : byt s i = c) : s.data.toList[i]? = some c.toUInt8 := by
 have hs : s.data.toList.length = s.size := by simp
 have h1 : i < s.data.toList.length := by omega
 unfold byt at h
 rw [List.getD_eq_getElem?_getD,List.getElem?_eq_getElem h1] at h
 rw [List.getElem?_eq_getElem h1]
 simp only [Option.getD_some] at h
 congr 1
 apply UInt8.toNat.inj
 rw [h]; simp; omega
theorem point_size : (({ data := #[46] } : ByteArray)).size = 1 := rfl
theorem point_byt (A C : ByteArray) : byt (A ++ { data := #[46] } ++ C) A.size = 46 := by
 rw [byt_left _ _ _ (by rw [ByteArray.size_append,point_size]; omega)]
 exact byt_right A { data := #[46] } 0
theorem point_left (A C : ByteArray) (i : Nat) (h : i < A.size) : byt (A ++ { data := #[46] } ++ C) i = byt A i := by
 rw [byt_left _ _ _ (by rw [ByteArray.size_append]; omega),byt_left _ _ _ h]
theorem point_right (A C : ByteArray) (i : Nat) : byt (A ++ { data := #[46] } ++ C) (A.size + 1 + i) = byt C i := by
 have := byt_right (A ++ { data := #[46] }) C i
 rw [ByteArray.size_append,point_size] at this; exact this
theorem point_all (A C : ByteArray) : (A ++ { data := #[46] } ++ C).size = A.size + 1 + C.size := by
 rw [ByteArray.size_append,ByteArray.size_append,point_size]
theorem point_iff (A C : ByteArray) (hA : digitsB A = true) (hC : digitsB C = true) (i : Nat) (hi : i < (A ++ { data := #[46] } ++ C).size) : (byt (A ++ { data := #[46] } ++ C) i = 46 ↔ i = A.size) ∧ byt (A ++ { data := #[46] } ++ C) i ≠ 47 := by
 rw [dig_iff] at hA hC
 rw [point_all] at hi
 rcases Nat.lt_trichotomy i A.size with g | g | g
 ·rw [point_left _ _ _ g]
  have := hA.2 i g
  exact ⟨⟨fun e => by omega,fun e => by omega⟩,by omega⟩
 ·subst g; rw [point_byt]; exact ⟨⟨fun _ => rfl,fun _ => rfl⟩,by omega⟩
 ·obtain ⟨j,rfl⟩ : ∃ j,i = A.size + 1 + j := ⟨i - A.size - 1,by omega⟩
  rw [point_right]
  have := hC.2 j (by omega)
  exact ⟨⟨fun e => by omega,fun e => by omega⟩,by omega⟩
theorem point_first (A C : ByteArray) (hA : digitsB A = true) (hC : digitsB C = true) : firstAt (A ++ { data := #[46] } ++ C) 47 = -1 ∧ firstAt (A ++ { data := #[46] } ++ C) 46 = (A.size : Int) := by
 refine ⟨?_,?_⟩
 ·rcases firstAt_cases (A ++ { data := #[46] } ++ C) 47 with g | ⟨o,g⟩
  ·exact g
  ·have := get_byt _ o 47 (by omega) (Lib.indexByte_some g).1
   exact absurd this (point_iff A C hA hC o (firstAt_lt _ _ _ g)).2
 ·have hat := at_byt (A ++ { data := #[46] } ++ C) A.size 46 (by omega) (by rw [point_all]; omega) (point_byt A C)
  rcases firstAt_cases (A ++ { data := #[46] } ++ C) 46 with g | ⟨o,g⟩
  ·exact absurd hat (Lib.indexByte_none g A.size)
  ·have := get_byt _ o 46 (by omega) (Lib.indexByte_some g).1
   rw [g,((point_iff A C hA hC o (firstAt_lt _ _ _ g)).1).1 this]
theorem pp_point (A C : ByteArray) (hA : digitsB A = true) (hC : digitsB C = true) : ppOf (A ++ { data := #[46] } ++ C) = (0,dval A A.size * 10 ^ C.size + dval C C.size,10 ^ C.size) := by
 obtain ⟨h1,h2⟩ := point_first A C hA hC
 have e1 : (A ++ { data := #[46] } ++ C).extract 0 A.size = A := by rw [ByteArray.append_assoc]; exact ByteArray.extract_append_eq_left rfl
 have e2 : (A ++ { data := #[46] } ++ C).extract (A.size + 1) (A ++ { data := #[46] } ++ C).size = C := ByteArray.extract_append_eq_right (by rw [ByteArray.size_append]; rfl) (by rw [ByteArray.size_append])
 unfold ppOf
 rw [h1,h2,if_neg (by omega),if_pos (by omega),Int.toNat_natCast,e1,e2]
 simp [twoErr,errN,nval,hA,hC]
theorem dec0_pp (x d : Nat) : ppOf (dec0 x d) = (0,x,10 ^ d) := by
 have hd := pad_dig x d
 have hv := pad_val x d
 have hs := (pad_size x d).1
 unfold dec0
 by_cases h0 : d = 0
 ·rw [if_pos h0]
  unfold ppOf
  rw [dig_none _ hd 47 (by omega),dig_none _ hd 46 (by omega),if_neg (by omega),if_neg (by omega)]
  unfold errN nval
  rw [if_pos hd,if_pos hd,hv,h0]
 ·rw [if_neg h0]
  generalize pad x d = P at *
  obtain ⟨a,ha⟩ : ∃ a,a = P.size - d := ⟨_,rfl⟩
  rw [← ha]
  obtain ⟨d1,d2,s1,s2,e⟩ := cut_dig P a hd (by omega) (by omega)
  rw [pp_point _ _ d1 d2,s2,s1,show P.size - a = d by omega]
  have h3 := dval_app (P.extract 0 a) (P.extract a P.size) (P.size - a)
  rw [e,s1,show a + (P.size - a) = P.size by omega,show P.size - a = d by omega,hv] at h3
  rw [← h3]
theorem dec0_head (x d : Nat) : 0 < (dec0 x d).size ∧ byt (dec0 x d) 0 ≠ 45 := by
 have hd := pad_dig x d
 have hs := (pad_size x d).1
 unfold dec0
 by_cases h0 : d = 0
 ·rw [if_pos h0]
  rw [dig_iff] at hd
  have := hd.2 0 hd.1
  exact ⟨hd.1,by omega⟩
 ·rw [if_neg h0]
  generalize pad x d = P at *
  obtain ⟨a,ha⟩ : ∃ a,a = P.size - d := ⟨_,rfl⟩
  rw [← ha]
  obtain ⟨d1,d2,s1,s2,e⟩ := cut_dig P a hd (by omega) (by omega)
  rw [point_all,point_left _ _ _ (by omega)]
  rw [dig_iff] at d1
  have := d1.2 0 (by omega)
  exact ⟨by omega,by omega⟩
theorem dec_pneg (n : Int) (d : Nat) : pneg (decTxt n d) = decide (n < 0) := by
 obtain ⟨h1,h2⟩ := dec0_head n.natAbs d
 unfold decTxt
 by_cases h : n < 0
 ·rw [if_pos h,decide_eq_true h]
  unfold pneg; rw [minus_data,minus_size]; simp
 ·rw [if_neg h,decide_eq_false h]
  unfold pneg
  have hne : ((dec0 n.natAbs d).data.toList.getD 0 0 == 45) = false := by
   rw [beq_eq_false_iff_ne]; intro e
   apply h2; unfold byt; rw [e]; rfl
  rw [hne,Bool.and_false]
theorem dec_pdig (n : Int) (d : Nat) : pdig (decTxt n d) = dec0 n.natAbs d := by
 by_cases h : n < 0
 ·rw [pdig_pos (by rw [dec_pneg]; exact decide_eq_true h)]
  unfold decTxt; rw [if_pos h]; exact minus_cut _
 ·rw [pdig_neg (by rw [dec_pneg]; exact decide_eq_false h)]
  unfold decTxt; rw [if_neg h]
theorem dec_pp (n : Int) (d : Nat) : ppOf (pdig (decTxt n d)) = (0,n.natAbs,10 ^ d) := by rw [dec_pdig,dec0_pp]
theorem dec_val (n : Int) (d : Nat) : qval (decTxt n d) = mkRat n (10 ^ d) := by
 unfold qval
 rw [dec_pp,dec_pneg]
 show mkRat (zof (decide (n < 0)) n.natAbs) (10 ^ d) = _
 rw [zof_self]
theorem dec0_size (x d : Nat) : (dec0 x d).size = (pad x d).size + if d = 0 then 0 else 1 := by
 have hs := (pad_size x d).1
 unfold dec0
 by_cases h0 : d = 0
 ·rw [if_pos h0,if_pos h0]; rfl
 ·rw [if_neg h0,if_neg h0,point_all,ByteArray.size_extract,ByteArray.size_extract]; omega
theorem dec_size (n : Int) (d L : Nat) (h : nl W32 n.natAbs ≤ L) : (decTxt n d).size ≤ 10 * L + d + 3 := by
 have h1 := txt_small n.natAbs L h
 have h2 := (pad_size n.natAbs d).2
 have h3 := dec0_size n.natAbs d
 unfold decTxt; split
 ·rw [minus_size]; split at h3 <;> omega
 ·split at h3 <;> omega
theorem dec0_point (x d i : Nat) (hi : i < (dec0 x d).size) : byt (dec0 x d) i = 46 ↔ (0 < d ∧ i + d + 1 = (dec0 x d).size) := by
 have hd := pad_dig x d
 have hs := (pad_size x d).1
 unfold dec0 at hi ⊢
 by_cases h0 : d = 0
 ·rw [if_pos h0] at hi ⊢
  rw [dig_iff] at hd
  have := hd.2 i hi
  exact ⟨fun e => by omega,fun e => by omega⟩
 ·rw [if_neg h0] at hi ⊢
  generalize pad x d = P at *
  obtain ⟨a,ha⟩ : ∃ a,a = P.size - d := ⟨_,rfl⟩
  rw [← ha] at hi ⊢
  obtain ⟨d1,d2,s1,s2,e⟩ := cut_dig P a hd (by omega) (by omega)
  rw [(point_iff _ _ d1 d2 i hi).1,point_all,s1,s2]
  exact ⟨fun e => by omega,fun e => by omega⟩
theorem dec_point (n : Int) (d i : Nat) (hi : i < (decTxt n d).size) : byt (decTxt n d) i = 46 ↔ (0 < d ∧ i + d + 1 = (decTxt n d).size) := by
 unfold decTxt at hi ⊢
 by_cases h : n < 0
 ·rw [if_pos h] at hi ⊢
  rw [minus_size] at hi ⊢
  cases i with
  | zero =>
   have h1 := (pad_size n.natAbs d).1
   have h3 := dec0_size n.natAbs d
   have : byt (({ data := #[45] } : ByteArray) ++ dec0 n.natAbs d) 0 = 45 := byt_left _ _ 0 (by show 0 < 1; omega)
   rw [this]
   exact ⟨fun e => by omega,fun e => by split at h3 <;> omega⟩
  | succ i =>
   have : byt (({ data := #[45] } : ByteArray) ++ dec0 n.natAbs d) (i + 1) = byt (dec0 n.natAbs d) i := by
    have := byt_right ({ data := #[45] } : ByteArray) (dec0 n.natAbs d) i
    rw [show (({ data := #[45] } : ByteArray)).size = 1 from rfl,Nat.add_comm 1 i] at this; exact this
   rw [this,dec0_point _ _ _ (by omega)]
   exact ⟨fun e => ⟨e.1,by omega⟩,fun e => ⟨e.1,by omega⟩⟩
 ·rw [if_neg h] at hi ⊢
  exact dec0_point _ _ _ hi

theorem byte_get (s : ByteArray) (i : Nat) (h : i < s.size) : s.data.toList[i]? = some s[i] := by
 have h' : i < s.data.toList.length := by simpa using h
 rw [List.getElem?_eq_getElem h']; rfl
theorem u8_ne (a : UInt8) (c : Nat) (hc : c < 256) (h : a ≠ c.toUInt8) : ((a.toNat : Int) == (c : Int)) = false := by
 rw [beq_eq_false_iff_ne]
 intro e
 apply h
 apply UInt8.toNat.inj
 have : a.toNat = c := by omega
 rw [this]; simp; omega
theorem u8_is (a : UInt8) (c : Nat) (hc : c < 256) (h : a = c.toUInt8) : ((a.toNat : Int) == (c : Int)) = true := by
 rw [h]; simp; omega
theorem first_miss (s : ByteArray) (c : Nat) (hc : c < 256) (h : firstAt s c = -1) (i : Nat) (hi : i < s.size) : (((s[i]).toNat : Int) == (c : Int)) = false :=
 u8_ne _ c hc fun e => Lib.indexByte_none h i (by rw [byte_get s i hi,e])
theorem first_ahead (s : ByteArray) (c o : Nat) (hc : c < 256) (h : firstAt s c = (o : Int)) (i : Nat) (hi : i < s.size) (hio : i < o) : (((s[i]).toNat : Int) == (c : Int)) = false :=
 u8_ne _ c hc fun e => (Lib.indexByte_some h).2 i hio (by rw [byte_get s i hi,e])
theorem first_there (s : ByteArray) (c o : Nat) (hc : c < 256) (h : firstAt s c = (o : Int)) (hi : o < s.size) : (((s[o]).toNat : Int) == (c : Int)) = true :=
 u8_is _ c hc (by have := (Lib.indexByte_some h).1; rw [byte_get s o hi] at this; exact Option.some.inj this)
set_option maxRecDepth 20000 in
set_option maxHeartbeats 1000000 in
theorem dcut47 (s : ByteArray) (w : World) (hl : s.size ≤ 10000) :
  Calls Tryz.prog 46 #[.string s,.int .u8 47] w fun e w' => e = .returned (.int .i64 (firstAt s 47)) ∧ w' = w := by
 rcases firstAt_cases s 47 with h | ⟨o,h⟩
 ·rw [h]
  have HM : Hid (∀ i (hi : i < s.size),(((s[i]).toNat : Int) == 47) = false) := first_miss s 47 (by omega) h
  clear h
  go_enter Tryz.func46,Tryz.ntmps46
  go_wp2
  go_loop [5] (fun v => ∃ i : Nat,i ≤ s.size ∧ v = .int .i64 (i : Int)) (fun v => s.size - (intOf v).toNat)
  case atStart => exact ⟨0,Nat.zero_le _,rfl⟩
  case round =>
   obtain ⟨i,hi,rfl⟩ := hrel
   by_cases hlt : i < s.size
   ·have h1 := HM.out i hlt
    go_wp2
    exact ⟨⟨i + 1,by omega,rfl⟩,by simp [intOf]; omega⟩
   ·have hz : i = s.size := by omega
    subst hz
    go_wp2
    go_ret
    exact ⟨rfl,rfl⟩
 ·have ho := firstAt_lt s _ _ h
  have HM : Hid (∀ i (hi : i < s.size),i < o → (((s[i]).toNat : Int) == 47) = false) := first_ahead s 47 o (by omega) h
  have HT : Hid ((((s[o]).toNat : Int) == 47) = true) := first_there s 47 o (by omega) h ho
  rw [h]
  clear h
  go_enter Tryz.func46,Tryz.ntmps46
  go_wp2
  go_loop [5] (fun v => ∃ i : Nat,i ≤ o ∧ v = .int .i64 (i : Int)) (fun v => s.size - (intOf v).toNat)
  case atStart => exact ⟨0,Nat.zero_le _,rfl⟩
  case round =>
   obtain ⟨i,hi,rfl⟩ := hrel
   have hlt : i < s.size := by omega
   by_cases hio : i < o
   ·have h1 := HM.out i hlt hio
    go_wp2
    exact ⟨⟨i + 1,by omega,rfl⟩,by simp [intOf]; omega⟩
   ·obtain rfl : i = o := by omega
    have h1 := HT.out
    go_wp2
    go_ret
    exact ⟨rfl,rfl⟩
set_option maxRecDepth 20000 in
set_option maxHeartbeats 1000000 in
theorem dcut46 (s : ByteArray) (w : World) (hl : s.size ≤ 10000) :
  Calls Tryz.prog 46 #[.string s,.int .u8 46] w fun e w' => e = .returned (.int .i64 (firstAt s 46)) ∧ w' = w := by
 rcases firstAt_cases s 46 with h | ⟨o,h⟩
 ·rw [h]
  have HM : Hid (∀ i (hi : i < s.size),(((s[i]).toNat : Int) == 46) = false) := first_miss s 46 (by omega) h
  clear h
  go_enter Tryz.func46,Tryz.ntmps46
  go_wp2
  go_loop [5] (fun v => ∃ i : Nat,i ≤ s.size ∧ v = .int .i64 (i : Int)) (fun v => s.size - (intOf v).toNat)
  case atStart => exact ⟨0,Nat.zero_le _,rfl⟩
  case round =>
   obtain ⟨i,hi,rfl⟩ := hrel
   by_cases hlt : i < s.size
   ·have h1 := HM.out i hlt
    go_wp2
    exact ⟨⟨i + 1,by omega,rfl⟩,by simp [intOf]; omega⟩
   ·have hz : i = s.size := by omega
    subst hz
    go_wp2
    go_ret
    exact ⟨rfl,rfl⟩
 ·have ho := firstAt_lt s _ _ h
  have HM : Hid (∀ i (hi : i < s.size),i < o → (((s[i]).toNat : Int) == 46) = false) := first_ahead s 46 o (by omega) h
  have HT : Hid ((((s[o]).toNat : Int) == 46) = true) := first_there s 46 o (by omega) h ho
  rw [h]
  clear h
  go_enter Tryz.func46,Tryz.ntmps46
  go_wp2
  go_loop [5] (fun v => ∃ i : Nat,i ≤ o ∧ v = .int .i64 (i : Int)) (fun v => s.size - (intOf v).toNat)
  case atStart => exact ⟨0,Nat.zero_le _,rfl⟩
  case round =>
   obtain ⟨i,hi,rfl⟩ := hrel
   have hlt : i < s.size := by omega
   by_cases hio : i < o
   ·have h1 := HM.out i hlt hio
    go_wp2
    exact ⟨⟨i + 1,by omega,rfl⟩,by simp [intOf]; omega⟩
   ·obtain rfl : i = o := by omega
    have h1 := HT.out
    go_wp2
    go_ret
    exact ⟨rfl,rfl⟩

set_option maxRecDepth 20000 in
set_option maxHeartbeats 1000000 in
theorem refPower_far (u : Value) (x n : Nat) (w : World) (hu : RepD w u x) (hx : x < W32 ^ 10) (hn : n ≤ 1000) :
  Calls Tryz.prog 13 #[u,.int .i64 (n : Int)] w fun e w' => ∃ r,e = .returned r ∧ RepD w' r (x ^ n) ∧ Below w.heap.size w w' := by
 have hx10 : nl 10000 x ≤ 1000000 := Nat.le_trans (nl_small x 10 hx) (by omega)
 have HX : Hid (x < W32 ^ 10) := hx
 clear hx
 go_enter Tryz.func13,Tryz.ntmps13
 go_wp2_with fail
 refine (small_any 1 _ (by omega)).mono ?_
 rintro e w1 ⟨r1,rfl,hr1,hb1⟩
 go_wp2
 go_loopw [5,6] (fun v vi wr => ∃ i : Nat,i ≤ n ∧ vi = .int .i64 (i : Int) ∧ RepD wr v (x ^ i) ∧ Below w.heap.size w wr) (fun _ vi _ => n - (intOf vi).toNat)
 case atStart => exact ⟨0,Nat.zero_le _,rfl,hr1,hb1⟩
 case round =>
  obtain ⟨i,hi,rfl,hv,hbel⟩ := hrel
  by_cases hlt : i < n
  ·have hb : nl 10000 (x ^ i) ≤ 1000000 := Nat.le_trans (nl10_pow x 10 i HX.out) (by omega)
   have hd : Hid (x ^ (i + 1) = x ^ i * x) := Nat.pow_succ _ _
   have hu2 := Nums.below hu hbel
   generalize x ^ i = X at *
   go_wp2_with fail
   refine (times_any _ _ X x _ hv hu2 hb hx10).mono ?_
   rintro e w2 ⟨r2,rfl,hr2,hb2⟩
   go_wp2
   go_roundw
   case rel => exact ⟨i + 1,by omega,by go_num,by rw [hd.out]; exact hr2,hbel.trans (hb2.mono hbel.size)⟩
   case measure => simp [intOf]; omega
  ·have : i = n := by omega
   subst this
   go_wp2
   go_ret
   exact ⟨_,rfl,hv,hbel⟩
theorem zeroD_form (w : World) : RepD w (.slice none 0 0) 0 := by
 unfold RepD; rw [nl_zero]; exact Nums.nil _ _ _
theorem refParse_at (s : ByteArray) (w : World) (hl : s.size ≤ 10000) :
  Calls Tryz.prog 47 #[.string s] w fun e w' => ∃ ao n c,e = .returned (.tuple #[.slice ao n c,.int .i64 (errN s)]) ∧ RepD w' (.slice ao n c) (nval s) ∧ Below w.heap.size w w' := by
 unfold errN nval
 by_cases hd : digitsB s = true
 ·rw [if_pos hd,if_pos hd]
  refine (refParse_yes s w hl hd).mono ?_
  rintro e w1 ⟨v,rfl,hv,hb⟩
  obtain ⟨ao,c,rfl⟩ := hv.open
  exact ⟨ao,_,c,rfl,hv,hb⟩
 ·rw [if_neg hd,if_neg hd]
  refine (refParse_form s w (by simpa using hd) (by omega)).mono ?_
  rintro e w1 ⟨rfl,rfl⟩
  exact ⟨none,0,0,rfl,zeroD_form _,Below.refl _ _⟩
theorem pp_small (s : ByteArray) (hs : s.size ≤ 120) : nl W32 (ppOf s).2.1 ≤ 250 ∧ nl W32 (ppOf s).2.2 ≤ 250 := by
 have key : ∀ A C : ByteArray,A.size ≤ 120 → C.size ≤ 120 → nl W32 (nval A) ≤ 250 ∧ nl W32 (nval C) ≤ 250 ∧ nl W32 (nval A * 10 ^ C.size + nval C) ≤ 250 ∧ nl W32 (10 ^ C.size) ≤ 250 := fun A C h1 h2 => by
  have n1 := nval_nl A
  have n2 := nval_nl C
  have n3 := nl_ten C.size (C.size + 1) (by omega)
  have n4 := nln_mul n1 n3
  have n5 := nlz_add (x := ((nval A * 10 ^ C.size : Nat) : Int)) (y := ((nval C : Nat) : Int)) (c := A.size + 1 + (C.size + 1) + 1) (by rw [Int.natAbs_natCast]; exact n4) (by rw [Int.natAbs_natCast]; exact n2) (by omega) (by omega)
  rw [← Int.natCast_add,Int.natAbs_natCast] at n5
  exact ⟨by omega,by omega,by omega,by omega⟩
 unfold ppOf
 have e1 := ext_le s 0 (firstAt s 47).toNat
 have e2 := ext_le s ((firstAt s 47).toNat + 1) s.size
 have e3 := ext_le s 0 (firstAt s 46).toNat
 have e4 := ext_le s ((firstAt s 46).toNat + 1) s.size
 split
 ·have := key _ _ (Nat.le_trans e1 hs) (Nat.le_trans e2 hs); exact ⟨this.1,this.2.1⟩
 ·split
  ·have := key _ _ (Nat.le_trans e3 hs) (Nat.le_trans e4 hs); exact ⟨this.2.2.1,this.2.2.2⟩
  ·have := key _ _ hs hs; exact ⟨this.1,Nat.le_trans nlw_one (by omega)⟩
theorem nl10_of {x : Nat} (h : nl W32 x ≤ 250) : nl 10000 x ≤ 1000000 := Nat.le_trans (nl_small x 250 (Nat.lt_of_lt_of_le (lt_pow_nl W32 x (by decide)) (Nat.pow_le_pow_right (by decide) h))) (by omega)
def DocOut (er : Int) (q : Rat) (w : World) (e : Ending) (w' : World) : Prop :=
 ∃ p a n c b m d,e = .returned (.tuple #[.agg #[.bool p,.slice a n c,.slice b m d],.int .i64 er]) ∧ (er = 0 → DocQ w' (.agg #[.bool p,.slice a n c,.slice b m d]) q 250) ∧ Below w.heap.size w w'
set_option maxRecDepth 20000 in
set_option maxHeartbeats 8000000 in
theorem dparse_at (s : ByteArray) (er : Int) (q : Rat) (w : World) (hs : s.size ≤ 120) (he : er = qerr s) (hq : q = qval s) :
  Calls Tryz.prog 10 #[.string s] w fun e w' => DocOut er q w e w' := by
 have HE : Hid (er = if (ppOf (pdig s)).1 = 0 then (if (ppOf (pdig s)).2.2 = 0 then 2 else 0) else (ppOf (pdig s)).1) := he
 have HQ : Hid (q = mkRat (zof (pneg s) (ppOf (pdig s)).2.1) (ppOf (pdig s)).2.2) := hq
 clear he hq
 cases hn : pneg s with
 | true =>
  rw [hn] at HQ
  have h0 := pneg_size hn
  have hts : (pdig s).size ≤ 120 := by have := pdig_size s; omega
  have HT : Hid (pdig s = s.extract 1 s.size) := pdig_pos hn
  have h45 : s[0] = 45 := by
   unfold pneg at hn; rw [Bool.and_eq_true,byte_at s 0 h0] at hn; simpa using hn.2
  have hc : (0 : Int) < (s.size : Int) := by omega
  have hc1 : (1 : Int) ≤ (s.size : Int) := by omega
  clear hn
  have BB : Below w.heap.size w w := Below.refl _ _
  obtain ⟨Wb0,hW0,hS0,hL0,VR⟩ := V3.lay w 38 (.bool false) (.slice none 0 0) (.slice none 0 0)
  replace BB := BB.trans (hL0.mono BB.size)
  clear hL0
  go_enter Tryz.func10,Tryz.ntmps10
  go_wp2_with fail
  rw [← hW0]
  clear hW0 hS0
  rw [← HT.out]
  generalize pdig s = t at *
  refine (dcut47 t _ (by omega)).mono ?_
  rintro e wx ⟨rfl,hwx⟩
  replace hwx := hwx.symm
  subst hwx
  rcases firstAt_cases t 47 with h47 | ⟨o,h47⟩
  ·rw [h47]
   go_wp2_with fail
   refine (dcut46 t _ (by omega)).mono ?_
   rintro e wx ⟨rfl,hwx⟩
   replace hwx := hwx.symm
   subst hwx
   rcases firstAt_cases t 46 with h46 | ⟨o,h46⟩
   ·have HP : Hid (ppOf t = (errN t,nval t,1)) := by show _ = _; unfold ppOf; rw [h47,h46,if_neg (by omega),if_neg (by omega)]
    rw [h46]
    clear h46 h47
    go_wp2_with fail
    refine (refParse_at t _ (by omega)).mono ?_
    rintro e w1 ⟨ao,n1,c1,rfl,D1,b1⟩
    replace VR := VR.below b1
    replace BB := BB.trans (b1.mono BB.size)
    clear b1
    have he : errN t = 0 ∨ errN t = 4 := by unfold errN; split <;> simp
    have HE1 : Hid (er = errN t) := by show _ = _; rw [HE.out,HP.out]; rcases he with he | he <;> simp [he]
    have HQ1 : Hid (q = mkRat (zof true (nval t)) 1) := by show _ = _; rw [HQ.out,HP.out]
    have HL1 : Hid (nl W32 (nval t) ≤ 250) := by have := (pp_small t hts).1; rw [HP.out] at this; exact this
    generalize errN t = ee at *
    generalize nval t = x at *
    clear he
    go_wp2_with fail
    refine (rmake_any true _ x _ D1).mono ?_
    rintro e w2 ⟨rj,rfl,Jr,b2⟩
    replace D1 := D1.below b2
    replace VR := VR.below b2
    replace BB := BB.trans (b2.mono BB.size)
    clear b2
    obtain ⟨pj,aj,nj,cj,rfl⟩ := Jr.open
    go_wp2_with fail
    refine (small_any 1 _ (by omega)).mono ?_
    rintro e w3 ⟨rd,rfl,Dd,b3⟩
    replace D1 := D1.below b3
    replace Jr := Jr.below b3
    replace VR := VR.below b3
    replace BB := BB.trans (b3.mono BB.size)
    clear b3
    obtain ⟨ad,cd,rfl⟩ := Dd.open
    have hKp := VR.keepJ (.bool pj) (.slice aj nj cj) (.slice ad (nl 10000 1) cd)
    have D1_n := D1.keep hKp
    have Jr_n := Jr.keep hKp
    have Dd_n := Dd.keep hKp
    have BB_n := below_store3 (R := w.heap.size) BB (by omega) (.bool pj) (.slice aj nj cj) (.slice ad (nl 10000 1) cd)
    clear hKp
    obtain ⟨q1,q2,q3,q4,q5,q6⟩ := id VR
    go_wp2
    (try simp only [Exit.inBlock,Exit.then])
    refine bodyPost_ret (v := .tuple #[.agg #[.bool pj,.slice aj nj cj,.slice ad (nl 10000 1) cd],.int .i64 ee]) (by simp [results,go_sem,q1,q2,q3]) rfl ?_
    exact ⟨_,_,_,_,_,_,_,by rw [HE1.out],fun _ => ⟨_,_,⟨_,_,_,_,_,_,_,rfl,Jr_n,Dd_n,by omega,Nat.le_trans (by rw [zof_abs]; exact HL1.out) (Nat.le_refl _),Nat.le_trans nlw_one (by omega)⟩,HQ1.out⟩,BB_n⟩
   ·have ho := firstAt_lt t 46 o h46
    have HP : Hid (ppOf t = (twoErr (t.extract 0 o) (t.extract (o + 1) t.size),nval (t.extract 0 o) * 10 ^ (t.extract (o + 1) t.size).size + nval (t.extract (o + 1) t.size),10 ^ (t.extract (o + 1) t.size).size)) := by show _ = _; unfold ppOf; rw [h47,h46,if_neg (by omega),if_pos (by omega),Int.toNat_natCast]
    have x0 := ext_le t 0 o
    have x1 := ext_le t (o + 1) t.size
    have o1 : (0 : Int) ≤ (o : Int) := by omega
    have o2 : (o : Int) ≤ (t.size : Int) := by omega
    have o3 : (0 : Int) ≤ (o : Int) + 1 := by omega
    have o4 : (o : Int) + 1 ≤ (t.size : Int) := by omega
    have o5 : ¬ (o : Int) < 0 := by omega
    have HL : Hid _ := pp_small t hts
    have hz : (t.extract (o + 1) t.size).size = t.size - (o + 1) := by rw [ByteArray.size_extract]; omega
    have HZ : Hid ((t.extract (o + 1) t.size).size = t.size - (o + 1)) := hz
    clear hz
    rw [h46]
    clear h46 h47
    go_wp2_with fail
    refine (refParse_at _ _ (by omega)).mono ?_
    rintro e w11 ⟨a1,n1,c1,rfl,D1,b11⟩
    replace VR := VR.below b11
    replace BB := BB.trans (b11.mono BB.size)
    clear b11
    by_cases he1 : errN (t.extract 0 o) = 0
    ·have HT : Hid (twoErr (t.extract 0 o) (t.extract (o + 1) t.size) = errN (t.extract (o + 1) t.size)) := by show _ = _; unfold twoErr; rw [if_pos he1]
     rw [he1]
     clear he1
     go_wp2_with fail
     refine (refParse_at _ _ (by omega)).mono ?_
     rintro e w12 ⟨a2,n2,c2,rfl,D2,b12⟩
     replace D1 := D1.below b12
     replace VR := VR.below b12
     replace BB := BB.trans (b12.mono BB.size)
     clear b12
     by_cases he2 : errN (t.extract (o + 1) t.size) = 0
     ·rw [he2]
      have hte : (t.size : Int) - (o : Int) - 1 = ((t.size - (o + 1) : Nat) : Int) := by omega
      have ht2 : IntKind.i64.wrap ((t.size : Int) - (o : Int)) = (t.size : Int) - (o : Int) := by rw [IntKind.wrap_i64]; omega
      have htw : IntKind.i64.wrap ((t.size : Int) - (o : Int) - 1) = ((t.size - (o + 1) : Nat) : Int) := by rw [IntKind.wrap_i64]; omega
      have HE1 : Hid (er = 0) := by show _ = _; rw [HE.out,HP.out]; simp [HT.out,he2]
      rw [HZ.out] at HP
      have HQ1 : Hid (q = mkRat (zof true (nval (t.extract 0 o) * 10 ^ (t.size - (o + 1)) + nval (t.extract (o + 1) t.size))) (10 ^ (t.size - (o + 1)))) := by show _ = _; rw [HQ.out,HP.out]
      have HL1 : Hid (nl W32 (nval (t.extract 0 o) * 10 ^ (t.size - (o + 1)) + nval (t.extract (o + 1) t.size)) ≤ 250 ∧ nl W32 (10 ^ (t.size - (o + 1))) ≤ 250) := by have := HL.out; rw [HP.out] at this; exact this
      have l1 : nl 10000 (nval (t.extract 0 o)) ≤ 1000000 := nl10_of (Nat.le_trans (nval_nl _) (by omega))
      have l2 : nl 10000 (nval (t.extract (o + 1) t.size)) ≤ 1000000 := nl10_of (Nat.le_trans (nval_nl _) (by omega))
      have l3 := nl10_of HL1.out.2
      have l4 : nl 10000 (nval (t.extract 0 o) * 10 ^ (t.size - (o + 1))) ≤ 1000000 := Nat.le_trans (nl_mono 10000 _ _ (by decide) (Nat.le_add_right _ _)) (nl10_of HL1.out.1)
      have hpw : Hid (0 < 10 ^ (t.size - (o + 1))) := Nat.pow_pos (by omega)
      have ht120 : t.size - (o + 1) ≤ 1000 := by omega
      clear he2 HT HP HL
      generalize nval (t.extract 0 o) = x at *
      generalize nval (t.extract (o + 1) t.size) = y at *
      generalize hd : t.size - (o + 1) = dd at *
      go_wp2_with fail
      refine (small_any 10 _ (by omega)).mono ?_
      rintro e w13 ⟨r5,rfl,D5,b13⟩
      replace D1 := D1.below b13
      replace D2 := D2.below b13
      replace VR := VR.below b13
      replace BB := BB.trans (b13.mono BB.size)
      clear b13
      go_wp2_with fail
      refine (refPower_far _ 10 dd _ D5 (by decide) ht120).mono ?_
      rintro e w14 ⟨r6,rfl,D6,b14⟩
      replace D1 := D1.below b14
      replace D2 := D2.below b14
      replace D5 := D5.below b14
      replace VR := VR.below b14
      replace BB := BB.trans (b14.mono BB.size)
      clear b14
      obtain ⟨a6,c6,h6⟩ := D6.open
      subst h6
      generalize 10 ^ dd = ten at *
      go_wp2_with fail
      refine (times_any _ _ x ten _ D1 D6 l1 l3).mono ?_
      rintro e w15 ⟨r7,rfl,D7,b15⟩
      replace D1 := D1.below b15
      replace D2 := D2.below b15
      replace D5 := D5.below b15
      replace D6 := D6.below b15
      replace VR := VR.below b15
      replace BB := BB.trans (b15.mono BB.size)
      clear b15
      go_wp2_with fail
      refine (plus_any _ _ (x * ten) y _ D7 D2 l4 l2).mono ?_
      rintro e w16 ⟨r8,rfl,D8,b16⟩
      replace D1 := D1.below b16
      replace D2 := D2.below b16
      replace D5 := D5.below b16
      replace D6 := D6.below b16
      replace D7 := D7.below b16
      replace VR := VR.below b16
      replace BB := BB.trans (b16.mono BB.size)
      clear b16
      go_wp2_with fail
      refine (rmake_any true _ (x * ten + y) _ D8).mono ?_
      rintro e w17 ⟨rj,rfl,Jr,b17⟩
      replace D1 := D1.below b17
      replace D2 := D2.below b17
      replace D5 := D5.below b17
      replace D6 := D6.below b17
      replace D7 := D7.below b17
      replace D8 := D8.below b17
      replace VR := VR.below b17
      replace BB := BB.trans (b17.mono BB.size)
      clear b17
      obtain ⟨pj,aj,nj,cj,rfl⟩ := Jr.open
      have hKp := VR.keepJ (.bool pj) (.slice aj nj cj) (.slice a6 (nl 10000 ten) c6)
      have D1_n := D1.keep hKp
      have D2_n := D2.keep hKp
      have D5_n := D5.keep hKp
      have D6_n := D6.keep hKp
      have D7_n := D7.keep hKp
      have D8_n := D8.keep hKp
      have Jr_n := Jr.keep hKp
      have BB_n := below_store3 (R := w.heap.size) BB (by omega) (.bool pj) (.slice aj nj cj) (.slice a6 (nl 10000 ten) c6)
      clear hKp
      obtain ⟨q1,q2,q3,q4,q5,q6⟩ := id VR
      go_wp2
      (try simp only [Exit.inBlock,Exit.then])
      refine bodyPost_ret (v := .tuple #[.agg #[.bool pj,.slice aj nj cj,.slice a6 (nl 10000 ten) c6],.int .i64 0]) (by simp [results,go_sem,q1,q2,q3]) rfl ?_
      exact ⟨_,_,_,_,_,_,_,by rw [HE1.out],fun _ => ⟨_,_,⟨_,_,_,_,_,_,_,rfl,Jr_n,D6_n,hpw.out,by rw [zof_abs]; exact HL1.out.1,HL1.out.2⟩,HQ1.out⟩,BB_n⟩
     ·have h4 : errN (t.extract (o + 1) t.size) = 4 := by unfold errN at he2 ⊢; split at he2 <;> simp_all
      have HE1 : Hid (er = 4) := by show _ = _; rw [HE.out,HP.out]; simp [HT.out,h4]
      rw [h4]
      clear h4 he2
      have hKp := VR.keepJ (.bool false) (.slice none 0 0) (.slice none 0 0)
      have D1_n := D1.keep hKp
      have D2_n := D2.keep hKp
      have BB_n := below_store3 (R := w.heap.size) BB (by omega) (.bool false) (.slice none 0 0) (.slice none 0 0)
      clear hKp
      obtain ⟨q1,q2,q3,q4,q5,q6⟩ := id VR
      go_wp2
      (try simp only [Exit.inBlock,Exit.then])
      refine bodyPost_ret (v := .tuple #[.agg #[.bool false,.slice none 0 0,.slice none 0 0],.int .i64 4]) (by simp [results,go_sem,q1,q2,q3]) rfl ?_
      exact ⟨_,_,_,_,_,_,_,by rw [HE1.out],fun h => absurd (HE1.out ▸ h) (by omega),BB_n⟩
    ·have h4 : errN (t.extract 0 o) = 4 := by unfold errN at he1 ⊢; split at he1 <;> simp_all
     have HE1 : Hid (er = 4) := by show _ = _; rw [HE.out,HP.out]; simp [twoErr,h4]
     rw [h4]
     clear h4 he1
     have hKp := VR.keepJ (.bool false) (.slice none 0 0) (.slice none 0 0)
     have D1_n := D1.keep hKp
     have BB_n := below_store3 (R := w.heap.size) BB (by omega) (.bool false) (.slice none 0 0) (.slice none 0 0)
     clear hKp
     obtain ⟨q1,q2,q3,q4,q5,q6⟩ := id VR
     go_wp2
     (try simp only [Exit.inBlock,Exit.then])
     refine bodyPost_ret (v := .tuple #[.agg #[.bool false,.slice none 0 0,.slice none 0 0],.int .i64 4]) (by simp [results,go_sem,q1,q2,q3]) rfl ?_
     exact ⟨_,_,_,_,_,_,_,by rw [HE1.out],fun h => absurd (HE1.out ▸ h) (by omega),BB_n⟩
  ·have ho := firstAt_lt t 47 o h47
   have HP : Hid (ppOf t = (twoErr (t.extract 0 o) (t.extract (o + 1) t.size),nval (t.extract 0 o),nval (t.extract (o + 1) t.size))) := by show _ = _; unfold ppOf; rw [h47,if_pos (by omega),Int.toNat_natCast]
   have x0 := ext_le t 0 o
   have x1 := ext_le t (o + 1) t.size
   have o1 : (0 : Int) ≤ (o : Int) := by omega
   have o2 : (o : Int) ≤ (t.size : Int) := by omega
   have o3 : (0 : Int) ≤ (o : Int) + 1 := by omega
   have o4 : (o : Int) + 1 ≤ (t.size : Int) := by omega
   have o5 : ¬ (o : Int) < 0 := by omega
   have HL : Hid _ := pp_small t hts
   have hz : (t.extract (o + 1) t.size).size = t.size - (o + 1) := by rw [ByteArray.size_extract]; omega
   have HZ : Hid ((t.extract (o + 1) t.size).size = t.size - (o + 1)) := hz
   clear hz
   rw [h47]
   clear h47
   go_wp2_with fail
   refine (dcut46 t _ (by omega)).mono ?_
   rintro e wx ⟨rfl,hwx⟩
   replace hwx := hwx.symm
   subst hwx
   generalize firstAt t 46 = z46
   go_wp2_with fail
   refine (refParse_at _ _ (by omega)).mono ?_
   rintro e w21 ⟨a1,n1,c1,rfl,D1,b21⟩
   replace VR := VR.below b21
   replace BB := BB.trans (b21.mono BB.size)
   clear b21
   by_cases he1 : errN (t.extract 0 o) = 0
   ·have HT : Hid (twoErr (t.extract 0 o) (t.extract (o + 1) t.size) = errN (t.extract (o + 1) t.size)) := by show _ = _; unfold twoErr; rw [if_pos he1]
    rw [he1]
    clear he1
    go_wp2_with fail
    refine (refParse_at _ _ (by omega)).mono ?_
    rintro e w22 ⟨a2,n2,c2,rfl,D2,b22⟩
    replace D1 := D1.below b22
    replace VR := VR.below b22
    replace BB := BB.trans (b22.mono BB.size)
    clear b22
    by_cases he2 : errN (t.extract (o + 1) t.size) = 0
    ·rw [he2]
     have HE1 : Hid (er = if nval (t.extract (o + 1) t.size) = 0 then 2 else 0) := by show _ = _; rw [HE.out,HP.out]; simp [HT.out,he2]
     have HQ1 : Hid (q = mkRat (zof true (nval (t.extract 0 o))) (nval (t.extract (o + 1) t.size))) := by show _ = _; rw [HQ.out,HP.out]
     replace HL : Hid _ := HL.out
     have HL1 : Hid (nl W32 (nval (t.extract 0 o)) ≤ 250 ∧ nl W32 (nval (t.extract (o + 1) t.size)) ≤ 250) := by have := HL.out; rw [HP.out] at this; exact this
     clear he2 HT HP HL
     generalize nval (t.extract 0 o) = x at *
     generalize nval (t.extract (o + 1) t.size) = y at *
     obtain ⟨a3,c3,h3⟩ := D2.open
     have hn2 : n2 = nl 10000 y := by injection h3
     by_cases hy : y = 0
     ·have hn0 : n2 = 0 := by rw [hn2,hy]; exact nl_zero _
      subst hn0
      have HE2 : Hid (er = 2) := by show _ = _; rw [HE1.out,if_pos hy]
      clear hy h3 hn2
      have hKp := VR.keepJ (.bool false) (.slice none 0 0) (.slice none 0 0)
      have D1_n := D1.keep hKp
      have D2_n := D2.keep hKp
      have BB_n := below_store3 (R := w.heap.size) BB (by omega) (.bool false) (.slice none 0 0) (.slice none 0 0)
      clear hKp
      obtain ⟨q1,q2,q3,q4,q5,q6⟩ := id VR
      go_wp2
      (try simp only [Exit.inBlock,Exit.then])
      refine bodyPost_ret (v := .tuple #[.agg #[.bool false,.slice none 0 0,.slice none 0 0],.int .i64 2]) (by simp [results,go_sem,q1,q2,q3]) rfl ?_
      exact ⟨_,_,_,_,_,_,_,by rw [HE2.out],fun h => absurd (HE2.out ▸ h) (by omega),BB_n⟩
     ·have hn0 : ((n2 : Int) == 0) = false := by
       have : ¬ nl 10000 y = 0 := fun e => hy ((nl_eq_zero 10000 y (by omega)).1 e)
       simp; omega
      have HE2 : Hid (er = 0) := by show _ = _; rw [HE1.out,if_neg hy]
      have HY : Hid (0 < y) := by show 0 < y; omega
      clear hy h3 hn2
      go_wp2_with fail
      refine (rmake_any true _ x _ D1).mono ?_
      rintro e w23 ⟨rj,rfl,Jr,b23⟩
      replace D1 := D1.below b23
      replace D2 := D2.below b23
      replace VR := VR.below b23
      replace BB := BB.trans (b23.mono BB.size)
      clear b23
      obtain ⟨pj,aj,nj,cj,rfl⟩ := Jr.open
      have hKp := VR.keepJ (.bool pj) (.slice aj nj cj) (.slice a2 n2 c2)
      have D1_n := D1.keep hKp
      have D2_n := D2.keep hKp
      have Jr_n := Jr.keep hKp
      have BB_n := below_store3 (R := w.heap.size) BB (by omega) (.bool pj) (.slice aj nj cj) (.slice a2 n2 c2)
      clear hKp
      obtain ⟨q1,q2,q3,q4,q5,q6⟩ := id VR
      go_wp2
      (try simp only [Exit.inBlock,Exit.then])
      refine bodyPost_ret (v := .tuple #[.agg #[.bool pj,.slice aj nj cj,.slice a2 n2 c2],.int .i64 0]) (by simp [results,go_sem,q1,q2,q3]) rfl ?_
      exact ⟨_,_,_,_,_,_,_,by rw [HE2.out],fun _ => ⟨_,_,⟨_,_,_,_,_,_,_,rfl,Jr_n,D2_n,HY.out,by rw [zof_abs]; exact HL1.out.1,HL1.out.2⟩,HQ1.out⟩,BB_n⟩
    ·have h4 : errN (t.extract (o + 1) t.size) = 4 := by unfold errN at he2 ⊢; split at he2 <;> simp_all
     have HE1 : Hid (er = 4) := by show _ = _; rw [HE.out,HP.out]; simp [HT.out,h4]
     rw [h4]
     clear h4 he2
     have hKp := VR.keepJ (.bool false) (.slice none 0 0) (.slice none 0 0)
     have D1_n := D1.keep hKp
     have D2_n := D2.keep hKp
     have BB_n := below_store3 (R := w.heap.size) BB (by omega) (.bool false) (.slice none 0 0) (.slice none 0 0)
     clear hKp
     obtain ⟨q1,q2,q3,q4,q5,q6⟩ := id VR
     go_wp2
     (try simp only [Exit.inBlock,Exit.then])
     refine bodyPost_ret (v := .tuple #[.agg #[.bool false,.slice none 0 0,.slice none 0 0],.int .i64 4]) (by simp [results,go_sem,q1,q2,q3]) rfl ?_
     exact ⟨_,_,_,_,_,_,_,by rw [HE1.out],fun h => absurd (HE1.out ▸ h) (by omega),BB_n⟩
   ·have h4 : errN (t.extract 0 o) = 4 := by unfold errN at he1 ⊢; split at he1 <;> simp_all
    have HE1 : Hid (er = 4) := by show _ = _; rw [HE.out,HP.out]; simp [twoErr,h4]
    rw [h4]
    clear h4 he1
    have hKp := VR.keepJ (.bool false) (.slice none 0 0) (.slice none 0 0)
    have D1_n := D1.keep hKp
    have BB_n := below_store3 (R := w.heap.size) BB (by omega) (.bool false) (.slice none 0 0) (.slice none 0 0)
    clear hKp
    obtain ⟨q1,q2,q3,q4,q5,q6⟩ := id VR
    go_wp2
    (try simp only [Exit.inBlock,Exit.then])
    refine bodyPost_ret (v := .tuple #[.agg #[.bool false,.slice none 0 0,.slice none 0 0],.int .i64 4]) (by simp [results,go_sem,q1,q2,q3]) rfl ?_
    exact ⟨_,_,_,_,_,_,_,by rw [HE1.out],fun h => absurd (HE1.out ▸ h) (by omega),BB_n⟩
 | false =>
  rw [hn] at HQ
  have HT : pdig s = s := pdig_neg hn
  rw [HT] at HE HQ
  clear HT
  have hts : s.size ≤ 120 := hs
  by_cases h0 : 0 < s.size
  ·have h45 : (s[0] == 45) = false := by
    unfold pneg at hn; rw [decide_eq_true h0,byte_at s 0 h0] at hn; simpa using hn
   have h45' : ((s[0].toNat : Int) == 45) = false := by rw [u8_eq]; exact h45
   have hc : (0 : Int) < (s.size : Int) := by omega
   have BB : Below w.heap.size w w := Below.refl _ _
   obtain ⟨Wb0,hW0,hS0,hL0,VR⟩ := V3.lay w 38 (.bool false) (.slice none 0 0) (.slice none 0 0)
   replace BB := BB.trans (hL0.mono BB.size)
   clear hL0
   go_enter Tryz.func10,Tryz.ntmps10
   go_wp2_with fail
   rw [← hW0]
   clear hW0 hS0
   clear hn h45 h45' hc
   refine (dcut47 s _ (by omega)).mono ?_
   rintro e wx ⟨rfl,hwx⟩
   replace hwx := hwx.symm
   subst hwx
   rcases firstAt_cases s 47 with h47 | ⟨o,h47⟩
   ·rw [h47]
    go_wp2_with fail
    refine (dcut46 s _ (by omega)).mono ?_
    rintro e wx ⟨rfl,hwx⟩
    replace hwx := hwx.symm
    subst hwx
    rcases firstAt_cases s 46 with h46 | ⟨o,h46⟩
    ·have HP : Hid (ppOf s = (errN s,nval s,1)) := by show _ = _; unfold ppOf; rw [h47,h46,if_neg (by omega),if_neg (by omega)]
     rw [h46]
     clear h46 h47
     go_wp2_with fail
     refine (refParse_at s _ (by omega)).mono ?_
     rintro e w1 ⟨ao,n1,c1,rfl,D1,b1⟩
     replace VR := VR.below b1
     replace BB := BB.trans (b1.mono BB.size)
     clear b1
     have he : errN s = 0 ∨ errN s = 4 := by unfold errN; split <;> simp
     have HE1 : Hid (er = errN s) := by show _ = _; rw [HE.out,HP.out]; rcases he with he | he <;> simp [he]
     have HQ1 : Hid (q = mkRat (zof false (nval s)) 1) := by show _ = _; rw [HQ.out,HP.out]
     have HL1 : Hid (nl W32 (nval s) ≤ 250) := by have := (pp_small s hts).1; rw [HP.out] at this; exact this
     generalize errN s = ee at *
     generalize nval s = x at *
     clear he
     go_wp2_with fail
     refine (rmake_any false _ x _ D1).mono ?_
     rintro e w2 ⟨rj,rfl,Jr,b2⟩
     replace D1 := D1.below b2
     replace VR := VR.below b2
     replace BB := BB.trans (b2.mono BB.size)
     clear b2
     obtain ⟨pj,aj,nj,cj,rfl⟩ := Jr.open
     go_wp2_with fail
     refine (small_any 1 _ (by omega)).mono ?_
     rintro e w3 ⟨rd,rfl,Dd,b3⟩
     replace D1 := D1.below b3
     replace Jr := Jr.below b3
     replace VR := VR.below b3
     replace BB := BB.trans (b3.mono BB.size)
     clear b3
     obtain ⟨ad,cd,rfl⟩ := Dd.open
     have hKp := VR.keepJ (.bool pj) (.slice aj nj cj) (.slice ad (nl 10000 1) cd)
     have D1_n := D1.keep hKp
     have Jr_n := Jr.keep hKp
     have Dd_n := Dd.keep hKp
     have BB_n := below_store3 (R := w.heap.size) BB (by omega) (.bool pj) (.slice aj nj cj) (.slice ad (nl 10000 1) cd)
     clear hKp
     obtain ⟨q1,q2,q3,q4,q5,q6⟩ := id VR
     go_wp2
     (try simp only [Exit.inBlock,Exit.then])
     refine bodyPost_ret (v := .tuple #[.agg #[.bool pj,.slice aj nj cj,.slice ad (nl 10000 1) cd],.int .i64 ee]) (by simp [results,go_sem,q1,q2,q3]) rfl ?_
     exact ⟨_,_,_,_,_,_,_,by rw [HE1.out],fun _ => ⟨_,_,⟨_,_,_,_,_,_,_,rfl,Jr_n,Dd_n,by omega,Nat.le_trans (by rw [zof_abs]; exact HL1.out) (Nat.le_refl _),Nat.le_trans nlw_one (by omega)⟩,HQ1.out⟩,BB_n⟩
    ·have ho := firstAt_lt s 46 o h46
     have HP : Hid (ppOf s = (twoErr (s.extract 0 o) (s.extract (o + 1) s.size),nval (s.extract 0 o) * 10 ^ (s.extract (o + 1) s.size).size + nval (s.extract (o + 1) s.size),10 ^ (s.extract (o + 1) s.size).size)) := by show _ = _; unfold ppOf; rw [h47,h46,if_neg (by omega),if_pos (by omega),Int.toNat_natCast]
     have x0 := ext_le s 0 o
     have x1 := ext_le s (o + 1) s.size
     have o1 : (0 : Int) ≤ (o : Int) := by omega
     have o2 : (o : Int) ≤ (s.size : Int) := by omega
     have o3 : (0 : Int) ≤ (o : Int) + 1 := by omega
     have o4 : (o : Int) + 1 ≤ (s.size : Int) := by omega
     have o5 : ¬ (o : Int) < 0 := by omega
     have HL : Hid _ := pp_small s hts
     have hz : (s.extract (o + 1) s.size).size = s.size - (o + 1) := by rw [ByteArray.size_extract]; omega
     have HZ : Hid ((s.extract (o + 1) s.size).size = s.size - (o + 1)) := hz
     clear hz
     rw [h46]
     clear h46 h47
     go_wp2_with fail
     refine (refParse_at _ _ (by omega)).mono ?_
     rintro e w11 ⟨a1,n1,c1,rfl,D1,b11⟩
     replace VR := VR.below b11
     replace BB := BB.trans (b11.mono BB.size)
     clear b11
     by_cases he1 : errN (s.extract 0 o) = 0
     ·have HT : Hid (twoErr (s.extract 0 o) (s.extract (o + 1) s.size) = errN (s.extract (o + 1) s.size)) := by show _ = _; unfold twoErr; rw [if_pos he1]
      rw [he1]
      clear he1
      go_wp2_with fail
      refine (refParse_at _ _ (by omega)).mono ?_
      rintro e w12 ⟨a2,n2,c2,rfl,D2,b12⟩
      replace D1 := D1.below b12
      replace VR := VR.below b12
      replace BB := BB.trans (b12.mono BB.size)
      clear b12
      by_cases he2 : errN (s.extract (o + 1) s.size) = 0
      ·rw [he2]
       have hte : (s.size : Int) - (o : Int) - 1 = ((s.size - (o + 1) : Nat) : Int) := by omega
       have ht2 : IntKind.i64.wrap ((s.size : Int) - (o : Int)) = (s.size : Int) - (o : Int) := by rw [IntKind.wrap_i64]; omega
       have htw : IntKind.i64.wrap ((s.size : Int) - (o : Int) - 1) = ((s.size - (o + 1) : Nat) : Int) := by rw [IntKind.wrap_i64]; omega
       have HE1 : Hid (er = 0) := by show _ = _; rw [HE.out,HP.out]; simp [HT.out,he2]
       rw [HZ.out] at HP
       have HQ1 : Hid (q = mkRat (zof false (nval (s.extract 0 o) * 10 ^ (s.size - (o + 1)) + nval (s.extract (o + 1) s.size))) (10 ^ (s.size - (o + 1)))) := by show _ = _; rw [HQ.out,HP.out]
       have HL1 : Hid (nl W32 (nval (s.extract 0 o) * 10 ^ (s.size - (o + 1)) + nval (s.extract (o + 1) s.size)) ≤ 250 ∧ nl W32 (10 ^ (s.size - (o + 1))) ≤ 250) := by have := HL.out; rw [HP.out] at this; exact this
       have l1 : nl 10000 (nval (s.extract 0 o)) ≤ 1000000 := nl10_of (Nat.le_trans (nval_nl _) (by omega))
       have l2 : nl 10000 (nval (s.extract (o + 1) s.size)) ≤ 1000000 := nl10_of (Nat.le_trans (nval_nl _) (by omega))
       have l3 := nl10_of HL1.out.2
       have l4 : nl 10000 (nval (s.extract 0 o) * 10 ^ (s.size - (o + 1))) ≤ 1000000 := Nat.le_trans (nl_mono 10000 _ _ (by decide) (Nat.le_add_right _ _)) (nl10_of HL1.out.1)
       have hpw : Hid (0 < 10 ^ (s.size - (o + 1))) := Nat.pow_pos (by omega)
       have ht120 : s.size - (o + 1) ≤ 1000 := by omega
       clear he2 HT HP HL
       generalize nval (s.extract 0 o) = x at *
       generalize nval (s.extract (o + 1) s.size) = y at *
       generalize hd : s.size - (o + 1) = dd at *
       go_wp2_with fail
       refine (small_any 10 _ (by omega)).mono ?_
       rintro e w13 ⟨r5,rfl,D5,b13⟩
       replace D1 := D1.below b13
       replace D2 := D2.below b13
       replace VR := VR.below b13
       replace BB := BB.trans (b13.mono BB.size)
       clear b13
       go_wp2_with fail
       refine (refPower_far _ 10 dd _ D5 (by decide) ht120).mono ?_
       rintro e w14 ⟨r6,rfl,D6,b14⟩
       replace D1 := D1.below b14
       replace D2 := D2.below b14
       replace D5 := D5.below b14
       replace VR := VR.below b14
       replace BB := BB.trans (b14.mono BB.size)
       clear b14
       obtain ⟨a6,c6,h6⟩ := D6.open
       subst h6
       generalize 10 ^ dd = ten at *
       go_wp2_with fail
       refine (times_any _ _ x ten _ D1 D6 l1 l3).mono ?_
       rintro e w15 ⟨r7,rfl,D7,b15⟩
       replace D1 := D1.below b15
       replace D2 := D2.below b15
       replace D5 := D5.below b15
       replace D6 := D6.below b15
       replace VR := VR.below b15
       replace BB := BB.trans (b15.mono BB.size)
       clear b15
       go_wp2_with fail
       refine (plus_any _ _ (x * ten) y _ D7 D2 l4 l2).mono ?_
       rintro e w16 ⟨r8,rfl,D8,b16⟩
       replace D1 := D1.below b16
       replace D2 := D2.below b16
       replace D5 := D5.below b16
       replace D6 := D6.below b16
       replace D7 := D7.below b16
       replace VR := VR.below b16
       replace BB := BB.trans (b16.mono BB.size)
       clear b16
       go_wp2_with fail
       refine (rmake_any false _ (x * ten + y) _ D8).mono ?_
       rintro e w17 ⟨rj,rfl,Jr,b17⟩
       replace D1 := D1.below b17
       replace D2 := D2.below b17
       replace D5 := D5.below b17
       replace D6 := D6.below b17
       replace D7 := D7.below b17
       replace D8 := D8.below b17
       replace VR := VR.below b17
       replace BB := BB.trans (b17.mono BB.size)
       clear b17
       obtain ⟨pj,aj,nj,cj,rfl⟩ := Jr.open
       have hKp := VR.keepJ (.bool pj) (.slice aj nj cj) (.slice a6 (nl 10000 ten) c6)
       have D1_n := D1.keep hKp
       have D2_n := D2.keep hKp
       have D5_n := D5.keep hKp
       have D6_n := D6.keep hKp
       have D7_n := D7.keep hKp
       have D8_n := D8.keep hKp
       have Jr_n := Jr.keep hKp
       have BB_n := below_store3 (R := w.heap.size) BB (by omega) (.bool pj) (.slice aj nj cj) (.slice a6 (nl 10000 ten) c6)
       clear hKp
       obtain ⟨q1,q2,q3,q4,q5,q6⟩ := id VR
       go_wp2
       (try simp only [Exit.inBlock,Exit.then])
       refine bodyPost_ret (v := .tuple #[.agg #[.bool pj,.slice aj nj cj,.slice a6 (nl 10000 ten) c6],.int .i64 0]) (by simp [results,go_sem,q1,q2,q3]) rfl ?_
       exact ⟨_,_,_,_,_,_,_,by rw [HE1.out],fun _ => ⟨_,_,⟨_,_,_,_,_,_,_,rfl,Jr_n,D6_n,hpw.out,by rw [zof_abs]; exact HL1.out.1,HL1.out.2⟩,HQ1.out⟩,BB_n⟩
      ·have h4 : errN (s.extract (o + 1) s.size) = 4 := by unfold errN at he2 ⊢; split at he2 <;> simp_all
       have HE1 : Hid (er = 4) := by show _ = _; rw [HE.out,HP.out]; simp [HT.out,h4]
       rw [h4]
       clear h4 he2
       have hKp := VR.keepJ (.bool false) (.slice none 0 0) (.slice none 0 0)
       have D1_n := D1.keep hKp
       have D2_n := D2.keep hKp
       have BB_n := below_store3 (R := w.heap.size) BB (by omega) (.bool false) (.slice none 0 0) (.slice none 0 0)
       clear hKp
       obtain ⟨q1,q2,q3,q4,q5,q6⟩ := id VR
       go_wp2
       (try simp only [Exit.inBlock,Exit.then])
       refine bodyPost_ret (v := .tuple #[.agg #[.bool false,.slice none 0 0,.slice none 0 0],.int .i64 4]) (by simp [results,go_sem,q1,q2,q3]) rfl ?_
       exact ⟨_,_,_,_,_,_,_,by rw [HE1.out],fun h => absurd (HE1.out ▸ h) (by omega),BB_n⟩
     ·have h4 : errN (s.extract 0 o) = 4 := by unfold errN at he1 ⊢; split at he1 <;> simp_all
      have HE1 : Hid (er = 4) := by show _ = _; rw [HE.out,HP.out]; simp [twoErr,h4]
      rw [h4]
      clear h4 he1
      have hKp := VR.keepJ (.bool false) (.slice none 0 0) (.slice none 0 0)
      have D1_n := D1.keep hKp
      have BB_n := below_store3 (R := w.heap.size) BB (by omega) (.bool false) (.slice none 0 0) (.slice none 0 0)
      clear hKp
      obtain ⟨q1,q2,q3,q4,q5,q6⟩ := id VR
      go_wp2
      (try simp only [Exit.inBlock,Exit.then])
      refine bodyPost_ret (v := .tuple #[.agg #[.bool false,.slice none 0 0,.slice none 0 0],.int .i64 4]) (by simp [results,go_sem,q1,q2,q3]) rfl ?_
      exact ⟨_,_,_,_,_,_,_,by rw [HE1.out],fun h => absurd (HE1.out ▸ h) (by omega),BB_n⟩
   ·have ho := firstAt_lt s 47 o h47
    have HP : Hid (ppOf s = (twoErr (s.extract 0 o) (s.extract (o + 1) s.size),nval (s.extract 0 o),nval (s.extract (o + 1) s.size))) := by show _ = _; unfold ppOf; rw [h47,if_pos (by omega),Int.toNat_natCast]
    have x0 := ext_le s 0 o
    have x1 := ext_le s (o + 1) s.size
    have o1 : (0 : Int) ≤ (o : Int) := by omega
    have o2 : (o : Int) ≤ (s.size : Int) := by omega
    have o3 : (0 : Int) ≤ (o : Int) + 1 := by omega
    have o4 : (o : Int) + 1 ≤ (s.size : Int) := by omega
    have o5 : ¬ (o : Int) < 0 := by omega
    have HL : Hid _ := pp_small s hts
    have hz : (s.extract (o + 1) s.size).size = s.size - (o + 1) := by rw [ByteArray.size_extract]; omega
    have HZ : Hid ((s.extract (o + 1) s.size).size = s.size - (o + 1)) := hz
    clear hz
    rw [h47]
    clear h47
    go_wp2_with fail
    refine (dcut46 s _ (by omega)).mono ?_
    rintro e wx ⟨rfl,hwx⟩
    replace hwx := hwx.symm
    subst hwx
    generalize firstAt s 46 = z46
    go_wp2_with fail
    refine (refParse_at _ _ (by omega)).mono ?_
    rintro e w21 ⟨a1,n1,c1,rfl,D1,b21⟩
    replace VR := VR.below b21
    replace BB := BB.trans (b21.mono BB.size)
    clear b21
    by_cases he1 : errN (s.extract 0 o) = 0
    ·have HT : Hid (twoErr (s.extract 0 o) (s.extract (o + 1) s.size) = errN (s.extract (o + 1) s.size)) := by show _ = _; unfold twoErr; rw [if_pos he1]
     rw [he1]
     clear he1
     go_wp2_with fail
     refine (refParse_at _ _ (by omega)).mono ?_
     rintro e w22 ⟨a2,n2,c2,rfl,D2,b22⟩
     replace D1 := D1.below b22
     replace VR := VR.below b22
     replace BB := BB.trans (b22.mono BB.size)
     clear b22
     by_cases he2 : errN (s.extract (o + 1) s.size) = 0
     ·rw [he2]
      have HE1 : Hid (er = if nval (s.extract (o + 1) s.size) = 0 then 2 else 0) := by show _ = _; rw [HE.out,HP.out]; simp [HT.out,he2]
      have HQ1 : Hid (q = mkRat (zof false (nval (s.extract 0 o))) (nval (s.extract (o + 1) s.size))) := by show _ = _; rw [HQ.out,HP.out]
      replace HL : Hid _ := HL.out
      have HL1 : Hid (nl W32 (nval (s.extract 0 o)) ≤ 250 ∧ nl W32 (nval (s.extract (o + 1) s.size)) ≤ 250) := by have := HL.out; rw [HP.out] at this; exact this
      clear he2 HT HP HL
      generalize nval (s.extract 0 o) = x at *
      generalize nval (s.extract (o + 1) s.size) = y at *
      obtain ⟨a3,c3,h3⟩ := D2.open
      have hn2 : n2 = nl 10000 y := by injection h3
      by_cases hy : y = 0
      ·have hn0 : n2 = 0 := by rw [hn2,hy]; exact nl_zero _
       subst hn0
       have HE2 : Hid (er = 2) := by show _ = _; rw [HE1.out,if_pos hy]
       clear hy h3 hn2
       have hKp := VR.keepJ (.bool false) (.slice none 0 0) (.slice none 0 0)
       have D1_n := D1.keep hKp
       have D2_n := D2.keep hKp
       have BB_n := below_store3 (R := w.heap.size) BB (by omega) (.bool false) (.slice none 0 0) (.slice none 0 0)
       clear hKp
       obtain ⟨q1,q2,q3,q4,q5,q6⟩ := id VR
       go_wp2
       (try simp only [Exit.inBlock,Exit.then])
       refine bodyPost_ret (v := .tuple #[.agg #[.bool false,.slice none 0 0,.slice none 0 0],.int .i64 2]) (by simp [results,go_sem,q1,q2,q3]) rfl ?_
       exact ⟨_,_,_,_,_,_,_,by rw [HE2.out],fun h => absurd (HE2.out ▸ h) (by omega),BB_n⟩
      ·have hn0 : ((n2 : Int) == 0) = false := by
        have : ¬ nl 10000 y = 0 := fun e => hy ((nl_eq_zero 10000 y (by omega)).1 e)
        simp; omega
       have HE2 : Hid (er = 0) := by show _ = _; rw [HE1.out,if_neg hy]
       have HY : Hid (0 < y) := by show 0 < y; omega
       clear hy h3 hn2
       go_wp2_with fail
       refine (rmake_any false _ x _ D1).mono ?_
       rintro e w23 ⟨rj,rfl,Jr,b23⟩
       replace D1 := D1.below b23
       replace D2 := D2.below b23
       replace VR := VR.below b23
       replace BB := BB.trans (b23.mono BB.size)
       clear b23
       obtain ⟨pj,aj,nj,cj,rfl⟩ := Jr.open
       have hKp := VR.keepJ (.bool pj) (.slice aj nj cj) (.slice a2 n2 c2)
       have D1_n := D1.keep hKp
       have D2_n := D2.keep hKp
       have Jr_n := Jr.keep hKp
       have BB_n := below_store3 (R := w.heap.size) BB (by omega) (.bool pj) (.slice aj nj cj) (.slice a2 n2 c2)
       clear hKp
       obtain ⟨q1,q2,q3,q4,q5,q6⟩ := id VR
       go_wp2
       (try simp only [Exit.inBlock,Exit.then])
       refine bodyPost_ret (v := .tuple #[.agg #[.bool pj,.slice aj nj cj,.slice a2 n2 c2],.int .i64 0]) (by simp [results,go_sem,q1,q2,q3]) rfl ?_
       exact ⟨_,_,_,_,_,_,_,by rw [HE2.out],fun _ => ⟨_,_,⟨_,_,_,_,_,_,_,rfl,Jr_n,D2_n,HY.out,by rw [zof_abs]; exact HL1.out.1,HL1.out.2⟩,HQ1.out⟩,BB_n⟩
     ·have h4 : errN (s.extract (o + 1) s.size) = 4 := by unfold errN at he2 ⊢; split at he2 <;> simp_all
      have HE1 : Hid (er = 4) := by show _ = _; rw [HE.out,HP.out]; simp [HT.out,h4]
      rw [h4]
      clear h4 he2
      have hKp := VR.keepJ (.bool false) (.slice none 0 0) (.slice none 0 0)
      have D1_n := D1.keep hKp
      have D2_n := D2.keep hKp
      have BB_n := below_store3 (R := w.heap.size) BB (by omega) (.bool false) (.slice none 0 0) (.slice none 0 0)
      clear hKp
      obtain ⟨q1,q2,q3,q4,q5,q6⟩ := id VR
      go_wp2
      (try simp only [Exit.inBlock,Exit.then])
      refine bodyPost_ret (v := .tuple #[.agg #[.bool false,.slice none 0 0,.slice none 0 0],.int .i64 4]) (by simp [results,go_sem,q1,q2,q3]) rfl ?_
      exact ⟨_,_,_,_,_,_,_,by rw [HE1.out],fun h => absurd (HE1.out ▸ h) (by omega),BB_n⟩
    ·have h4 : errN (s.extract 0 o) = 4 := by unfold errN at he1 ⊢; split at he1 <;> simp_all
     have HE1 : Hid (er = 4) := by show _ = _; rw [HE.out,HP.out]; simp [twoErr,h4]
     rw [h4]
     clear h4 he1
     have hKp := VR.keepJ (.bool false) (.slice none 0 0) (.slice none 0 0)
     have D1_n := D1.keep hKp
     have BB_n := below_store3 (R := w.heap.size) BB (by omega) (.bool false) (.slice none 0 0) (.slice none 0 0)
     clear hKp
     obtain ⟨q1,q2,q3,q4,q5,q6⟩ := id VR
     go_wp2
     (try simp only [Exit.inBlock,Exit.then])
     refine bodyPost_ret (v := .tuple #[.agg #[.bool false,.slice none 0 0,.slice none 0 0],.int .i64 4]) (by simp [results,go_sem,q1,q2,q3]) rfl ?_
     exact ⟨_,_,_,_,_,_,_,by rw [HE1.out],fun h => absurd (HE1.out ▸ h) (by omega),BB_n⟩
  ·have hc : ¬ (0 : Int) < (s.size : Int) := by omega
   have BB : Below w.heap.size w w := Below.refl _ _
   obtain ⟨Wb0,hW0,hS0,hL0,VR⟩ := V3.lay w 38 (.bool false) (.slice none 0 0) (.slice none 0 0)
   replace BB := BB.trans (hL0.mono BB.size)
   clear hL0
   go_enter Tryz.func10,Tryz.ntmps10
   go_wp2_with fail
   rw [← hW0]
   clear hW0 hS0
   clear hn hc
   refine (dcut47 s _ (by omega)).mono ?_
   rintro e wx ⟨rfl,hwx⟩
   replace hwx := hwx.symm
   subst hwx
   rcases firstAt_cases s 47 with h47 | ⟨o,h47⟩
   ·rw [h47]
    go_wp2_with fail
    refine (dcut46 s _ (by omega)).mono ?_
    rintro e wx ⟨rfl,hwx⟩
    replace hwx := hwx.symm
    subst hwx
    rcases firstAt_cases s 46 with h46 | ⟨o,h46⟩
    ·have HP : Hid (ppOf s = (errN s,nval s,1)) := by show _ = _; unfold ppOf; rw [h47,h46,if_neg (by omega),if_neg (by omega)]
     rw [h46]
     clear h46 h47
     go_wp2_with fail
     refine (refParse_at s _ (by omega)).mono ?_
     rintro e w1 ⟨ao,n1,c1,rfl,D1,b1⟩
     replace VR := VR.below b1
     replace BB := BB.trans (b1.mono BB.size)
     clear b1
     have he : errN s = 0 ∨ errN s = 4 := by unfold errN; split <;> simp
     have HE1 : Hid (er = errN s) := by show _ = _; rw [HE.out,HP.out]; rcases he with he | he <;> simp [he]
     have HQ1 : Hid (q = mkRat (zof false (nval s)) 1) := by show _ = _; rw [HQ.out,HP.out]
     have HL1 : Hid (nl W32 (nval s) ≤ 250) := by have := (pp_small s hts).1; rw [HP.out] at this; exact this
     generalize errN s = ee at *
     generalize nval s = x at *
     clear he
     go_wp2_with fail
     refine (rmake_any false _ x _ D1).mono ?_
     rintro e w2 ⟨rj,rfl,Jr,b2⟩
     replace D1 := D1.below b2
     replace VR := VR.below b2
     replace BB := BB.trans (b2.mono BB.size)
     clear b2
     obtain ⟨pj,aj,nj,cj,rfl⟩ := Jr.open
     go_wp2_with fail
     refine (small_any 1 _ (by omega)).mono ?_
     rintro e w3 ⟨rd,rfl,Dd,b3⟩
     replace D1 := D1.below b3
     replace Jr := Jr.below b3
     replace VR := VR.below b3
     replace BB := BB.trans (b3.mono BB.size)
     clear b3
     obtain ⟨ad,cd,rfl⟩ := Dd.open
     have hKp := VR.keepJ (.bool pj) (.slice aj nj cj) (.slice ad (nl 10000 1) cd)
     have D1_n := D1.keep hKp
     have Jr_n := Jr.keep hKp
     have Dd_n := Dd.keep hKp
     have BB_n := below_store3 (R := w.heap.size) BB (by omega) (.bool pj) (.slice aj nj cj) (.slice ad (nl 10000 1) cd)
     clear hKp
     obtain ⟨q1,q2,q3,q4,q5,q6⟩ := id VR
     go_wp2
     (try simp only [Exit.inBlock,Exit.then])
     refine bodyPost_ret (v := .tuple #[.agg #[.bool pj,.slice aj nj cj,.slice ad (nl 10000 1) cd],.int .i64 ee]) (by simp [results,go_sem,q1,q2,q3]) rfl ?_
     exact ⟨_,_,_,_,_,_,_,by rw [HE1.out],fun _ => ⟨_,_,⟨_,_,_,_,_,_,_,rfl,Jr_n,Dd_n,by omega,Nat.le_trans (by rw [zof_abs]; exact HL1.out) (Nat.le_refl _),Nat.le_trans nlw_one (by omega)⟩,HQ1.out⟩,BB_n⟩
    ·exact absurd (firstAt_lt s 46 o h46) (by omega)
   ·exact absurd (firstAt_lt s 47 o h47) (by omega)
end Go.Proofs.YtmbmboiefhmfmaaGreatDoor
