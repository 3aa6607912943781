/-
  Texts of mine.
-/
import Derived.Test.YthkamfddbiheoaaGreatDoorJ8f906ac881
import Derived.Lib.Bytealg
import Derived.Lib.IndexLaws
import Derived.Deep.Cut
namespace Go.Proofs.YthkamfddbiheoaaGreatDoor
open Go.RowKit
set_option linter.unusedVariables false
set_option linter.unusedSimpArgs false

/-- Where a byte stands first; -1: nowhere. -/
def firstAt (s : ByteArray) (c : Nat) : Int := Lib.indexByte s.data.toList c.toUInt8
theorem firstAt_one (c : Nat) (s : ByteArray) (h : [c.toUInt8] = s.toList) : firstAt s c = 0 := by
 rw [Lib.toList_data] at h; unfold firstAt; rw [← h]; simp [Lib.indexByte]
theorem firstAt_lt (s : ByteArray) (c i : Nat) (h : firstAt s c = (i : Int)) : i < s.size := by
 have h1 := (Lib.indexByte_some h).1
 have h2 := (List.getElem?_eq_some_iff.1 h1).1
 simpa using h2
theorem firstAt_cases (s : ByteArray) (c : Nat) : firstAt s c = -1 ∨ ∃ i : Nat, firstAt s c = (i : Int) := by
 have h := Lib.indexByte_ge s.data.toList c.toUInt8
 by_cases g : firstAt s c = -1
 ·exact .inl g
 ·exact .inr ⟨(firstAt s c).toNat, by unfold firstAt at *; omega⟩

set_option maxRecDepth 100000 in
set_option maxHeartbeats 1000000 in
theorem indexByte_at (s : ByteArray) (c : Nat) (w : World) : Calls Tryz.prog 191 #[.string s, .int .u8 (c : Int)] w fun e w' => e = .returned (.int .i64 (firstAt s c)) ∧ w' = w := by
 go_enter Tryz.func191, Tryz.ntmps191
 go_wp2
 rw [run_callFunc_extern Tryz.func206 (by kernel_rfl) (by kernel_rfl) (by kernel_rfl) (e := Extern.BytealgIndexByte.indexByte) (by kernel_rfl), Lib.run_indexByteString]
 simp only [Result.andThen]
 rw [Oper.upon_value]
 go_wp2
 go_ret
 exact ⟨rfl, rfl⟩


set_option maxRecDepth 100000 in
set_option maxHeartbeats 2000000 in
theorem index47_at (s : ByteArray) (w : World) : Calls Tryz.prog 162 #[.string s, .string { data := #[47] }] w fun e w' => e = .returned (.int .i64 (firstAt s 47)) ∧ w' = w := by
 by_cases hs : ([47] : List UInt8) = s.toList
 ·have h1 := firstAt_one 47 s hs
  have hb : (([47] : List UInt8) == s.toList) = true := by simp [← hs]
  rw [h1]
  clear h1 hs
  go_enter Tryz.func162, Tryz.ntmps162
  go_wp2
  go_ret
  exact ⟨rfl, rfl⟩
 ·have hb : (([47] : List UInt8) == s.toList) = false := by simpa using hs
  clear hs
  go_enter Tryz.func162, Tryz.ntmps162
  go_wp2_with fail
  refine (indexByte_at s 47 _).mono ?_
  rintro e w1 ⟨rfl, hw⟩
  subst hw
  go_wp2
  go_ret
  exact ⟨rfl, rfl⟩
set_option maxRecDepth 20000 in
set_option maxHeartbeats 1000000 in
theorem cut47_miss (s : ByteArray) (w : World) (h : firstAt s 47 = -1) : Calls Tryz.prog 77 #[.string s, .string { data := #[47] }] w fun e w' => e = .returned (.tuple #[.string s, .string { data := #[] }, .bool false]) ∧ Below w.heap.size w w' := by
 have h1 : Calls Tryz.prog 112 #[.string s, .string { data := #[47] }] w fun e w' => e = .returned (.tuple #[.string s, .string { data := #[] }, .bool false]) ∧ Below w.heap.size w w' := by
  go_enter Tryz.func112, Tryz.ntmps112
  go_wp2_with fail
  refine (index47_at s _).mono ?_
  rintro e w1 ⟨rfl, hw⟩
  replace hw := hw.symm
  subst hw
  rw [h]
  go_wp2
  go_ret3
  exact ⟨rfl, Below.refl _ _⟩
 go_enter Tryz.func77, Tryz.ntmps77
 go_wp2_with fail
 refine h1.mono ?_
 rintro e w2 ⟨rfl, hb⟩
 go_wp2
 go_ret3
 exact ⟨rfl, hb⟩
set_option maxRecDepth 20000 in
set_option maxHeartbeats 1000000 in
theorem cut47_hit (s : ByteArray) (i : Nat) (w : World) (h : firstAt s 47 = (i : Int)) (hl : s.size ≤ 1000000) : Calls Tryz.prog 77 #[.string s, .string { data := #[47] }] w fun e w' => e = .returned (.tuple #[.string (s.extract 0 i), .string (s.extract (i + 1) s.size), .bool true]) ∧ Below w.heap.size w w' := by
 have hi := firstAt_lt s 47 i h
 have h1 : Calls Tryz.prog 112 #[.string s, .string { data := #[47] }] w fun e w' => e = .returned (.tuple #[.string (s.extract 0 i), .string (s.extract (i + 1) s.size), .bool true]) ∧ Below w.heap.size w w' := by
  have c1 : (0 : Int) ≤ (i : Int) := by omega
  have c2 : (i : Int) ≤ (s.size : Int) := by omega
  have c3 : (0 : Int) ≤ (i : Int) + 1 := by omega
  have c4 : (i : Int) + 1 ≤ (s.size : Int) := by omega
  have c5 : IntKind.i64.wrap ((i : Int) + 1) = (i : Int) + 1 := by rw [IntKind.wrap_i64]; omega
  go_enter Tryz.func112, Tryz.ntmps112
  go_wp2_with fail
  refine (index47_at s _).mono ?_
  rintro e w1 ⟨rfl, hw⟩
  replace hw := hw.symm
  subst hw
  rw [h]
  go_wp2
  go_region
  go_wp2
  go_ret3
  exact ⟨rfl, (Below.refl _ _).drew⟩
 go_enter Tryz.func77, Tryz.ntmps77
 go_wp2_with fail
 refine h1.mono ?_
 rintro e w2 ⟨rfl, hb⟩
 go_wp2
 go_ret3
 exact ⟨rfl, hb⟩


set_option maxRecDepth 100000 in
set_option maxHeartbeats 2000000 in
theorem index46_at (s : ByteArray) (w : World) : Calls Tryz.prog 162 #[.string s, .string { data := #[46] }] w fun e w' => e = .returned (.int .i64 (firstAt s 46)) ∧ w' = w := by
 by_cases hs : ([46] : List UInt8) = s.toList
 ·have h1 := firstAt_one 46 s hs
  have hb : (([46] : List UInt8) == s.toList) = true := by simp [← hs]
  rw [h1]
  clear h1 hs
  go_enter Tryz.func162, Tryz.ntmps162
  go_wp2
  go_ret
  exact ⟨rfl, rfl⟩
 ·have hb : (([46] : List UInt8) == s.toList) = false := by simpa using hs
  clear hs
  go_enter Tryz.func162, Tryz.ntmps162
  go_wp2_with fail
  refine (indexByte_at s 46 _).mono ?_
  rintro e w1 ⟨rfl, hw⟩
  subst hw
  go_wp2
  go_ret
  exact ⟨rfl, rfl⟩
set_option maxRecDepth 20000 in
set_option maxHeartbeats 1000000 in
theorem cut46_miss (s : ByteArray) (w : World) (h : firstAt s 46 = -1) : Calls Tryz.prog 77 #[.string s, .string { data := #[46] }] w fun e w' => e = .returned (.tuple #[.string s, .string { data := #[] }, .bool false]) ∧ Below w.heap.size w w' := by
 have h1 : Calls Tryz.prog 112 #[.string s, .string { data := #[46] }] w fun e w' => e = .returned (.tuple #[.string s, .string { data := #[] }, .bool false]) ∧ Below w.heap.size w w' := by
  go_enter Tryz.func112, Tryz.ntmps112
  go_wp2_with fail
  refine (index46_at s _).mono ?_
  rintro e w1 ⟨rfl, hw⟩
  replace hw := hw.symm
  subst hw
  rw [h]
  go_wp2
  go_ret3
  exact ⟨rfl, Below.refl _ _⟩
 go_enter Tryz.func77, Tryz.ntmps77
 go_wp2_with fail
 refine h1.mono ?_
 rintro e w2 ⟨rfl, hb⟩
 go_wp2
 go_ret3
 exact ⟨rfl, hb⟩
set_option maxRecDepth 20000 in
set_option maxHeartbeats 1000000 in
theorem cut46_hit (s : ByteArray) (i : Nat) (w : World) (h : firstAt s 46 = (i : Int)) (hl : s.size ≤ 1000000) : Calls Tryz.prog 77 #[.string s, .string { data := #[46] }] w fun e w' => e = .returned (.tuple #[.string (s.extract 0 i), .string (s.extract (i + 1) s.size), .bool true]) ∧ Below w.heap.size w w' := by
 have hi := firstAt_lt s 46 i h
 have h1 : Calls Tryz.prog 112 #[.string s, .string { data := #[46] }] w fun e w' => e = .returned (.tuple #[.string (s.extract 0 i), .string (s.extract (i + 1) s.size), .bool true]) ∧ Below w.heap.size w w' := by
  have c1 : (0 : Int) ≤ (i : Int) := by omega
  have c2 : (i : Int) ≤ (s.size : Int) := by omega
  have c3 : (0 : Int) ≤ (i : Int) + 1 := by omega
  have c4 : (i : Int) + 1 ≤ (s.size : Int) := by omega
  have c5 : IntKind.i64.wrap ((i : Int) + 1) = (i : Int) + 1 := by rw [IntKind.wrap_i64]; omega
  go_enter Tryz.func112, Tryz.ntmps112
  go_wp2_with fail
  refine (index46_at s _).mono ?_
  rintro e w1 ⟨rfl, hw⟩
  replace hw := hw.symm
  subst hw
  rw [h]
  go_wp2
  go_region
  go_wp2
  go_ret3
  exact ⟨rfl, (Below.refl _ _).drew⟩
 go_enter Tryz.func77, Tryz.ntmps77
 go_wp2_with fail
 refine h1.mono ?_
 rintro e w2 ⟨rfl, hb⟩
 go_wp2
 go_ret3
 exact ⟨rfl, hb⟩


/-- What nat.Parse says of a text. -/
def errN (s : ByteArray) : Int := if digitsB s = true then 0 else 4
theorem nparse_at (s : ByteArray) (w : World) (hl : s.size ≤ 10000) :
  Calls Tryz.prog 138 #[.string s] w fun e w' => ∃ v, e = .returned (.tuple #[v, .int .i64 (errN s)]) ∧ Rep w' v (if digitsB s = true then dval s s.size else 0) ∧ Below w.heap.size w w' := by
 unfold errN
 by_cases hd : digitsB s = true
 ·rw [if_pos hd, if_pos hd]
  refine (parse_yes s w hl hd).mono ?_
  rintro e w1 ⟨v, rfl, hv, hb⟩
  exact ⟨v, rfl, hv.rep, hb⟩
 ·rw [if_neg hd, if_neg hd]
  refine (parse_form s w (by simpa using hd)).mono ?_
  rintro e w1 ⟨rfl, hb⟩
  exact ⟨_, rfl, zero_form _, hb⟩
/-- The number that a text is. -/
def nval (s : ByteArray) : Nat := if digitsB s = true then dval s s.size else 0
theorem nval_nl (s : ByteArray) : nl W32 (nval s) ≤ s.size + 1 := by
 unfold nval
 split
 ·rename_i h
  simp only [digitsB, decide_eq_true_eq] at h
  exact Nat.le_trans (nl_mono W32 _ _ (by decide) (Nat.le_of_lt (dval_lt s s.size h.2))) (nl_ten s.size (s.size + 1) (by omega))
 ·rw [nl_zero]; omega


/-- What two texts are. -/
def twoErr (s t : ByteArray) : Int := if errN s = 0 then errN t else errN s


set_option maxRecDepth 20000 in
set_option maxHeartbeats 1000000 in
theorem parseTwo_at (s t : ByteArray) (w : World) (hs : s.size ≤ 10000) (ht : t.size ≤ 10000) :
  Calls Tryz.prog 137 #[.string s, .string t] w fun e w' => ∃ u v, e = .returned (.tuple #[u, v, .int .i64 (twoErr s t)]) ∧ (twoErr s t = 0 → Rep w' u (nval s) ∧ Rep w' v (nval t)) ∧ Below w.heap.size w w' := by
 have BB : Below w.heap.size w w := Below.refl _ _
 go_enter Tryz.func137, Tryz.ntmps137
 go_wp2_with fail
 refine (nparse_at s _ hs).mono ?_
 rintro e w1 ⟨v1, rfl, h1, b1⟩
 replace BB := BB.trans (b1.mono BB.size)
 clear b1
 by_cases hE : errN s = 0
 ·rw [hE]
  go_wp2_with fail
  refine (nparse_at t _ ht).mono ?_
  rintro e w2 ⟨v2, rfl, h2, b2⟩
  replace h1 := h1.below b2
  replace BB := BB.trans (b2.mono BB.size)
  clear b2
  have HT : Hid (twoErr s t = errN t) := by show _ = _; unfold twoErr; rw [if_pos hE]
  generalize errN t = E2 at *
  clear hE
  go_wp2
  go_ret3
  exact ⟨v1, v2, (by rw [HT.out]; rfl), fun _ => ⟨h1, h2⟩, BB⟩
 ·have HT : Hid (twoErr s t = 4) := by
   show _ = _
   unfold twoErr; rw [if_neg hE]; unfold errN at hE ⊢; split at hE <;> simp_all
  have h4 : errN s = 4 := by unfold errN at hE ⊢; split at hE <;> simp_all
  rw [h4]
  clear hE h4
  go_wp2
  go_ret3
  exact ⟨.slice none 0 0, .slice none 0 0, (by rw [HT.out]; rfl), fun h => (by rw [HT.out] at h; cases h), BB⟩


/-- What a text is: its error, the number above, the number below. -/
def ppOf (s : ByteArray) : Int × Nat × Nat :=
 if 0 ≤ firstAt s 47 then (twoErr (s.extract 0 (firstAt s 47).toNat) (s.extract ((firstAt s 47).toNat + 1) s.size), nval (s.extract 0 (firstAt s 47).toNat), nval (s.extract ((firstAt s 47).toNat + 1) s.size))
 else if 0 ≤ firstAt s 46 then (twoErr (s.extract 0 (firstAt s 46).toNat) (s.extract ((firstAt s 46).toNat + 1) s.size), nval (s.extract 0 (firstAt s 46).toNat) * 10 ^ (s.extract ((firstAt s 46).toNat + 1) s.size).size + nval (s.extract ((firstAt s 46).toNat + 1) s.size), 10 ^ (s.extract ((firstAt s 46).toNat + 1) s.size).size)
 else (errN s, nval s, 1)
theorem ext_le (s : ByteArray) (i j : Nat) : (s.extract i j).size ≤ s.size := by rw [ByteArray.size_extract]; omega


set_option maxRecDepth 20000 in
set_option maxHeartbeats 2000000 in
theorem parseParts_at (s : ByteArray) (w : World) (hs : s.size ≤ 9000) :
  Calls Tryz.prog 89 #[.string s] w fun e w' => ∃ u v, e = .returned (.tuple #[u, v, .int .i64 (ppOf s).1]) ∧ ((ppOf s).1 = 0 → Rep w' u (ppOf s).2.1 ∧ Rep w' v (ppOf s).2.2) ∧ Below w.heap.size w w' := by
 rcases firstAt_cases s 47 with h47 | ⟨i, h47⟩
 ·rcases firstAt_cases s 46 with h46 | ⟨j, h46⟩
  ·have HP : Hid (ppOf s = (errN s, nval s, 1)) := by show _ = _; unfold ppOf; rw [h47, h46, if_neg (by omega), if_neg (by omega)]
   have BB : Below w.heap.size w w := Below.refl _ _
   go_enter Tryz.func89, Tryz.ntmps89
   go_wp2_with fail
   refine (cut47_miss s _ h47).mono ?_
   rintro e w1 ⟨rfl, b1⟩
   replace BB := BB.trans (b1.mono BB.size)
   clear b1
   go_wp2_with fail
   refine (cut46_miss s _ h46).mono ?_
   rintro e w2 ⟨rfl, b2⟩
   replace BB := BB.trans (b2.mono BB.size)
   clear b2
   go_wp2_with fail
   refine (nparse_at s _ (by omega)).mono ?_
   rintro e w3 ⟨v1, rfl, h1, b3⟩
   replace BB := BB.trans (b3.mono BB.size)
   clear b3
   generalize errN s = E at *
   go_wp2_with fail
   refine (nof_at 1 _ (by omega)).mono ?_
   rintro e w4 ⟨v2, rfl, h2, b4⟩
   replace h1 := h1.below b4
   replace BB := BB.trans (b4.mono BB.size)
   clear b4
   go_wp2
   go_ret3
   exact ⟨v1, v2, (by rw [HP.out]; rfl), fun _ => (by rw [HP.out]; exact ⟨h1, h2⟩), BB⟩
  ·have HP : Hid (ppOf s = (twoErr (s.extract 0 j) (s.extract (j + 1) s.size), nval (s.extract 0 j) * 10 ^ (s.extract (j + 1) s.size).size + nval (s.extract (j + 1) s.size), 10 ^ (s.extract (j + 1) s.size).size)) := by show _ = _; unfold ppOf; rw [h47, h46, if_neg (by omega), if_pos (by omega), Int.toNat_natCast]
   have BB : Below w.heap.size w w := Below.refl _ _
   go_enter Tryz.func89, Tryz.ntmps89
   go_wp2_with fail
   have l1 := ext_le s 0 j
   have l2 := ext_le s (j + 1) s.size
   refine (cut47_miss s _ h47).mono ?_
   rintro e w1 ⟨rfl, b1⟩
   replace BB := BB.trans (b1.mono BB.size)
   clear b1
   go_wp2_with fail
   refine (cut46_hit s j _ h46 (by omega)).mono ?_
   rintro e w2 ⟨rfl, b2⟩
   replace BB := BB.trans (b2.mono BB.size)
   clear b2
   generalize s.extract 0 j = A at *
   generalize s.extract (j + 1) s.size = C at *
   go_wp2_with fail
   refine (parseTwo_at A C _ (by omega) (by omega)).mono ?_
   rintro e w3 ⟨v1, v2, rfl, h12, b3⟩
   replace BB := BB.trans (b3.mono BB.size)
   clear b3
   have n1 := nval_nl A
   have n2 := nval_nl C
   by_cases hE : twoErr A C = 0
   ·obtain ⟨h1, h2⟩ := h12 hE
    clear h12
    rw [hE]
    have HE : Hid (twoErr A C = 0) := hE
    clear hE
    go_wp2_with fail
    refine (powTen_at C.size _ (by omega)).mono ?_
    rintro e w4 ⟨v3, rfl, h3, b4⟩
    replace h1 := h1.below b4
    replace h2 := h2.below b4
    replace BB := BB.trans (b4.mono BB.size)
    clear b4
    have n3 := nl_ten C.size (C.size + 1) (by omega)
    go_wp2_with fail
    generalize 10 ^ C.size = T at *
    refine (nmul_at _ _ _ _ (A.size + 1) (C.size + 1) _ (h1.at _ n1) (h3.at _ n3) (by omega)).mono ?_
    rintro e w5 ⟨v4, rfl, h4, b5⟩
    replace h1 := h1.below b5
    replace h2 := h2.below b5
    replace h3 := h3.below b5
    replace BB := BB.trans (b5.mono BB.size)
    clear b5
    have n4 := nln_mul n1 n3
    go_wp2_with fail
    refine (nadd_at _ _ _ _ _ (C.size + 1) _ (h4.at _ n4) (h2.at _ n2) (by omega) (by omega)).mono ?_
    rintro e w6 ⟨v5, rfl, h5, b6⟩
    replace h1 := h1.below b6
    replace h2 := h2.below b6
    replace h3 := h3.below b6
    replace h4 := h4.below b6
    replace BB := BB.trans (b6.mono BB.size)
    clear b6
    go_wp2
    go_ret3
    exact ⟨v5, v3, (by rw [HP.out, HE.out]; rfl), fun _ => (by rw [HP.out]; exact ⟨h5, h3⟩), BB⟩
   ·have h4 : twoErr A C = 4 := by unfold twoErr errN at hE ⊢; repeat (split at hE <;> simp_all)
    have HE : Hid (twoErr A C = 4) := h4
    rw [h4]
    clear hE h12 h4
    go_wp2
    go_ret3
    exact ⟨.slice none 0 0, .slice none 0 0, (by rw [HP.out, HE.out]; rfl), fun h => (by rw [HP.out] at h; rw [show twoErr A C = 4 from HE.out] at h; cases h), BB⟩
 ·have HP : Hid (ppOf s = (twoErr (s.extract 0 i) (s.extract (i + 1) s.size), nval (s.extract 0 i), nval (s.extract (i + 1) s.size))) := by show _ = _; unfold ppOf; rw [h47, if_pos (by omega), Int.toNat_natCast]
  have BB : Below w.heap.size w w := Below.refl _ _
  go_enter Tryz.func89, Tryz.ntmps89
  go_wp2_with fail
  have l1 := ext_le s 0 i
  have l2 := ext_le s (i + 1) s.size
  refine (cut47_hit s i _ h47 (by omega)).mono ?_
  rintro e w1 ⟨rfl, b1⟩
  replace BB := BB.trans (b1.mono BB.size)
  clear b1
  generalize s.extract 0 i = A at *
  generalize s.extract (i + 1) s.size = C at *
  go_wp2_with fail
  refine (parseTwo_at A C _ (by omega) (by omega)).mono ?_
  rintro e w2 ⟨v1, v2, rfl, h12, b2⟩
  replace BB := BB.trans (b2.mono BB.size)
  clear b2
  generalize hE : twoErr A C = E at *
  clear hE
  go_wp2
  go_ret3
  exact ⟨v1, v2, (by rw [HP.out]; rfl), fun h => (by rw [HP.out] at h ⊢; exact h12 h), BB⟩


theorem pp_nl (s : ByteArray) (hs : s.size ≤ 9000) : nl W32 (ppOf s).2.1 ≤ 20000 ∧ nl W32 (ppOf s).2.2 ≤ 20000 := by
 have key : ∀ A C : ByteArray, A.size ≤ 9000 → C.size ≤ 9000 → nl W32 (nval A) ≤ 20000 ∧ nl W32 (nval C) ≤ 20000 ∧ nl W32 (nval A * 10 ^ C.size + nval C) ≤ 20000 ∧ nl W32 (10 ^ C.size) ≤ 20000 := fun A C h1 h2 => by
  have n1 := nval_nl A
  have n2 := nval_nl C
  have n3 := nl_ten C.size (C.size + 1) (by omega)
  have n4 := nln_mul n1 n3
  have n5 := nlz_add (x := ((nval A * 10 ^ C.size : Nat) : Int)) (y := ((nval C : Nat) : Int)) (c := A.size + 1 + (C.size + 1) + 1) (by rw [Int.natAbs_natCast]; exact n4) (by rw [Int.natAbs_natCast]; exact n2) (by omega) (by omega)
  rw [← Int.natCast_add, Int.natAbs_natCast] at n5
  exact ⟨by omega, by omega, by omega, by omega⟩
 unfold ppOf
 have e1 := ext_le s 0 (firstAt s 47).toNat
 have e2 := ext_le s ((firstAt s 47).toNat + 1) s.size
 have e3 := ext_le s 0 (firstAt s 46).toNat
 have e4 := ext_le s ((firstAt s 46).toNat + 1) s.size
 split
 ·have := key _ _ (Nat.le_trans e1 hs) (Nat.le_trans e2 hs); exact ⟨this.1, this.2.1⟩
 ·split
  ·have := key _ _ (Nat.le_trans e3 hs) (Nat.le_trans e4 hs); exact ⟨this.2.2.1, this.2.2.2⟩
  ·have := key _ _ hs hs; exact ⟨this.1, Nat.le_trans nlw_one (by omega)⟩
/-- What Parse says of a text. -/
def qerr (s : ByteArray) : Int := if (ppOf (pdig s)).1 = 0 then (if (ppOf (pdig s)).2.2 = 0 then 2 else 0) else (ppOf (pdig s)).1
/-- The number that it is. -/
def qval (s : ByteArray) : Rat := mkRat (zof (pneg s) (ppOf (pdig s)).2.1) (ppOf (pdig s)).2.2
theorem two_err (s t : ByteArray) : twoErr s t = 0 ∨ twoErr s t = 4 := by
 unfold twoErr errN; repeat split
 all_goals simp
theorem pp_err (s : ByteArray) : (ppOf s).1 = 0 ∨ (ppOf s).1 = 4 := by
 unfold ppOf
 split
 ·exact two_err _ _
 ·split
  ·exact two_err _ _
  ·unfold errN; split <;> simp


set_option maxRecDepth 20000 in
set_option maxHeartbeats 1000000 in
theorem qparse_form (s : ByteArray) (w : World) (hs : s.size ≤ 9000) (ht : Tab w) (he : (ppOf (pdig s)).1 = 4) :
  Calls Tryz.prog 61 #[.string s] w fun e w' => e = .returned (.tuple #[.agg #[.bool false, .slice none 0 0, .slice none 0 0], .int .i64 4]) ∧ Below w.heap.size w w' := by
 have BB : Below w.heap.size w w := Below.refl _ _
 obtain ⟨Wb0, hW0, hS0, hL0, VR⟩ := V3.lay w 44 (.bool false) (.slice none 0 0) (.slice none 0 0)
 replace ht := ht.below hL0
 replace BB := BB.trans (hL0.mono BB.size)
 clear hL0
 go_enter Tryz.func61, Tryz.ntmps61
 go_wp2_with fail
 rw [← hW0]
 clear hW0 hS0
 refine (cutPrefix_any s _).mono ?_
 rintro e wx ⟨rfl, hwx⟩
 replace hwx := hwx.symm
 subst hwx
 have hps := pdig_size s
 generalize pdig s = D at *
 generalize pneg s = N at *
 go_wp2_with fail
 refine (parseParts_at D _ (by omega)).mono ?_
 rintro e w1 ⟨v1, v2, rfl, h12, b1⟩
 replace ht := ht.below b1
 replace VR := VR.below b1
 replace BB := BB.trans (b1.mono BB.size)
 clear b1
 rw [he]
 clear h12 he
 have hKp := VR.keepJ (.bool false) (.slice none 0 0) (.slice none 0 0)
 have ht_n := ht.keep hKp
 have BB_n := below_store3 (R := w.heap.size) BB (by omega) (.bool false) (.slice none 0 0) (.slice none 0 0)
 clear hKp
 obtain ⟨q1, q2, q3, q4, q5, q6⟩ := id VR
 go_wp2
 (try simp only [Exit.inBlock, Exit.then])
 refine bodyPost_ret (v := .tuple #[.agg #[.bool false, .slice none 0 0, .slice none 0 0], .int .i64 4]) (by simp [results, go_sem, q1, q2, q3]) rfl ?_
 exact ⟨rfl, BB_n⟩


set_option maxRecDepth 20000 in
set_option maxHeartbeats 1000000 in
theorem qparse_zero (s : ByteArray) (w : World) (hs : s.size ≤ 9000) (ht : Tab w) (he : (ppOf (pdig s)).1 = 0) (hz : (ppOf (pdig s)).2.2 = 0) :
  Calls Tryz.prog 61 #[.string s] w fun e w' => e = .returned (.tuple #[.agg #[.bool false, .slice none 0 0, .slice none 0 0], .int .i64 2]) ∧ Below w.heap.size w w' := by
 have BB : Below w.heap.size w w := Below.refl _ _
 obtain ⟨Wb0, hW0, hS0, hL0, VR⟩ := V3.lay w 44 (.bool false) (.slice none 0 0) (.slice none 0 0)
 replace ht := ht.below hL0
 replace BB := BB.trans (hL0.mono BB.size)
 clear hL0
 go_enter Tryz.func61, Tryz.ntmps61
 go_wp2_with fail
 rw [← hW0]
 clear hW0 hS0
 refine (cutPrefix_any s _).mono ?_
 rintro e wx ⟨rfl, hwx⟩
 replace hwx := hwx.symm
 subst hwx
 have hps := pdig_size s
 generalize pdig s = D at *
 generalize pneg s = N at *
 go_wp2_with fail
 refine (parseParts_at D _ (by omega)).mono ?_
 rintro e w1 ⟨v1, v2, rfl, h12, b1⟩
 replace ht := ht.below b1
 replace VR := VR.below b1
 replace BB := BB.trans (b1.mono BB.size)
 clear b1
 obtain ⟨h1, h2⟩ := h12 he
 clear h12
 rw [he]
 obtain ⟨n1, n2⟩ := pp_nl D (by omega)
 obtain ⟨a1, k1, c1, rfl⟩ := h1.open
 obtain ⟨a2, k2, c2, rfl⟩ := h2.open
 have HZ := show Hid _ from hz
 clear hz he
 generalize (ppOf D).2.1 = X at *
 generalize (ppOf D).2.2 = Y at *
 go_wp2_with fail
 have h20 : IntAt w1 (.agg #[.bool false, .slice a2 k2 c2]) 0 20000 := by have := IntAt.mk (p := false) (h2.at 20000 n2); rw [show Y = 0 from HZ.out] at this; exact this
 refine (make_zero _ _ _ 20000 20000 _ (IntAt.mk (p := N) (h1.at 20000 n1)) h20).mono ?_
 rintro e w2 ⟨rfl, b2⟩
 replace ht := ht.below b2
 replace h1 := h1.below b2
 replace h2 := h2.below b2
 replace VR := VR.below b2
 replace BB := BB.trans (b2.mono BB.size)
 clear b2
 have hKp := VR.keepJ (.bool false) (.slice none 0 0) (.slice none 0 0)
 have ht_n := ht.keep hKp
 have h1_n := h1.keep hKp
 have h2_n := h2.keep hKp
 have BB_n := below_store3 (R := w.heap.size) BB (by omega) (.bool false) (.slice none 0 0) (.slice none 0 0)
 clear hKp
 obtain ⟨q1, q2, q3, q4, q5, q6⟩ := id VR
 go_wp2
 (try simp only [Exit.inBlock, Exit.then])
 refine bodyPost_ret (v := .tuple #[.agg #[.bool false, .slice none 0 0, .slice none 0 0], .int .i64 2]) (by simp [results, go_sem, q1, q2, q3]) rfl ?_
 exact ⟨rfl, BB_n⟩


set_option maxRecDepth 20000 in
set_option maxHeartbeats 1000000 in
theorem qparse_yes (s : ByteArray) (w : World) (hs : s.size ≤ 9000) (ht : Tab w) (he : (ppOf (pdig s)).1 = 0) (hz : (ppOf (pdig s)).2.2 ≠ 0) :
  Calls Tryz.prog 61 #[.string s] w fun e w' => ∃ r, e = .returned (.tuple #[r, .int .i64 0]) ∧ RepQ w' r (qval s) ∧ Below w.heap.size w w' := by
 have HQ : Hid (qval s = mkRat (zof (pneg s) (ppOf (pdig s)).2.1) (ppOf (pdig s)).2.2) := rfl
 have BB : Below w.heap.size w w := Below.refl _ _
 obtain ⟨Wb0, hW0, hS0, hL0, VR⟩ := V3.lay w 44 (.bool false) (.slice none 0 0) (.slice none 0 0)
 replace ht := ht.below hL0
 replace BB := BB.trans (hL0.mono BB.size)
 clear hL0
 go_enter Tryz.func61, Tryz.ntmps61
 go_wp2_with fail
 rw [← hW0]
 clear hW0 hS0
 refine (cutPrefix_any s _).mono ?_
 rintro e wx ⟨rfl, hwx⟩
 replace hwx := hwx.symm
 subst hwx
 have hps := pdig_size s
 generalize pdig s = D at *
 generalize pneg s = N at *
 go_wp2_with fail
 refine (parseParts_at D _ (by omega)).mono ?_
 rintro e w1 ⟨v1, v2, rfl, h12, b1⟩
 replace ht := ht.below b1
 replace VR := VR.below b1
 replace BB := BB.trans (b1.mono BB.size)
 clear b1
 obtain ⟨h1, h2⟩ := h12 he
 clear h12
 rw [he]
 obtain ⟨n1, n2⟩ := pp_nl D (by omega)
 obtain ⟨a1, k1, c1, rfl⟩ := h1.open
 obtain ⟨a2, k2, c2, rfl⟩ := h2.open
 have HZ := show Hid _ from hz
 clear hz he
 generalize (ppOf D).2.1 = X at *
 generalize (ppOf D).2.2 = Y at *
 go_wp2_with fail
 have hY0 : (zof false Y : Int) ≠ 0 := by rw [zof_false]; exact fun e => HZ.out (by omega)
 refine (make_at _ _ _ _ 20000 20000 _ (IntAt.mk (p := N) (h1.at 20000 n1)) (IntAt.mk (p := false) (h2.at 20000 n2)) (by omega) (by omega) hY0 ht).mono ?_
 rintro e w2 ⟨rr, rfl, hr, b2⟩
 replace ht := ht.below b2
 replace h1 := h1.below b2
 replace h2 := h2.below b2
 replace VR := VR.below b2
 replace BB := BB.trans (b2.mono BB.size)
 clear b2
 rw [zof_false, Rat.intCast_natCast, ← Rat.mkRat_eq_div, ← HQ.out] at hr
 obtain ⟨pr, ar, nr, cr, br, mr, dr, rfl⟩ := hr.open
 have hKp := VR.keepJ (.bool pr) (.slice ar nr cr) (.slice br mr dr)
 have ht_n := ht.keep hKp
 have h1_n := h1.keep hKp
 have h2_n := h2.keep hKp
 have hr_n := hr.keep hKp
 have BB_n := below_store3 (R := w.heap.size) BB (by omega) (.bool pr) (.slice ar nr cr) (.slice br mr dr)
 clear hKp
 obtain ⟨q1, q2, q3, q4, q5, q6⟩ := id VR
 go_wp2
 (try simp only [Exit.inBlock, Exit.then])
 refine bodyPost_ret (v := .tuple #[.agg #[.bool pr, .slice ar nr cr, .slice br mr dr], .int .i64 0]) (by simp [results, go_sem, q1, q2, q3]) rfl ?_
 exact ⟨_, rfl, hr_n, BB_n⟩

end Go.Proofs.YthkamfddbiheoaaGreatDoor
