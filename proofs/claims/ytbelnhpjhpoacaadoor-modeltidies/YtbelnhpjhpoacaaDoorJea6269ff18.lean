/-
  Texts of mine.
-/
import Derived.Test.YtbelnhpjhpoacaaDoorJ2ba676209e
import Derived.Lib.Bytealg
import Derived.Lib.IndexLaws
import Derived.Deep.Cut
namespace Go.Proofs.YtbelnhpjhpoacaaDoor
open Go.RowKit
set_option linter.unusedVariables false
set_option linter.unusedSimpArgs false

/-- Where a byte stands first; -1: nowhere. -/
def firstAt (s : ByteArray) (c : Nat) : Int := Lib.indexByte s.data.toList c.toUInt8
theorem firstAt_one (c : Nat) (s : ByteArray) (h : [c.toUInt8] = s.toList) : firstAt s c = 0 := by
  rw [Lib.toList_data] at h; unfold firstAt; rw [← h]; simp [Lib.indexByte]
theorem firstAt_lt (s : ByteArray) (c i : Nat) (h : firstAt s c = (i : Int)) : i < s.size := by
  have h1 := (Lib.indexByte_some h).1
  have h2 := (List.getElem?_eq_some_iff.1 h1).1
  simpa using h2
theorem firstAt_cases (s : ByteArray) (c : Nat) : firstAt s c = -1 ∨ ∃ i : Nat, firstAt s c = (i : Int) := by
  have h := Lib.indexByte_ge s.data.toList c.toUInt8
  by_cases g : firstAt s c = -1
  · exact .inl g
  · exact .inr ⟨(firstAt s c).toNat, by unfold firstAt at *; omega⟩

/-- What nat.Parse says of a text. -/
def errN (s : ByteArray) : Int := if digitsB s = true then 0 else 4
/-- The number that a text is. -/
def nval (s : ByteArray) : Nat := if digitsB s = true then dval s s.size else 0
theorem nval_nl (s : ByteArray) : nl W32 (nval s) ≤ s.size + 1 := by
  unfold nval
  split
  · rename_i h
    simp only [digitsB, decide_eq_true_eq] at h
    exact Nat.le_trans (nl_mono W32 _ _ (by decide) (Nat.le_of_lt (dval_lt s s.size h.2))) (nl_ten s.size (s.size + 1) (by omega))
  · rw [nl_zero]; omega


/-- What two texts are. -/
def twoErr (s t : ByteArray) : Int := if errN s = 0 then errN t else errN s


/-- What a text is: its error, the number above, the number below. -/
def ppOf (s : ByteArray) : Int × Nat × Nat :=
  if 0 ≤ firstAt s 47 then (twoErr (s.extract 0 (firstAt s 47).toNat) (s.extract ((firstAt s 47).toNat + 1) s.size), nval (s.extract 0 (firstAt s 47).toNat), nval (s.extract ((firstAt s 47).toNat + 1) s.size))
  else if 0 ≤ firstAt s 46 then (twoErr (s.extract 0 (firstAt s 46).toNat) (s.extract ((firstAt s 46).toNat + 1) s.size), nval (s.extract 0 (firstAt s 46).toNat) * 10 ^ (s.extract ((firstAt s 46).toNat + 1) s.size).size + nval (s.extract ((firstAt s 46).toNat + 1) s.size), 10 ^ (s.extract ((firstAt s 46).toNat + 1) s.size).size)
  else (errN s, nval s, 1)
theorem ext_le (s : ByteArray) (i j : Nat) : (s.extract i j).size ≤ s.size := by rw [ByteArray.size_extract]; omega


theorem pp_nl (s : ByteArray) (hs : s.size ≤ 9000) : nl W32 (ppOf s).2.1 ≤ 20000 ∧ nl W32 (ppOf s).2.2 ≤ 20000 := by
  have key : ∀ A C : ByteArray, A.size ≤ 9000 → C.size ≤ 9000 → nl W32 (nval A) ≤ 20000 ∧ nl W32 (nval C) ≤ 20000 ∧ nl W32 (nval A * 10 ^ C.size + nval C) ≤ 20000 ∧ nl W32 (10 ^ C.size) ≤ 20000 := fun A C h1 h2 => by
    have n1 := nval_nl A
    have n2 := nval_nl C
    have n3 := nl_ten C.size (C.size + 1) (by omega)
    have n4 := nln_mul n1 n3
    have n5 := nlz_add (x := ((nval A * 10 ^ C.size : Nat) : Int)) (y := ((nval C : Nat) : Int)) (c := A.size + 1 + (C.size + 1) + 1) (by rw [Int.natAbs_natCast]; exact n4) (by rw [Int.natAbs_natCast]; exact n2) (by omega) (by omega)
    rw [← Int.natCast_add, Int.natAbs_natCast] at n5
    exact ⟨by omega, by omega, by omega, by omega⟩
  unfold ppOf
  have e1 := ext_le s 0 (firstAt s 47).toNat
  have e2 := ext_le s ((firstAt s 47).toNat + 1) s.size
  have e3 := ext_le s 0 (firstAt s 46).toNat
  have e4 := ext_le s ((firstAt s 46).toNat + 1) s.size
  split
  · have := key _ _ (Nat.le_trans e1 hs) (Nat.le_trans e2 hs); exact ⟨this.1, this.2.1⟩
  · split
    · have := key _ _ (Nat.le_trans e3 hs) (Nat.le_trans e4 hs); exact ⟨this.2.2.1, this.2.2.2⟩
    · have := key _ _ hs hs; exact ⟨this.1, Nat.le_trans nlw_one (by omega)⟩
/-- What Parse says of a text. -/
def qerr (s : ByteArray) : Int := if (ppOf (pdig s)).1 = 0 then (if (ppOf (pdig s)).2.2 = 0 then 2 else 0) else (ppOf (pdig s)).1
/-- The number that it is. -/
def qval (s : ByteArray) : Rat := mkRat (zof (pneg s) (ppOf (pdig s)).2.1) (ppOf (pdig s)).2.2
theorem two_err (s t : ByteArray) : twoErr s t = 0 ∨ twoErr s t = 4 := by
  unfold twoErr errN; repeat split
  all_goals simp
theorem pp_err (s : ByteArray) : (ppOf s).1 = 0 ∨ (ppOf s).1 = 4 := by
  unfold ppOf
  split
  · exact two_err _ _
  · split
    · exact two_err _ _
    · unfold errN; split <;> simp

theorem mkRat_scale (z : Int) (x t : Nat) : mkRat (z * (t : Int)) x = mkRat z x * (t : Rat) := by
  rw [Rat.mkRat_eq_div, Rat.mkRat_eq_div, Rat.intCast_mul, Rat.intCast_natCast, Rat.div_def, Rat.div_def, Rat.mul_assoc, Rat.mul_assoc, Rat.mul_comm (t : Rat)]
theorem round_eighth (q : Rat) (h : q = (1 : Rat) / 8) : roundQ (q * ((100 : Nat) : Rat)) = 12 := by rw [h]; decide +kernel
theorem dec_bytes : (({ data := #[48] } ++ { data := #[49, 50] } : ByteArray).extract 0 1 ++ { data := #[46] } ++ ({ data := #[48] } ++ { data := #[49, 50] } : ByteArray).extract 1 3) = { data := #[48, 46, 49, 50] } := by decide +kernel
theorem txt_12 : txt 12 = { data := #[49, 50] } := by
  have e : ndec 12 = 2 := by unfold ndec; rw [nl_spec 10 _ 2 (by decide) (by decide)]; decide +kernel
  unfold txt; rw [e]; decide +kernel

theorem lt_ndec (x : Nat) : x < 10 ^ ndec x := by
  unfold ndec
  have h := lt_pow_nl 10 x (by decide)
  split
  · rename_i h0
    rw [h0] at h
    omega
  · exact h
theorem ndec_pos (x : Nat) : 0 < ndec x := by
  unfold ndec
  split
  · omega
  · omega
theorem txt_byte (x i : Nat) (h : i < ndec x) : ((txt x).data.toList.getD i 0).toNat = 48 + x / 10 ^ (ndec x - 1 - i) % 10 := by
  unfold txt
  rw [strOfNums_data]
  have e : ((decs x (ndec x)).map fun n => UInt8.ofNat n.toNat)[i]? = some (UInt8.ofNat (dd x (ndec x - 1 - i)).toNat) := by
    simp [decs, h]
  rw [List.getD, e]
  have hd : (dd x (ndec x - 1 - i)).toNat = 48 + x / 10 ^ (ndec x - 1 - i) % 10 := by unfold dd; omega
  simp only [Option.getD_some]
  rw [hd, UInt8.toNat_ofNat_of_lt']
  show _ < 256
  omega
theorem txt_digits (x : Nat) : digitsB (txt x) = true := by
  have hs := txt_size x
  simp only [digitsB, decide_eq_true_eq]
  refine ⟨by rw [hs]; exact ndec_pos x, fun i hi => ?_⟩
  rw [hs] at hi
  unfold isDig
  rw [txt_byte x i hi]
  omega
theorem txt_dval (x : Nat) : ∀ n, n ≤ ndec x → dval (txt x) n = x / 10 ^ (ndec x - n) := by
  intro n
  induction n with
  | zero => exact fun _ => by rw [Nat.sub_zero, Nat.div_eq_of_lt (lt_ndec x)]; rfl
  | succ n ih =>
    intro h
    simp only [dval]
    rw [ih (by omega), txt_byte x n (by omega)]
    have e : 10 ^ (ndec x - n) = 10 ^ (ndec x - (n + 1)) * 10 := by rw [← Nat.pow_succ]; congr 1; omega
    rw [e, ← Nat.div_div_eq_div_mul, show ndec x - 1 - n = ndec x - (n + 1) by omega]
    generalize x / 10 ^ (ndec x - (n + 1)) = y
    omega
theorem txt_read (x : Nat) : dval (txt x) (txt x).size = x := by
  rw [txt_size, txt_dval x _ (Nat.le_refl _), Nat.sub_self, Nat.pow_zero, Nat.div_one]
theorem minus_data (T : ByteArray) : (({ data := #[45] } : ByteArray) ++ T).data.toList = 45 :: T.data.toList := by
  rw [ByteArray.data_append, Array.toList_append]; rfl
theorem minus_size (T : ByteArray) : (({ data := #[45] } : ByteArray) ++ T).size = T.size + 1 := by
  rw [ByteArray.size_append]; show 1 + T.size = _; omega
theorem minus_cut (T : ByteArray) : (({ data := #[45] } : ByteArray) ++ T).extract 1 (({ data := #[45] } : ByteArray) ++ T).size = T := by
  have h : ((({ data := #[45] } : ByteArray) ++ T).extract 1 (({ data := #[45] } : ByteArray) ++ T).size).data.toList = T.data.toList := by
    rw [ByteArray.data_extract, Array.toList_extract, minus_data, minus_size]
    have hl : T.data.toList.length = T.size := by simp
    show List.take (T.size + 1 - 1) T.data.toList = _
    rw [Nat.add_sub_cancel, ← hl, List.take_length]
  exact ByteArray.ext (Array.toList_inj.1 h)
theorem ztxt_pneg (z : Int) : pneg (ztxt z) = decide (z < 0) := by
  by_cases h : z < 0
  · rw [decide_eq_true h]
    unfold ztxt; rw [if_pos h]
    unfold pneg; rw [minus_data, minus_size]; simp
  · rw [decide_eq_false h]
    unfold ztxt; rw [if_neg h]
    unfold pneg
    have hs := txt_size z.natAbs
    have hp := ndec_pos z.natAbs
    have hb := txt_byte z.natAbs 0 hp
    have hne : ((txt z.natAbs).data.toList.getD 0 0 == 45) = false := by
      rw [beq_eq_false_iff_ne]; intro e
      rw [e] at hb; simp at hb; omega
    rw [hne, Bool.and_false]
theorem ztxt_pdig (z : Int) : pdig (ztxt z) = txt z.natAbs := by
  by_cases h : z < 0
  · rw [pdig_pos (by rw [ztxt_pneg]; exact decide_eq_true h)]
    unfold ztxt; rw [if_pos h]; exact minus_cut _
  · rw [pdig_neg (by rw [ztxt_pneg]; exact decide_eq_false h)]
    unfold ztxt; rw [if_neg h]


theorem dig_ne (s : ByteArray) (h : digitsB s = true) (c : Nat) (hc : c < 48) (i : Nat) (hi : i < s.size) : s.data.toList[i]? ≠ some c.toUInt8 := by
  have hd : 0 < s.size ∧ ∀ i, i < s.size → isDig s i := by simpa [digitsB] using h
  have h1 := hd.2 i hi
  unfold isDig at h1
  intro e
  rw [List.getD_eq_getElem?_getD, e] at h1
  simp only [Option.getD_some] at h1
  have h2 : c.toUInt8.toNat = c := by simp; omega
  rw [h2] at h1
  omega
theorem dig_none (s : ByteArray) (h : digitsB s = true) (c : Nat) (hc : c < 48) : firstAt s c = -1 := by
  rcases firstAt_cases s c with g | ⟨o, g⟩
  · exact g
  · exact absurd (Lib.indexByte_some g).1 (dig_ne s h c hc o (firstAt_lt s c o g))
theorem slash_data (A C : ByteArray) : (A ++ { data := #[47] } ++ C).data.toList = A.data.toList ++ 47 :: C.data.toList := by
  rw [ByteArray.data_append, ByteArray.data_append, Array.toList_append, Array.toList_append, List.append_assoc]; rfl
theorem slash_at (A C : ByteArray) (h : digitsB A = true) : firstAt (A ++ { data := #[47] } ++ C) 47 = (A.size : Int) := by
  have hs : A.data.toList.length = A.size := by simp
  have hat : (A ++ { data := #[47] } ++ C).data.toList[A.size]? = some (47 : Nat).toUInt8 := by
    rw [slash_data, List.getElem?_append_right (by omega), hs, Nat.sub_self]; rfl
  rcases firstAt_cases (A ++ { data := #[47] } ++ C) 47 with g | ⟨o, g⟩
  · exact absurd hat (Lib.indexByte_none g A.size)
  · obtain ⟨h1, h2⟩ := Lib.indexByte_some g
    rcases Nat.lt_trichotomy o A.size with k | k | k
    · rw [slash_data, List.getElem?_append_left (by omega)] at h1
      exact absurd h1 (dig_ne A h 47 (by omega) o k)
    · rw [g, k]
    · exact absurd hat (h2 A.size k)
theorem one_slash : (({ data := #[47] } : ByteArray)).size = 1 := rfl
theorem slash_left (A C : ByteArray) : (A ++ { data := #[47] } ++ C).extract 0 A.size = A := by
  rw [ByteArray.append_assoc]; exact ByteArray.extract_append_eq_left rfl
theorem slash_right (A C : ByteArray) : (A ++ { data := #[47] } ++ C).extract (A.size + 1) (A ++ { data := #[47] } ++ C).size = C :=
  ByteArray.extract_append_eq_right (by rw [ByteArray.size_append]; rfl) (by rw [ByteArray.size_append])
theorem errN_txt (x : Nat) : errN (txt x) = 0 := by unfold errN; rw [if_pos (txt_digits x)]
theorem nval_txt (x : Nat) : nval (txt x) = x := by unfold nval; rw [if_pos (txt_digits x), txt_read]
theorem pp_slash (a b : Nat) : ppOf (txt a ++ { data := #[47] } ++ txt b) = (0, a, b) := by
  unfold ppOf
  rw [slash_at _ _ (txt_digits a), if_pos (by omega), Int.toNat_natCast, slash_left, slash_right, nval_txt, nval_txt]
  unfold twoErr; rw [errN_txt, errN_txt]; rfl
theorem pp_plain (a : Nat) : ppOf (txt a) = (0, a, 1) := by
  unfold ppOf
  rw [dig_none _ (txt_digits a) 47 (by omega), dig_none _ (txt_digits a) 46 (by omega), if_neg (by omega), if_neg (by omega), errN_txt, nval_txt]
theorem pneg_head (A C : ByteArray) (h : 0 < A.size) : pneg (A ++ C) = pneg A := by
  have hs : A.data.toList.length = A.size := by simp
  unfold pneg
  rw [ByteArray.size_append, decide_eq_true (by omega), decide_eq_true h, ByteArray.data_append, Array.toList_append, List.getD_eq_getElem?_getD, List.getElem?_append_left (by omega), ← List.getD_eq_getElem?_getD]
theorem ztxt_pos (z : Int) : 0 < (ztxt z).size := by
  have hp := ndec_pos z.natAbs
  have hs := txt_size z.natAbs
  unfold ztxt; split
  · rw [minus_size]; omega
  · omega
theorem qtxt_pneg (q : Rat) : pneg (qtxt q) = decide (q.num < 0) := by
  unfold qtxt; split
  · exact ztxt_pneg _
  · rw [ByteArray.append_assoc, pneg_head _ _ (ztxt_pos _), ztxt_pneg]
theorem qtxt_pdig (q : Rat) : pdig (qtxt q) = if q.den = 1 then txt q.num.natAbs else txt q.num.natAbs ++ { data := #[47] } ++ txt q.den := by
  by_cases hd : q.den = 1
  · rw [if_pos hd]; unfold qtxt; rw [if_pos hd]; exact ztxt_pdig _
  · rw [if_neg hd]
    by_cases h : q.num < 0
    · rw [pdig_pos (by rw [qtxt_pneg]; exact decide_eq_true h)]
      unfold qtxt; rw [if_neg hd]
      unfold ztxt; rw [if_pos h]
      rw [ByteArray.append_assoc, ByteArray.append_assoc, minus_cut, ByteArray.append_assoc]
    · rw [pdig_neg (by rw [qtxt_pneg]; exact decide_eq_false h)]
      unfold qtxt; rw [if_neg hd]
      unfold ztxt; rw [if_neg h]
theorem qtxt_pp (q : Rat) : ppOf (pdig (qtxt q)) = (0, q.num.natAbs, q.den) := by
  rw [qtxt_pdig]
  by_cases hd : q.den = 1
  · rw [if_pos hd, pp_plain, hd]
  · rw [if_neg hd, pp_slash]
theorem qtxt_val (q : Rat) : qval (qtxt q) = q := by
  unfold qval
  rw [qtxt_pp, qtxt_pneg]
  show mkRat (zof (decide (q.num < 0)) q.num.natAbs) q.den = q
  rw [zof_self]; exact Rat.mkRat_self q
theorem qtxt_size (q : Rat) (L : Nat) (h : qsz q ≤ L) : (qtxt q).size ≤ 20 * L + 10 := by
  have h1 := ztxt_small q.num L (Nat.le_trans (qsz_num q) h)
  have h2 := txt_small q.den L (Nat.le_trans (Nat.le_max_right _ _) h)
  unfold qtxt; split
  · omega
  · rw [ByteArray.size_append, ByteArray.size_append, one_slash]; omega

end Go.Proofs.YtbelnhpjhpoacaaDoor
