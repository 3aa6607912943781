/-
  What whole.Parse, dendronref02.Text and dendronref02.Parse answer.
-/
import Derived.Test.YtbnjogbbjoinnabWRef1
import Derived.Test.YtbnjogbbjoinnabWhole3
import Derived.Test.YtbnjogbbjoinnabRefText
import Derived.Test.YtbnjogbbjoinnabRefParse
namespace Go.Proofs.Ytbnjogbbjoinnab
open Go.RowKit
set_option linter.unusedVariables false

/-- Does a minus stand ahead? -/
def pneg (s : ByteArray) : Bool := decide (0 < s.size) && (s.data.toList.getD 0 0 == 45)
/-- What stands behind it. -/
def pdig (s : ByteArray) : ByteArray := if pneg s = true then s.extract 1 s.size else s
theorem pdig_pos {s : ByteArray} (h : pneg s = true) : pdig s = s.extract 1 s.size := by unfold pdig; rw [if_pos h]
theorem pdig_neg {s : ByteArray} (h : pneg s = false) : pdig s = s := by unfold pdig; rw [h]; rfl
theorem pdig_size (s : ByteArray) : (pdig s).size ≤ s.size := by
  unfold pdig; split
  · rw [ByteArray.size_extract]; omega
  · omega
theorem first_byte (s : ByteArray) (h : 0 < s.size) : (s.extract 0 1).toList = [s[0]] := by
  rw [Lib.toList_data, ByteArray.data_extract]
  rw [Array.toList_extract]
  have hl : 0 < s.data.toList.length := by simpa using h
  match hs : s.data.toList, hl with
  | a :: l, _ =>
    have : s[0] = a := by
      have := byte_at s 0 h
      rw [hs] at this; simpa using this.symm
    simp [this]

set_option maxRecDepth 20000 in
set_option maxHeartbeats 1000000 in
theorem hasPrefix_any (s : ByteArray) (w : World) : Calls Try.prog 67 #[.string s, .string { data := #[45] }] w fun e w' => e = .returned (.bool (pneg s)) ∧ w' = w := by
  by_cases h0 : 0 < s.size
  · have hb := first_byte s h0
    have hc : (1 : Int) ≤ (s.size : Int) := by omega
    have hc2 : 1 ≤ s.size := h0
    go_enter Try.func67, Try.ntmps67
    go_wp2
    go_ret
    exact ⟨ret_bool (by unfold pneg; rw [decide_eq_true h0, byte_at s 0 h0]; rfl), rfl⟩
  · have hc : ¬ (1 : Int) ≤ (s.size : Int) := by omega
    go_enter Try.func67, Try.ntmps67
    go_wp2
    go_ret
    exact ⟨ret_bool (by unfold pneg; rw [decide_eq_false h0]; rfl), rfl⟩

theorem pneg_size {s : ByteArray} (h : pneg s = true) : 0 < s.size := by
  unfold pneg at h; rw [Bool.and_eq_true, decide_eq_true_eq] at h; exact h.1

set_option maxRecDepth 20000 in
set_option maxHeartbeats 1000000 in
theorem cutLite_any (s : ByteArray) (w : World) : Calls Try.prog 49 #[.string s, .string { data := #[45] }] w fun e w' => e = .returned (.tuple #[.string (pdig s), .bool (pneg s)]) ∧ w' = w := by
  cases h : pneg s with
  | true =>
    have h1 := pneg_size h
    have hc : (1 : Int) ≤ (s.size : Int) := by omega
    rw [pdig_pos h]
    go_enter Try.func49, Try.ntmps49
    go_wp2_with fail
    refine (hasPrefix_any s _).mono ?_
    rintro e w1 ⟨rfl, hw⟩
    subst hw
    rw [h]
    go_wp2
    go_ret2
    exact ⟨rfl, rfl⟩
  | false =>
    rw [pdig_neg h]
    go_enter Try.func49, Try.ntmps49
    go_wp2_with fail
    refine (hasPrefix_any s _).mono ?_
    rintro e w1 ⟨rfl, hw⟩
    subst hw
    rw [h]
    go_wp2
    go_ret2
    exact ⟨rfl, rfl⟩

set_option maxRecDepth 20000 in
set_option maxHeartbeats 1000000 in
theorem cutPrefix_any (s : ByteArray) (w : World) : Calls Try.prog 34 #[.string s, .string { data := #[45] }] w fun e w' => e = .returned (.tuple #[.string (pdig s), .bool (pneg s)]) ∧ w' = w := by
  go_enter Try.func34, Try.ntmps34
  go_wp2_with fail
  refine (cutLite_any s _).mono ?_
  rintro e w1 ⟨rfl, hw⟩
  subst hw
  go_wp2
  go_ret2
  exact ⟨rfl, rfl⟩

set_option maxRecDepth 20000 in
set_option maxHeartbeats 1000000 in
theorem wparse_form (s : ByteArray) (w : World) (hd : digitsB (pdig s) = false) :
    Calls Try.prog 17 #[.string s] w fun e w' => ∃ r, e = .returned (.tuple #[r, .int .i64 4]) ∧ RepI w' r 0 ∧ Below w.heap.size w w' := by
  have hA : ∀ o, Below w.heap.size w (w.alloc o) := fun o => (Below.refl _ _).alloc (Nat.le_refl _) _
  go_enter Try.func17, Try.ntmps17
  go_wp2_with fail
  refine (cutPrefix_any s _).mono ?_
  rintro e w1 ⟨rfl, hw⟩
  subst hw
  go_wp2_with fail
  refine (parse_form _ _ hd).mono ?_
  rintro e w2 ⟨rfl, hb2⟩
  obtain ⟨q1, q2, q3, q4⟩ := keepW hb2 (by simp) (resW w _ _ _)
  go_wp2
  (try simp only [Exit.inBlock, Exit.then])
  refine bodyPost_ret (v := .tuple #[.agg #[.bool false, .slice none 0 0], .int .i64 4]) (by simp [results, go_sem, q1, q2]) rfl ?_
  exact ⟨_, rfl, RepI.nil _, below_store2 ((hA _).trans (hb2.mono (by simp))) (Nat.le_refl _) _ _⟩

set_option maxRecDepth 20000 in
set_option maxHeartbeats 1000000 in
theorem wparse_yes (s : ByteArray) (w : World) (hd : digitsB (pdig s) = true) (hl : (pdig s).size ≤ 10000) :
    Calls Try.prog 17 #[.string s] w fun e w' => ∃ r, e = .returned (.tuple #[r, .int .i64 0]) ∧ RepI w' r (zof (pneg s) (dval (pdig s) (pdig s).size)) ∧ Below w.heap.size w w' := by
  have hA : ∀ o, Below w.heap.size w (w.alloc o) := fun o => (Below.refl _ _).alloc (Nat.le_refl _) _
  go_enter Try.func17, Try.ntmps17
  go_wp2_with fail
  refine (cutPrefix_any s _).mono ?_
  rintro e w1 ⟨rfl, hw⟩
  subst hw
  go_wp2_with fail
  refine (parse_yes _ _ hl hd).mono ?_
  rintro e w2 ⟨v, rfl, hv, hb2⟩
  have hk2 := keepW hb2 (by simp) (resW w _ _ _)
  have B2 := (hA _).trans (hb2.mono (by simp))
  go_wp2_with fail
  refine (signed_any _ _ _ _ hv.rep).mono ?_
  rintro e w3 ⟨r, rfl, hr, hb3⟩
  obtain ⟨b2, ao2, n2, c2, rfl⟩ := hr.open
  obtain ⟨q1, q2, q3, q4⟩ := keepW hb3 (Nat.le_refl _) hk2
  go_wp2
  (try simp only [Exit.inBlock, Exit.then])
  refine bodyPost_ret (v := .tuple #[.agg #[.bool b2, .slice ao2 n2 c2], .int .i64 0]) (by simp [results, go_sem, q1, q2]) rfl ?_
  exact ⟨_, rfl, hr.store2 q1 q2 _ _, below_store2 (B2.trans (hb3.mono B2.size)) (Nat.le_refl _) _ _⟩

theorem pdig_yes (s : ByteArray) (h0 : 0 < s.size) (h : s[0] = 45) : pneg s = true := by
  unfold pneg; rw [decide_eq_true h0, byte_at s 0 h0, h]; rfl
theorem pdig_no (s : ByteArray) (h0 : 0 < s.size) (h : ¬ s[0] = 45) : pneg s = false := by
  unfold pneg; rw [decide_eq_true h0, byte_at s 0 h0]; simp [h]
theorem u8_eq (a : UInt8) : ((a.toNat : Int) == 45) = (a == 45) := by
  rw [Bool.eq_iff_iff]; simp
  constructor
  · intro h; apply UInt8.toNat.inj; simpa using (by omega : a.toNat = 45)
  · intro h; rw [h]; rfl

set_option maxRecDepth 20000 in
set_option maxHeartbeats 1000000 in
theorem rparse_form (s : ByteArray) (w : World) (hd : digitsB (pdig s) = false) (hl : s.size ≤ 10000) :
    Calls Try.prog 19 #[.string s] w fun e w' => ∃ r, e = .returned (.tuple #[r, .int .i64 4]) ∧ RepJ w' r 0 ∧ Below w.heap.size w w' := by
  have hA : ∀ o, Below w.heap.size w (w.alloc o) := fun o => (Below.refl _ _).alloc (Nat.le_refl _) _
  have hsz := pdig_size s
  cases hn : pneg s with
  | true =>
    have h0 := pneg_size hn
    rw [pdig_pos hn] at hd hsz
    have h45 : s[0] = 45 := by
      unfold pneg at hn; rw [Bool.and_eq_true, byte_at s 0 h0] at hn; simpa using hn.2
    have hc : (0 : Int) < (s.size : Int) := by omega
    have hc1 : (1 : Int) ≤ (s.size : Int) := by omega
    go_enter Try.func19, Try.ntmps19
    go_wp2_with fail
    refine (refParse_form _ _ hd (by omega)).mono ?_
    rintro e w2 ⟨rfl, hw⟩
    subst hw
    go_wp2
    (try simp only [Exit.inBlock, Exit.then])
    refine bodyPost_ret (v := .tuple #[.agg #[.bool false, .slice none 0 0], .int .i64 4]) (by simp [results, go_sem]) rfl ?_
    exact ⟨_, rfl, RepJ.nil _, hA _⟩
  | false =>
    rw [pdig_neg hn] at hd hsz
    by_cases h0 : 0 < s.size
    · have h45 : (s[0] == 45) = false := by
        unfold pneg at hn; rw [decide_eq_true h0, byte_at s 0 h0] at hn; simpa using hn
      have h45' : ((s[0].toNat : Int) == 45) = false := by rw [u8_eq]; exact h45
      have hc : (0 : Int) < (s.size : Int) := by omega
      go_enter Try.func19, Try.ntmps19
      go_wp2_with fail
      refine (refParse_form _ _ hd (by omega)).mono ?_
      rintro e w2 ⟨rfl, hw⟩
      subst hw
      go_wp2
      (try simp only [Exit.inBlock, Exit.then])
      refine bodyPost_ret (v := .tuple #[.agg #[.bool false, .slice none 0 0], .int .i64 4]) (by simp [results, go_sem]) rfl ?_
      exact ⟨_, rfl, RepJ.nil _, hA _⟩
    · have hc : ¬ (0 : Int) < (s.size : Int) := by omega
      go_enter Try.func19, Try.ntmps19
      go_wp2_with fail
      refine (refParse_form _ _ hd (by omega)).mono ?_
      rintro e w2 ⟨rfl, hw⟩
      subst hw
      go_wp2
      (try simp only [Exit.inBlock, Exit.then])
      refine bodyPost_ret (v := .tuple #[.agg #[.bool false, .slice none 0 0], .int .i64 4]) (by simp [results, go_sem]) rfl ?_
      exact ⟨_, rfl, RepJ.nil _, hA _⟩

set_option maxRecDepth 20000 in
set_option maxHeartbeats 1000000 in
theorem rparse_yes (s : ByteArray) (w : World) (hd : digitsB (pdig s) = true) (hl : s.size ≤ 10000) :
    Calls Try.prog 19 #[.string s] w fun e w' => ∃ r, e = .returned (.tuple #[r, .int .i64 0]) ∧ RepJ w' r (zof (pneg s) (dval (pdig s) (pdig s).size)) ∧ Below w.heap.size w w' := by
  have hA : ∀ o, Below w.heap.size w (w.alloc o) := fun o => (Below.refl _ _).alloc (Nat.le_refl _) _
  have hsz := pdig_size s
  cases hn : pneg s with
  | true =>
    have h0 := pneg_size hn
    rw [pdig_pos hn] at hd hsz ⊢
    have h45 : s[0] = 45 := by
      unfold pneg at hn; rw [Bool.and_eq_true, byte_at s 0 h0] at hn; simpa using hn.2
    have hc : (0 : Int) < (s.size : Int) := by omega
    have hc1 : (1 : Int) ≤ (s.size : Int) := by omega
    go_enter Try.func19, Try.ntmps19
    go_wp2_with fail
    refine (refParse_yes _ _ (by omega) hd).mono ?_
    rintro e w2 ⟨v, rfl, hv, hb2⟩
    have hk2 := keepW hb2 (by simp) (resW w _ _ _)
    have B2 := (hA _).trans (hb2.mono (by simp))
    go_wp2_with fail
    refine (rmake_any _ _ _ _ hv).mono ?_
    rintro e w3 ⟨r, rfl, hr, hb3⟩
    obtain ⟨b2, ao2, n2, c2, rfl⟩ := hr.open
    obtain ⟨q1, q2, q3, q4⟩ := keepW hb3 (Nat.le_refl _) hk2
    go_wp2
    (try simp only [Exit.inBlock, Exit.then])
    refine bodyPost_ret (v := .tuple #[.agg #[.bool b2, .slice ao2 n2 c2], .int .i64 0]) (by simp [results, go_sem, q1, q2]) rfl ?_
    exact ⟨_, rfl, hr.store2 q1 q2 _ _, below_store2 (B2.trans (hb3.mono B2.size)) (Nat.le_refl _) _ _⟩
  | false =>
    rw [pdig_neg hn] at hd hsz ⊢
    have h0 : 0 < s.size := by unfold digitsB at hd; rw [decide_eq_true_eq] at hd; exact hd.1
    have h45 : (s[0] == 45) = false := by
      unfold pneg at hn; rw [decide_eq_true h0, byte_at s 0 h0] at hn; simpa using hn
    have h45' : ((s[0].toNat : Int) == 45) = false := by rw [u8_eq]; exact h45
    have hc : (0 : Int) < (s.size : Int) := by omega
    go_enter Try.func19, Try.ntmps19
    go_wp2_with fail
    refine (refParse_yes _ _ (by omega) hd).mono ?_
    rintro e w2 ⟨v, rfl, hv, hb2⟩
    have hk2 := keepW hb2 (by simp) (resW w _ _ _)
    have B2 := (hA _).trans (hb2.mono (by simp))
    go_wp2_with fail
    refine (rmake_any _ _ _ _ hv).mono ?_
    rintro e w3 ⟨r, rfl, hr, hb3⟩
    obtain ⟨b2, ao2, n2, c2, rfl⟩ := hr.open
    obtain ⟨q1, q2, q3, q4⟩ := keepW hb3 (Nat.le_refl _) hk2
    go_wp2
    (try simp only [Exit.inBlock, Exit.then])
    refine bodyPost_ret (v := .tuple #[.agg #[.bool b2, .slice ao2 n2 c2], .int .i64 0]) (by simp [results, go_sem, q1, q2]) rfl ?_
    exact ⟨_, rfl, hr.store2 q1 q2 _ _, below_store2 (B2.trans (hb3.mono B2.size)) (Nat.le_refl _) _ _⟩

set_option maxRecDepth 20000 in
set_option maxHeartbeats 1000000 in
theorem rtext_any (v : Value) (z : Int) (w : World) (h : RepJ w v z) (hz : nl 10000 z.natAbs ≤ 100000) :
    Calls Try.prog 18 #[v] w fun e w' => e = .returned (.string (ztxt z)) ∧ Below w.heap.size w w' := by
  obtain ⟨ao, c, rfl, h⟩ := h
  have hA : ∀ o, Below w.heap.size w (w.alloc o) := fun o => (Below.refl _ _).alloc (Nat.le_refl _) _
  by_cases hn : z < 0
  · rw [decide_eq_true hn]
    have HZ : Hid (ztxt z = { data := #[45] } ++ txt z.natAbs) := by show _ = _; unfold ztxt; rw [if_pos hn]
    have hts : (txt z.natAbs).size ≤ 1000000 := by
      rw [txt_size]
      have h1 := lt_pow_nl 10000 z.natAbs (by decide)
      have h2 : 10000 ^ nl 10000 z.natAbs = 10 ^ (4 * nl 10000 z.natAbs) := by rw [Nat.pow_mul]
      rw [h2] at h1
      have := nl_le 10 z.natAbs _ (by decide) h1
      unfold ndec; split <;> omega
    clear hn
    go_enter Try.func18, Try.ntmps18
    go_wp2_with fail
    refine (refText_any _ _ _ (Nums.below h (hA _)) hz).mono ?_
    rintro e w1 ⟨rfl, hb1⟩
    generalize hT : txt z.natAbs = T at *
    go_wp2
    go_ret
    exact ⟨by rw [HZ.out]; rfl, (hA _).trans (hb1.mono (by simp))⟩
  · rw [decide_eq_false hn]
    have HZ : Hid (ztxt z = txt z.natAbs) := by show _ = _; unfold ztxt; rw [if_neg hn]
    clear hn
    go_enter Try.func18, Try.ntmps18
    go_wp2_with fail
    refine (refText_any _ _ _ (Nums.below h (hA _)) hz).mono ?_
    rintro e w1 ⟨rfl, hb1⟩
    go_wp2
    go_ret
    exact ⟨by rw [HZ.out]; rfl, (hA _).trans (hb1.mono (by simp))⟩

end Go.Proofs.Ytbnjogbbjoinnab
