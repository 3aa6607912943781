/-
  What whole.Of, To, Cmp, Print answer.
-/
import Derived.Test.YtbnjogbbjoinnaaWhole2
import Derived.Test.YtbnjogbbjoinnaaPrintAll
namespace Go.Proofs.Ytbnjogbbjoinnaa
open Go.RowKit

theorem zof_of_neg (k : Int) (h : k < 0) : zof true (-k).toNat = k := by rw [zof_true]; omega
theorem zof_of_pos (k : Int) (h : 0 ≤ k) : zof false k.toNat = k := by rw [zof_false]; omega

set_option maxRecDepth 20000 in
set_option maxHeartbeats 400000 in
theorem wof_any (k : Int) (w : World) (h0 : -9223372036854775808 ≤ k) (h1 : k ≤ 9223372036854775807) :
    Calls Try.prog 23 #[.int .i64 k] w fun e w' => ∃ r, e = .returned r ∧ RepI w' r k ∧ Below w.heap.size w w' := by
  have hA : ∀ o, Below w.heap.size w (w.alloc o) := fun o => (Below.refl _ _).alloc (Nat.le_refl _) _
  by_cases hk : k < 0
  · have e1 : IntKind.u64.wrap k = k + 18446744073709551616 := by rw [IntKind.wrap_u64]; omega
    have e2 : IntKind.u64.wrap (-(k + 18446744073709551616)) = -k := by rw [IntKind.wrap_u64]; omega
    go_enter Try.func23, Try.ntmps23
    go_wp2_with fail
    refine (of_any _ _ (by omega) (by omega)).mono ?_
    rintro e w1 ⟨s, rfl, hs, hb1⟩
    have hk1 := keepW hb1 (by simp) (resW w _ _ _)
    have B1 := (hA _).trans (hb1.mono (by simp))
    go_wp2_with fail
    refine (signed_any _ _ _ _ hs.nums).mono ?_
    rintro e w2 ⟨r, rfl, hr, hb2⟩
    obtain ⟨b2, ao2, n2, c2, rfl⟩ := hr.open
    obtain ⟨q1, q2, q3, q4⟩ := keepW hb2 (Nat.le_refl _) hk1
    go_wp2
    (try simp only [Exit.inBlock, Exit.then])
    refine bodyPost_ret (v := .agg #[.bool b2, .slice ao2 n2 c2]) (by simp [results, go_sem, q1, q2]) rfl ?_
    have B2 := B1.trans (hb2.mono B1.size)
    rw [zof_of_neg k hk] at hr
    exact ⟨_, rfl, hr.store2 q1 q2 _ _, below_store2 B2 (by omega) _ _⟩
  · have e1 : IntKind.u64.wrap k = k := by rw [IntKind.wrap_u64]; omega
    go_enter Try.func23, Try.ntmps23
    go_wp2_with fail
    refine (of_any _ _ (by omega) (by omega)).mono ?_
    rintro e w1 ⟨s, rfl, hs, hb1⟩
    have hk1 := keepW hb1 (by simp) (resW w _ _ _)
    have B1 := (hA _).trans (hb1.mono (by simp))
    go_wp2_with fail
    refine (signed_any _ _ _ _ hs.nums).mono ?_
    rintro e w2 ⟨r, rfl, hr, hb2⟩
    obtain ⟨b2, ao2, n2, c2, rfl⟩ := hr.open
    obtain ⟨q1, q2, q3, q4⟩ := keepW hb2 (Nat.le_refl _) hk1
    go_wp2
    (try simp only [Exit.inBlock, Exit.then])
    refine bodyPost_ret (v := .agg #[.bool b2, .slice ao2 n2 c2]) (by simp [results, go_sem, q1, q2]) rfl ?_
    have B2 := B1.trans (hb2.mono B1.size)
    rw [zof_of_pos k (by omega)] at hr
    exact ⟨_, rfl, hr.store2 q1 q2 _ _, below_store2 B2 (by omega) _ _⟩

theorem toV_num (f : Nat → Int) (n : Nat) (h : sz (lo f) n ≤ 2) : toV f n = (num f n : Int) := by
  have hv := num_val f n
  rw [val_sz] at hv
  unfold toV
  rw [if_pos h]
  have key : ∀ i, at0 f n i % 4294967296 = if i < n then lo f i else 0 := by
    intro i; unfold at0 lo; split <;> simp
  have hz : ∀ i, sz (lo f) n ≤ i → (if i < n then lo f i else 0) = 0 := by
    intro i hi
    by_cases g : i < n
    · rw [if_pos g]; exact sz_above (lo f) n i hi g
    · rw [if_neg g]
  have hle := sz_le (lo f) n
  rw [key 1, key 0]
  rcases (show sz (lo f) n = 0 ∨ sz (lo f) n = 1 ∨ sz (lo f) n = 2 by omega) with e | e | e
  · rw [hz 0 (by omega), hz 1 (by omega)]
    rw [e] at hv; simp [val] at hv; omega
  · rw [hz 1 (by omega), if_pos (show 0 < n by omega)]
    rw [e] at hv; simp [val] at hv; omega
  · rw [if_pos (show 0 < n by omega), if_pos (show 1 < n by omega)]
    rw [e] at hv; simp [val] at hv; omega
theorem nl_two (x : Nat) : nl W32 x ≤ 2 ↔ x < 18446744073709551616 := by
  constructor
  · intro h
    have h1 := lt_pow_nl W32 x (by decide)
    have h2 : W32 ^ nl W32 x ≤ W32 ^ 2 := Nat.pow_le_pow_right (by decide) h
    unfold W32 at *; omega
  · intro h; exact nl_le W32 x 2 (by decide) (by unfold W32; omega)

/-- Is a number small? -/
def fitsB (z : Int) : Bool := decide (-9223372036854775808 ≤ z ∧ z ≤ 9223372036854775807)
/-- The number as a small one; 0, if it is not. -/
def toI (z : Int) : Int := if fitsB z = true then z else 0

set_option maxRecDepth 20000 in
set_option maxHeartbeats 1000000 in
theorem wto_any (v : Value) (z : Int) (L : Nat) (w : World) (h : IntAt w v z L) :
    Calls Try.prog 24 #[v] w fun e w' => e = .returned (.tuple #[.int .i64 (toI z), .bool (fitsB z)]) ∧ Below w.heap.size w w' := by
  obtain ⟨neg, ao, n, c, f, rfl, h, hf, rfl, _⟩ := h
  have hA : ∀ o, Below w.heap.size w (w.alloc o) := fun o => (Below.refl _ _).alloc (Nat.le_refl _) _
  by_cases hsz : sz (lo f) n ≤ 2
  · have hx := toV_num f n hsz
    have hx2 : num f n < 18446744073709551616 := (nl_two _).1 (by rw [← num_sz]; exact hsz)
    cases neg with
    | true =>
      by_cases hle : num f n ≤ 9223372036854775808
      · have HF : Hid (fitsB (zof true (num f n)) = true) := by show _ = _; rw [zof_true]; unfold fitsB; rw [decide_eq_true_eq]; omega
        have e1 : wrap64 (IntKind.u64.wrap (-(num f n : Int))) = -(num f n : Int) := by rw [IntKind.wrap_u64]; unfold wrap64; omega
        have hle' : (num f n : Int) ≤ 9223372036854775808 := by omega
        clear hle hx2
        generalize hX : (num f n : Int) = X at *
        go_enter Try.func24, Try.ntmps24
        go_wp2_with fail
        refine (to_any _ _ _ _ (h.below (hA _)) hf).mono ?_
        rintro e w1 ⟨rfl, hw⟩
        subst hw
        rw [decide_eq_true hsz, hx]
        go_wp2
        go_ret2
        exact ⟨ret_int_bool (by unfold toI; rw [if_pos HF.out, zof_true, hX]; exact e1) HF.out.symm, hA _⟩
      · have HF : Hid (fitsB (zof true (num f n)) = false) := by show _ = _; rw [zof_true]; unfold fitsB; rw [decide_eq_false_iff_not]; omega
        have hle' : ¬ (num f n : Int) ≤ 9223372036854775808 := by omega
        clear hle hx2
        generalize hX : (num f n : Int) = X at *
        go_enter Try.func24, Try.ntmps24
        go_wp2_with fail
        refine (to_any _ _ _ _ (h.below (hA _)) hf).mono ?_
        rintro e w1 ⟨rfl, hw⟩
        subst hw
        rw [decide_eq_true hsz, hx]
        go_wp2
        go_ret2
        exact ⟨ret_int_bool (by unfold toI; rw [HF.out]; rfl) HF.out.symm, hA _⟩
    | false =>
      by_cases hle : num f n < 9223372036854775808
      · have HF : Hid (fitsB (zof false (num f n)) = true) := by show _ = _; rw [zof_false]; unfold fitsB; rw [decide_eq_true_eq]; omega
        have e1 : wrap64 (num f n : Int) = (num f n : Int) := by unfold wrap64; omega
        have hle' : (num f n : Int) < 9223372036854775808 := by omega
        clear hle hx2
        generalize hX : (num f n : Int) = X at *
        go_enter Try.func24, Try.ntmps24
        go_wp2_with fail
        refine (to_any _ _ _ _ (h.below (hA _)) hf).mono ?_
        rintro e w1 ⟨rfl, hw⟩
        subst hw
        rw [decide_eq_true hsz, hx]
        go_wp2
        go_ret2
        exact ⟨ret_int_bool (by unfold toI; rw [if_pos HF.out, zof_false, hX]) HF.out.symm, hA _⟩
      · have HF : Hid (fitsB (zof false (num f n)) = false) := by show _ = _; rw [zof_false]; unfold fitsB; rw [decide_eq_false_iff_not]; omega
        have hle' : ¬ (num f n : Int) < 9223372036854775808 := by omega
        clear hle hx2
        generalize hX : (num f n : Int) = X at *
        go_enter Try.func24, Try.ntmps24
        go_wp2_with fail
        refine (to_any _ _ _ _ (h.below (hA _)) hf).mono ?_
        rintro e w1 ⟨rfl, hw⟩
        subst hw
        rw [decide_eq_true hsz, hx]
        go_wp2
        go_ret2
        exact ⟨ret_int_bool (by unfold toI; rw [HF.out]; rfl) HF.out.symm, hA _⟩
  · have hx2 : ¬ num f n < 18446744073709551616 := fun g => hsz (by rw [num_sz]; exact (nl_two _).2 g)
    have HF : Hid (fitsB (zof neg (num f n)) = false) := by show _ = _; unfold fitsB; rw [decide_eq_false_iff_not]; cases neg <;> simp only [zof] <;> simp <;> omega
    go_enter Try.func24, Try.ntmps24
    go_wp2_with fail
    refine (to_any _ _ _ _ (h.below (hA _)) hf).mono ?_
    rintro e w1 ⟨rfl, hw⟩
    subst hw
    rw [decide_eq_false hsz]
    go_wp2
    go_ret2
    exact ⟨ret_int_bool (by unfold toI; rw [HF.out]; rfl) HF.out.symm, hA _⟩

/-- A number's text. -/
def ztxt (z : Int) : ByteArray := if z < 0 then { data := #[45] } ++ txt z.natAbs else txt z.natAbs

theorem ndec_le (x n : Nat) (h : x < W32 ^ n) : ndec x ≤ 10 * n + 1 := by
  have h1 : W32 ^ n ≤ 10 ^ (10 * n) := by rw [Nat.pow_mul]; exact Nat.pow_le_pow_left (by decide) n
  have h2 := nl_le 10 x (10 * n) (by omega) (by omega)
  unfold ndec; split <;> omega

set_option maxRecDepth 20000 in
set_option maxHeartbeats 1000000 in
theorem wprint_any (v : Value) (z : Int) (L : Nat) (w : World) (h : IntAt w v z L) (hL : L ≤ 10000) :
    Calls Try.prog 44 #[v] w fun e w' => e = .returned (.string (ztxt z)) ∧ Below w.heap.size w w' := by
  obtain ⟨neg, ao, n, c, f, rfl, h, hf, rfl, hn⟩ := h
  have hA : ∀ o, Below w.heap.size w (w.alloc o) := fun o => (Below.refl _ _).alloc (Nat.le_refl _) _
  obtain ⟨c1, c2, _, _⟩ := resW w 25 (.bool neg) (.slice ao n c)
  go_enter Try.func44, Try.ntmps44
  go_wp2_with fail
  refine (sign_any _ (zof neg (num f n)) L _ ⟨_, _, _, _, _, rfl, h.below (hA _), hf, rfl, hn⟩).mono ?_
  rintro e w1 ⟨rfl, hb1⟩
  obtain ⟨d1, d2⟩ := keep2 hb1 (by simp) ⟨c1, c2⟩
  have B1 := (hA _).trans (hb1.mono (by simp))
  clear c1 c2
  by_cases hz : zof neg (num f n) < 0
  · rw [cmpI_lt hz]
    go_wp2_with fail
    refine (print_any _ _ _ _ (h.below B1) hf (by omega)).mono ?_
    rintro e w2 ⟨rfl, hb2⟩
    have HZ : Hid (ztxt (zof neg (num f n)) = { data := #[45] } ++ txt (num f n)) := by show _ = _; unfold ztxt; rw [if_pos hz, zof_abs]
    clear hz
    have hts : (txt (num f n)).size ≤ 1000000 := by
      rw [txt_size]; have := ndec_le _ _ (num_lt f n); omega
    generalize hT : txt (num f n) = T at *
    go_wp2
    go_ret
    exact ⟨by rw [HZ.out]; rfl, B1.trans (hb2.mono B1.size)⟩
  · have hc : ¬ cmpI (zof neg (num f n)) 0 < 0 := by unfold cmpI; rw [if_neg hz]; split <;> omega
    have HZ : Hid (ztxt (zof neg (num f n)) = txt (num f n)) := by show _ = _; unfold ztxt; rw [if_neg hz, zof_abs]
    clear hz
    generalize cmpI (zof neg (num f n)) 0 = C at *
    go_wp2_with fail
    refine (print_any _ _ _ _ (h.below B1) hf (by omega)).mono ?_
    rintro e w2 ⟨rfl, hb2⟩
    go_wp2
    go_ret
    exact ⟨by rw [HZ.out]; rfl, B1.trans (hb2.mono B1.size)⟩

theorem cmp_sign {x y : Int} (h : ¬ cmpI x 0 = cmpI y 0) : cmpI (cmpI x 0) (cmpI y 0) = cmpI x y := by
  unfold cmpI at *; repeat' split <;> simp_all <;> omega

set_option maxRecDepth 20000 in
set_option maxHeartbeats 2000000 in
theorem wcmp_any (u v : Value) (x y : Int) (L M : Nat) (w : World) (hu : IntAt w u x L) (hv : IntAt w v y M) :
    Calls Try.prog 25 #[u, v] w fun e w' => e = .returned (.int .i64 (cmpI x y)) ∧ Below w.heap.size w w' := by
  obtain ⟨p, ao, n, c, f, rfl, hu, hf, rfl, hn⟩ := hu
  obtain ⟨q, bo, m, d, g, rfl, hv, hg, rfl, hm⟩ := hv
  have hA : ∀ o o', Below w.heap.size w ((w.alloc o).alloc o') := fun o o' => ((Below.refl _ _).alloc (Nat.le_refl _) _).alloc (by simp) _
  have c1 := (resW w 25 (.bool p) (.slice ao n c))
  have c2 := (res1 w (.cells #[.bool p, .slice ao n c] 25) 25 (.bool q) (.slice bo m d))
  have b1 : Below (w.heap.size + 1) (w.alloc (.cells #[.bool p, .slice ao n c] 25)) ((w.alloc (.cells #[.bool p, .slice ao n c] 25)).alloc (.cells #[.bool q, .slice bo m d] 25)) := (Below.refl _ _).alloc (by simp) _
  have k1 := keep2 b1 (by simp) ⟨c1.1, c1.2.1⟩
  have hS : ((w.alloc (.cells #[.bool p, .slice ao n c] 25)).alloc (.cells #[.bool q, .slice bo m d] 25)).drew.cell? ⟨w.heap.size, 0, none⟩ = some (.bool p) ∧ ((w.alloc (.cells #[.bool p, .slice ao n c] 25)).alloc (.cells #[.bool q, .slice bo m d] 25)).drew.cell? ⟨w.heap.size, 1, none⟩ = some (.slice ao n c) ∧ ((w.alloc (.cells #[.bool p, .slice ao n c] 25)).alloc (.cells #[.bool q, .slice bo m d] 25)).drew.cell? ⟨w.heap.size + 1, 0, none⟩ = some (.bool q) ∧ ((w.alloc (.cells #[.bool p, .slice ao n c] 25)).alloc (.cells #[.bool q, .slice bo m d] 25)).drew.cell? ⟨w.heap.size + 1, 1, none⟩ = some (.slice bo m d) := ⟨k1.1, k1.2, c2.1, c2.2.1⟩
  clear c1 c2 b1 k1
  have BA : Below w.heap.size w ((w.alloc (.cells #[.bool p, .slice ao n c] 25)).alloc (.cells #[.bool q, .slice bo m d] 25)).drew := (hA _ _).drew
  go_enter Try.func25, Try.ntmps25
  go_wp2
  go_region_held3 (fun w' => w'.cell? ⟨w.heap.size, 0, none⟩ = some (.bool p) ∧ w'.cell? ⟨w.heap.size, 1, none⟩ = some (.slice ao n c) ∧ w'.cell? ⟨w.heap.size + 1, 0, none⟩ = some (.bool q) ∧ w'.cell? ⟨w.heap.size + 1, 1, none⟩ = some (.slice bo m d)) (first | exact keep4 (by assumption) (by simp) (by assumption) | exact hS | go_keep) (first
    | (go_at_call_of 17 (Value.slice ao n c); refine (sign_any _ (zof p (num f n)) L _ ⟨_, _, _, _, _, rfl, hu.below BA, hf, rfl, hn⟩).mono ?_; rintro e w1 ⟨rfl, hb1⟩)
    | (go_at_call_of 17 (Value.slice bo m d); refine (sign_any _ (zof q (num g m)) M _ ⟨_, _, _, _, _, rfl, (hv.below BA).below hb1, hg, rfl, hm⟩).mono ?_; rintro e w2 ⟨rfl, hb2⟩))
  obtain ⟨d1, d2, d3, d4⟩ := keep4 hb2 (Nat.le_refl _) (keep4 hb1 (Nat.le_refl _) hS)
  have B1 : Below w.heap.size w w1 := BA.trans (hb1.mono BA.size)
  have B2 : Below w.heap.size w w2 := B1.trans (hb2.mono B1.size)
  clear hS
  by_cases hs : cmpI (zof p (num f n)) 0 = cmpI (zof q (num g m)) 0
  · have hne : (cmpI (zof p (num f n)) 0 != cmpI (zof q (num g m)) 0) = false := by simp [hs]
    by_cases hz : zof p (num f n) < 0
    · have hp : p = true := by cases p <;> simp [zof] at hz ⊢ <;> omega
      have hq : q = true := by
        rw [cmpI_lt hz] at hs
        have : zof q (num g m) < 0 := by unfold cmpI at hs; split at hs <;> (try assumption) <;> (split at hs <;> omega)
        cases q <;> simp [zof] at this ⊢ <;> omega
      have hc : cmpI (zof p (num f n)) 0 < 0 := by rw [cmpI_lt hz]; omega
      have HE : Hid (cmpI (zof p (num f n)) (zof q (num g m)) = cmpI (num g m) (num f n)) := by
        show _ = _; rw [hp, hq, zof_true, zof_true]; unfold cmpI; repeat' split <;> omega
      clear hz hs hp hq
      generalize cmpI (zof p (num f n)) 0 = X at *
      generalize cmpI (zof q (num g m)) 0 = Y at *
      go_wp2_with fail
      refine (cmp_any _ _ _ _ _ _ _ (hv.below B2) (hu.below B2) hg hf).mono ?_
      rintro e w3 ⟨rfl, hb3⟩
      go_wp2
      go_ret
      exact ⟨by rw [HE.out]; rfl, B2.trans (hb3.mono B2.size)⟩
    · have hc : ¬ cmpI (zof p (num f n)) 0 < 0 := by unfold cmpI; rw [if_neg hz]; split <;> omega
      have HE : Hid (cmpI (zof p (num f n)) (zof q (num g m)) = cmpI (num f n) (num g m)) := by
        have h0 : ¬ zof q (num g m) < 0 := fun h => by rw [cmpI_lt h] at hs; omega
        have e1 : zof p (num f n) = (num f n : Int) := by cases p <;> simp [zof] at hz ⊢ <;> omega
        have e2 : zof q (num g m) = (num g m : Int) := by cases q <;> simp [zof] at h0 ⊢ <;> omega
        show _ = _; rw [e1, e2]
      clear hz hs
      generalize cmpI (zof p (num f n)) 0 = X at *
      generalize cmpI (zof q (num g m)) 0 = Y at *
      go_wp2_with fail
      refine (cmp_any _ _ _ _ _ _ _ (hu.below B2) (hv.below B2) hf hg).mono ?_
      rintro e w3 ⟨rfl, hb3⟩
      go_wp2
      go_ret
      exact ⟨by rw [HE.out]; rfl, B2.trans (hb3.mono B2.size)⟩
  · have hne : (cmpI (zof p (num f n)) 0 != cmpI (zof q (num g m)) 0) = true := by simp [hs]
    have HE : Hid (cmpI (cmpI (zof p (num f n)) 0) (cmpI (zof q (num g m)) 0) = cmpI (zof p (num f n)) (zof q (num g m))) := cmp_sign hs
    clear hs
    generalize cmpI (zof p (num f n)) 0 = X at *
    generalize cmpI (zof q (num g m)) 0 = Y at *
    go_wp2_with fail
    refine (compare_int _ _ _).mono ?_
    rintro e w3 ⟨rfl, hw⟩
    subst hw
    go_wp2
    go_ret
    exact ⟨by rw [← HE.out]; rfl, B2⟩

end Go.Proofs.Ytbnjogbbjoinnaa
