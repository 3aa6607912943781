/-
  What whole.Of, To, Cmp, Print answer.
-/
import Derived.Test.YthhabammejkjcaaDoorWhole2
import Derived.Test.YthhabammejkjcaaDoorPrintAll
namespace Go.Proofs.YthhabammejkjcaaDoor
open Go.RowKit

theorem zof_of_neg (k : Int) (h : k < 0) : zof true (-k).toNat = k := by rw [zof_true]; omega
theorem zof_of_pos (k : Int) (h : 0 ≤ k) : zof false k.toNat = k := by rw [zof_false]; omega

set_option maxRecDepth 20000 in
set_option maxHeartbeats 400000 in
theorem wof_any (k : Int) (w : World) (h0 : -9223372036854775808 ≤ k) (h1 : k ≤ 9223372036854775807) :
    Calls Tryd.prog 46 #[.int .i64 k] w fun e w' => ∃ r, e = .returned r ∧ RepI w' r k ∧ Below w.heap.size w w' := by
  have hA : ∀ o, Below w.heap.size w (w.alloc o) := fun o => (Below.refl _ _).alloc (Nat.le_refl _) _
  by_cases hk : k < 0
  · have e1 : IntKind.u64.wrap k = k + 18446744073709551616 := by rw [IntKind.wrap_u64]; omega
    have e2 : IntKind.u64.wrap (-(k + 18446744073709551616)) = -k := by rw [IntKind.wrap_u64]; omega
    go_enter Tryd.func46, Tryd.ntmps46
    go_wp2_with fail
    refine (of_any _ _ (by omega) (by omega)).mono ?_
    rintro e w1 ⟨s, rfl, hs, hb1⟩
    have hk1 := keepW hb1 (by simp) (resW w _ _ _)
    have B1 := (hA _).trans (hb1.mono (by simp))
    go_wp2_with fail
    refine (signed_any _ _ _ _ hs.nums).mono ?_
    rintro e w2 ⟨r, rfl, hr, hb2⟩
    obtain ⟨b2, ao2, n2, c2, rfl⟩ := hr.open
    obtain ⟨q1, q2, q3, q4⟩ := keepW hb2 (Nat.le_refl _) hk1
    go_wp2
    (try simp only [Exit.inBlock, Exit.then])
    refine bodyPost_ret (v := .agg #[.bool b2, .slice ao2 n2 c2]) (by simp [results, go_sem, q1, q2]) rfl ?_
    have B2 := B1.trans (hb2.mono B1.size)
    rw [zof_of_neg k hk] at hr
    exact ⟨_, rfl, hr.store2 q1 q2 _ _, below_store2 B2 (by omega) _ _⟩
  · have e1 : IntKind.u64.wrap k = k := by rw [IntKind.wrap_u64]; omega
    go_enter Tryd.func46, Tryd.ntmps46
    go_wp2_with fail
    refine (of_any _ _ (by omega) (by omega)).mono ?_
    rintro e w1 ⟨s, rfl, hs, hb1⟩
    have hk1 := keepW hb1 (by simp) (resW w _ _ _)
    have B1 := (hA _).trans (hb1.mono (by simp))
    go_wp2_with fail
    refine (signed_any _ _ _ _ hs.nums).mono ?_
    rintro e w2 ⟨r, rfl, hr, hb2⟩
    obtain ⟨b2, ao2, n2, c2, rfl⟩ := hr.open
    obtain ⟨q1, q2, q3, q4⟩ := keepW hb2 (Nat.le_refl _) hk1
    go_wp2
    (try simp only [Exit.inBlock, Exit.then])
    refine bodyPost_ret (v := .agg #[.bool b2, .slice ao2 n2 c2]) (by simp [results, go_sem, q1, q2]) rfl ?_
    have B2 := B1.trans (hb2.mono B1.size)
    rw [zof_of_pos k (by omega)] at hr
    exact ⟨_, rfl, hr.store2 q1 q2 _ _, below_store2 B2 (by omega) _ _⟩

theorem toV_num (f : Nat → Int) (n : Nat) (h : sz (lo f) n ≤ 2) : toV f n = (num f n : Int) := by
  have hv := num_val f n
  rw [val_sz] at hv
  unfold toV
  rw [if_pos h]
  have key : ∀ i, at0 f n i % 4294967296 = if i < n then lo f i else 0 := by
    intro i; unfold at0 lo; split <;> simp
  have hz : ∀ i, sz (lo f) n ≤ i → (if i < n then lo f i else 0) = 0 := by
    intro i hi
    by_cases g : i < n
    · rw [if_pos g]; exact sz_above (lo f) n i hi g
    · rw [if_neg g]
  have hle := sz_le (lo f) n
  rw [key 1, key 0]
  rcases (show sz (lo f) n = 0 ∨ sz (lo f) n = 1 ∨ sz (lo f) n = 2 by omega) with e | e | e
  · rw [hz 0 (by omega), hz 1 (by omega)]
    rw [e] at hv; simp [val] at hv; omega
  · rw [hz 1 (by omega), if_pos (show 0 < n by omega)]
    rw [e] at hv; simp [val] at hv; omega
  · rw [if_pos (show 0 < n by omega), if_pos (show 1 < n by omega)]
    rw [e] at hv; simp [val] at hv; omega
theorem nl_two (x : Nat) : nl W32 x ≤ 2 ↔ x < 18446744073709551616 := by
  constructor
  · intro h
    have h1 := lt_pow_nl W32 x (by decide)
    have h2 : W32 ^ nl W32 x ≤ W32 ^ 2 := Nat.pow_le_pow_right (by decide) h
    unfold W32 at *; omega
  · intro h; exact nl_le W32 x 2 (by decide) (by unfold W32; omega)

/-- Is a number small? -/
def fitsB (z : Int) : Bool := decide (-9223372036854775808 ≤ z ∧ z ≤ 9223372036854775807)
/-- The number as a small one; 0, if it is not. -/
def toI (z : Int) : Int := if fitsB z = true then z else 0

/-- A number's text. -/
def ztxt (z : Int) : ByteArray := if z < 0 then { data := #[45] } ++ txt z.natAbs else txt z.natAbs

theorem ndec_le (x n : Nat) (h : x < W32 ^ n) : ndec x ≤ 10 * n + 1 := by
  have h1 : W32 ^ n ≤ 10 ^ (10 * n) := by rw [Nat.pow_mul]; exact Nat.pow_le_pow_left (by decide) n
  have h2 := nl_le 10 x (10 * n) (by omega) (by omega)
  unfold ndec; split <;> omega

set_option maxRecDepth 20000 in
set_option maxHeartbeats 1000000 in
theorem wprint_any (v : Value) (z : Int) (L : Nat) (w : World) (h : IntAt w v z L) (hL : L ≤ 10000) :
    Calls Tryd.prog 53 #[v] w fun e w' => e = .returned (.string (ztxt z)) ∧ Below w.heap.size w w' := by
  obtain ⟨neg, ao, n, c, f, rfl, h, hf, rfl, hn⟩ := h
  have hA : ∀ o, Below w.heap.size w (w.alloc o) := fun o => (Below.refl _ _).alloc (Nat.le_refl _) _
  obtain ⟨c1, c2, _, _⟩ := resW w 36 (.bool neg) (.slice ao n c)
  go_enter Tryd.func53, Tryd.ntmps53
  go_wp2_with fail
  refine (sign_any _ (zof neg (num f n)) L _ ⟨_, _, _, _, _, rfl, h.below (hA _), hf, rfl, hn⟩).mono ?_
  rintro e w1 ⟨rfl, hb1⟩
  obtain ⟨d1, d2⟩ := keep2 hb1 (by simp) ⟨c1, c2⟩
  have B1 := (hA _).trans (hb1.mono (by simp))
  clear c1 c2
  by_cases hz : zof neg (num f n) < 0
  · rw [cmpI_lt hz]
    go_wp2_with fail
    refine (print_any _ _ _ _ (h.below B1) hf (by omega)).mono ?_
    rintro e w2 ⟨rfl, hb2⟩
    have HZ : Hid (ztxt (zof neg (num f n)) = { data := #[45] } ++ txt (num f n)) := by show _ = _; unfold ztxt; rw [if_pos hz, zof_abs]
    clear hz
    have hts : (txt (num f n)).size ≤ 1000000 := by
      rw [txt_size]; have := ndec_le _ _ (num_lt f n); omega
    generalize hT : txt (num f n) = T at *
    go_wp2
    go_ret
    exact ⟨by rw [HZ.out]; rfl, B1.trans (hb2.mono B1.size)⟩
  · have hc : ¬ cmpI (zof neg (num f n)) 0 < 0 := by unfold cmpI; rw [if_neg hz]; split <;> omega
    have HZ : Hid (ztxt (zof neg (num f n)) = txt (num f n)) := by show _ = _; unfold ztxt; rw [if_neg hz, zof_abs]
    clear hz
    generalize cmpI (zof neg (num f n)) 0 = C at *
    go_wp2_with fail
    refine (print_any _ _ _ _ (h.below B1) hf (by omega)).mono ?_
    rintro e w2 ⟨rfl, hb2⟩
    go_wp2
    go_ret
    exact ⟨by rw [HZ.out]; rfl, B1.trans (hb2.mono B1.size)⟩

theorem cmp_sign {x y : Int} (h : ¬ cmpI x 0 = cmpI y 0) : cmpI (cmpI x 0) (cmpI y 0) = cmpI x y := by
  unfold cmpI at *; repeat' split <;> simp_all <;> omega

end Go.Proofs.YthhabammejkjcaaDoor
