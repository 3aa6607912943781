/-
  What nat.power and nat.Pow answer.
-/
import Derived.Test.YthhabammejkjcaaDoorProduct
import Derived.Test.YthhabammejkjcaaDoorSqrt
namespace Go.Proofs.YthhabammejkjcaaDoor
open Go.RowKit

theorem two63' : (2 : Int) ^ 63 = 9223372036854775808 := by decide
theorem and_one_int (i : Nat) (hi : i < 9223372036854775808) : bits BinOp.and IntKind.i64 (i : Int) 1 = ((i % 2 : Nat) : Int) := by
  have h := bits_mask .i64 63 (by decide) (fun n h0 h1 => by rw [two63'] at h1; rw [IntKind.wrap_i64]; omega) 1 (by decide) (i : Int) (by omega) (by rw [two63']; omega)
  have e : ((2 : Int) ^ 1 - 1) = 1 := by decide
  rw [e] at h
  rw [h]
  omega

theorem nl_pow (x l n : Nat) (h : nl W32 x ≤ l) : nl W32 (x ^ n) ≤ l * n + 1 := by
  refine nl_le W32 _ _ (by decide) ?_
  have h1 : x < W32 ^ l := Nat.lt_of_lt_of_le (lt_pow_nl W32 x (by decide)) (Nat.pow_le_pow_right (by decide) h)
  have h2 : x ^ n ≤ (W32 ^ l) ^ n := Nat.pow_le_pow_left (Nat.le_of_lt h1) n
  rw [← Nat.pow_mul] at h2
  have h3 : W32 ^ (l * n) < W32 ^ (l * n + 1) := Nat.pow_lt_pow_right (by decide) (by omega)
  omega

theorem half_pow (x n i : Nat) : x ^ (n / 2 ^ (i + 1)) * x ^ (n / 2 ^ (i + 1)) * x ^ (n / 2 ^ i % 2) = x ^ (n / 2 ^ i) := by
  rw [← Nat.pow_add, ← Nat.pow_add]
  congr 1
  rw [Nat.pow_succ, ← Nat.div_div_eq_div_mul]
  generalize n / 2 ^ i = m
  omega

set_option maxRecDepth 20000 in
set_option maxHeartbeats 2000000 in
theorem power_any (u : Value) (x n : Nat) (w : World) (hu : Rep w u x) (hn : n ≤ 4096) (hx : nl W32 x ≤ 40) :
    Calls Tryd.prog 86 #[u, .int .i64 (n : Int)] w fun e w' => ∃ r, e = .returned r ∧ RepM w.heap.size w' r (x ^ n) ∧ Below w.heap.size w w' := by
  have hT0 : n = 0 → Lib.bitLen n = 0 := fun e => by rw [e]; decide
  have hTb : n ≠ 0 → 2 ^ (Lib.bitLen n - 1) ≤ n ∧ n < 2 ^ Lib.bitLen n ∧ 0 < Lib.bitLen n := fun e => bitLen_pow n e (by omega)
  have hT32 : Lib.bitLen n ≤ 32 := Lib.bitLen_le n 32 (by omega) (by omega)
  have HT1 : Hid (n < 2 ^ Lib.bitLen n) := by
    show _ < _
    by_cases e : n = 0
    · rw [hT0 e, e]; omega
    · exact (hTb e).2.1
  clear hT0 hTb
  have HNL : Hid (∀ m, m ≤ n → nl W32 (x ^ m) ≤ 163841) := fun m hm => Nat.le_trans (nl_pow x 40 m hx) (by omega)
  go_enter Tryd.func86, Tryd.ntmps86
  go_wp2_with fail
  refine (of_any 1 _ (by omega) (by omega)).mono ?_
  rintro e w3 ⟨o3, rfl, ho3, hb3⟩
  go_wp2_with fail
  refine (blen_any (n : Int) _ (by omega) (by omega)).mono ?_
  rintro e w4 ⟨rfl, hw4⟩
  subst hw4
  rw [Int.toNat_natCast]
  generalize Lib.bitLen n = T at *
  go_wp2
  go_loopw [5, 6] (fun vo vi wr => ∃ k : Nat, k ≤ T ∧ vi = .int .i64 ((k : Int) - 1) ∧ RepM w.heap.size wr vo (x ^ (n / 2 ^ k)) ∧ Below w.heap.size w wr) (fun _ vi _ => (intOf vi + 1).toNat)
  case atStart =>
    have e : n / 2 ^ T = 0 := Nat.div_eq_of_lt HT1.out
    exact ⟨T, Nat.le_refl _, rfl, by rw [e]; exact ho3, hb3⟩
  case round =>
    clear ho3 hb3
    obtain ⟨k, hk, rfl, hro, hbel⟩ := hrel
    have hsz := hbel.size
    cases k with
    | zero =>
      have e1 : (((0 : Nat) : Int) - 1) = -1 := by omega
      go_wp2
      go_ret
      exact ⟨_, rfl, by simpa using hro, hbel⟩
    | succ i =>
      have e1 : (((i + 1 : Nat) : Int) - 1) = (i : Int) := by omega
      rw [e1]
      have hhp := half_pow x n i
      have hm1 : n / 2 ^ (i + 1) ≤ n := Nat.div_le_self _ _
      have hm0 : n / 2 ^ i ≤ n := Nat.div_le_self _ _
      have hdi : ((n : Int) / 2 ^ i) = ((n / 2 ^ i : Nat) : Int) := by rw [Int.natCast_ediv]; simp
      have hand := and_one_int (n / 2 ^ i) (by omega)
      have hN1 := HNL.out _ hm1
      have hN0 : nl W32 (x ^ (n / 2 ^ (i + 1)) * x ^ (n / 2 ^ (i + 1))) ≤ 163841 := by
        rw [← Nat.pow_add]
        refine HNL.out _ ?_
        rw [Nat.pow_succ, ← Nat.div_div_eq_div_mul]
        omega
      have HHP : Hid (x ^ (n / 2 ^ (i + 1)) * x ^ (n / 2 ^ (i + 1)) * x ^ (n / 2 ^ i % 2) = x ^ (n / 2 ^ i)) := hhp
      have hPP : Hid (ProdAt (x ^ (n / 2 ^ (i + 1))) (x ^ (n / 2 ^ (i + 1)))) := product_all _ _ (by omega)
      have hPX : Hid (ProdAt (x ^ (n / 2 ^ (i + 1)) * x ^ (n / 2 ^ (i + 1))) x) := product_all _ _ (by omega)
      clear hhp hN1 hN0 hm1
      generalize hm : n / 2 ^ i = m at *
      have HM : Hid (n / 2 ^ i = m) := hm
      clear hm
      generalize x ^ (n / 2 ^ (i + 1)) = A at *
      have hbit : m % 2 = 0 ∨ m % 2 = 1 := by omega
      rcases hbit with hb | hb
      · rw [hb] at hand HHP
        go_wp2_with fail
        refine (hPP.out _ _ _ hro.rep hro.rep).mono ?_
        rintro e w5 ⟨r5, rfl, hr5, hb5⟩
        have hr5' : RepM w.heap.size w5 r5 (A * A) := hr5.le hsz
        have bel5 : Below w.heap.size w w5 := hbel.trans (hb5.mono hsz)
        clear hr5 hb5 hro hbel
        go_wp2
        go_roundw
        case rel => exact ⟨i, by omega, by go_num, by rw [HM.out, ← HHP.out]; simpa using hr5', bel5⟩
        case measure => simp [intOf]
      · rw [hb] at hand HHP
        go_wp2_with fail
        refine (hPP.out _ _ _ hro.rep hro.rep).mono ?_
        rintro e w5 ⟨r5, rfl, hr5, hb5⟩
        have hs5 := hb5.size
        have hu5 := Nums.below (Nums.below hu hbel) hb5
        go_wp2_with fail
        refine (hPX.out _ _ _ hr5.rep hu5).mono ?_
        rintro e w6 ⟨r6, rfl, hr6, hb6⟩
        have hr6' : RepM w.heap.size w6 r6 (A * A * x) := hr6.le (by omega)
        have bel6 : Below w.heap.size w w6 := hbel.trans ((hb5.mono hsz).trans (hb6.mono (by omega)))
        clear hr5 hb5 hro hbel hr6 hb6 hu5
        go_wp2
        go_roundw
        case rel => exact ⟨i, by omega, by go_num, by rw [HM.out, ← HHP.out]; simpa using hr6', bel6⟩
        case measure => simp [intOf]

end Go.Proofs.YthhabammejkjcaaDoor
