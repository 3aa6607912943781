/-
  What nat.Pow and nat.PowMod answer, and the document's own Power.
-/
import Derived.Test.YtagphmhgceajhabPower
import Derived.Test.YtagphmhgceajhabLaw
namespace Go.Proofs.Ytagphmhgceajhab
open Go.RowKit

set_option maxHeartbeats 400000 in
theorem pow_range (u : Value) (k : Int) (w : World) (hk : k < 0 ∨ 4096 < k) :
    Calls Try.prog 27 #[u, .int .i64 k] w fun e w' => e = .returned (.tuple #[.slice none 0 0, .int .i64 8]) ∧ w' = w := by
  by_cases h0 : k < 0
  · go_enter Try.func27, Try.ntmps27
    go_wp2
    go_ret2
    exact ⟨rfl, rfl⟩
  · have h1 : 4096 < k := by omega
    go_enter Try.func27, Try.ntmps27
    go_wp2
    go_ret2
    exact ⟨rfl, rfl⟩

set_option maxHeartbeats 400000 in
theorem pow_ok (u : Value) (n k : Nat) (f : Nat → Int) (w : World) (hu : Nums .u64 w u n f) (hf : U64 n f) (hn : n ≤ 40) (hk : k ≤ 4096) :
    Calls Try.prog 27 #[u, .int .i64 (k : Int)] w fun e w' => ∃ r, e = .returned (.tuple #[r, .int .i64 0]) ∧ RepM w.heap.size w' r (num f n ^ k) ∧ Below w.heap.size w w' := by
  have hx := nl_le W32 (num f n) n (by decide) (num_lt f n)
  have h0 : ¬ (k : Int) < 0 := by omega
  have h1 : ¬ (4096 : Int) < (k : Int) := by omega
  go_enter Try.func27, Try.ntmps27
  go_wp2_with fail
  refine (plain_any _ _ _ _ hu hf).mono ?_
  rintro e w1 ⟨r1, rfl, hr1, hb1⟩
  go_wp2_with fail
  refine (power_any _ _ k _ hr1 hk (by omega)).mono ?_
  rintro e w2 ⟨r2, rfl, hr2, hb2⟩
  have s1 := hb1.size
  go_wp2
  go_ret2
  exact ⟨_, rfl, hr2.le s1, hb1.trans (hb2.mono s1)⟩

set_option maxHeartbeats 400000 in
theorem powMod_zero (u v z : Value) (n : Nat) (f : Nat → Int) (w : World) (hz : Nums .u64 w z n f) (hf : U64 n f) (h0 : num f n = 0) :
    Calls Try.prog 29 #[u, v, z] w fun e w' => e = .returned (.tuple #[.slice none 0 0, .int .i64 2]) ∧ w' = w := by
  have hd : decide (sz (lo f) n = 0) = true := by
    rw [num_sz]; simp only [decide_eq_true_eq]; rw [nl_eq_zero W32 _ (by decide)]; exact h0
  go_enter Try.func29, Try.ntmps29
  go_wp2_with fail
  refine (zero_any _ _ _ _ hz hf).mono ?_
  rintro e w1 ⟨rfl, rfl⟩
  rw [hd]
  go_wp2
  go_ret2
  exact ⟨rfl, rfl⟩

theorem nl_of_lt (x M l : Nat) (h : x < M) (hl : nl W32 M ≤ l) : nl W32 x ≤ l :=
  nl_le W32 _ _ (by decide) (Nat.lt_trans h (Nat.lt_of_lt_of_le (lt_pow_nl W32 M (by decide)) (Nat.pow_le_pow_right (by decide) hl)))
theorem nl_mul (x y a b : Nat) (hx : nl W32 x ≤ a) (hy : nl W32 y ≤ b) : nl W32 (x * y) ≤ a + b := by
  refine nl_le W32 _ _ (by decide) ?_
  rw [Nat.pow_add]
  exact Nat.mul_lt_mul_of_lt_of_lt (Nat.lt_of_lt_of_le (lt_pow_nl W32 x (by decide)) (Nat.pow_le_pow_right (by decide) hx)) (Nat.lt_of_lt_of_le (lt_pow_nl W32 y (by decide)) (Nat.pow_le_pow_right (by decide) hy))

theorem mod_step0 (x E i M : Nat) (h : E / 2 ^ i % 2 = 0) : (x ^ (E / 2 ^ (i + 1)) % M) * (x ^ (E / 2 ^ (i + 1)) % M) % M = x ^ (E / 2 ^ i) % M := by
  have hp := half_pow x E i
  rw [h, Nat.pow_zero, Nat.mul_one] at hp
  rw [← Nat.mul_mod, hp]
theorem mod_step1 (x E i M : Nat) (h : E / 2 ^ i % 2 = 1) : ((x ^ (E / 2 ^ (i + 1)) % M) * (x ^ (E / 2 ^ (i + 1)) % M) % M) * (x % M) % M = x ^ (E / 2 ^ i) % M := by
  have hp := half_pow x E i
  rw [h, Nat.pow_one] at hp
  rw [← Nat.mul_mod (x ^ (E / 2 ^ (i + 1))) (x ^ (E / 2 ^ (i + 1))) M, ← Nat.mul_mod _ x M, hp]

set_option maxHeartbeats 2000000 in
theorem powMod_ok (u v z : Value) (n m k : Nat) (f g h : Nat → Int) (w : World) (hu : Nums .u64 w u n f) (hf : U64 n f) (hv : Nums .u64 w v m g) (hg : U64 m g) (hz : Nums .u64 w z k h) (hh : U64 k h)
    (hn : n ≤ 1000) (hm : m ≤ 1000) (hk : k ≤ 1000) (h0 : num h k ≠ 0) :
    Calls Try.prog 29 #[u, v, z] w fun e w' => ∃ r, e = .returned (.tuple #[r, .int .i64 0]) ∧ RepM w.heap.size w' r (num f n ^ num g m % num h k) ∧ Below w.heap.size w w' := by
  have hd : decide (sz (lo h) k = 0) = false := by
    rw [num_sz]; simp only [decide_eq_false_iff_not]; rw [nl_eq_zero W32 _ (by decide)]; exact h0
  have hx := nl_le W32 (num f n) n (by decide) (num_lt f n)
  have hE := nl_le W32 (num g m) m (by decide) (num_lt g m)
  have hM := nl_le W32 (num h k) k (by decide) (num_lt h k)
  have h1n : nl W32 1 ≤ 1 := nl_le W32 1 1 (by decide) (by decide)
  go_enter Try.func29, Try.ntmps29
  go_wp2_with fail
  refine (zero_any _ _ _ _ hz hh).mono ?_
  rintro e w1 ⟨rfl, hw1⟩
  have hw1' := hw1.symm
  subst hw1'
  rw [hd]
  go_wp2_with fail
  refine (plain_any _ _ _ _ hz hh).mono ?_
  rintro e w2 ⟨z2, rfl, hz2, hb2⟩
  have s2 := hb2.size
  have hu2 := hu.below hb2
  have hv2 := hv.below hb2
  go_wp2_with fail
  refine (plain_any _ _ _ _ hu2 hf).mono ?_
  rintro e w3 ⟨u3, rfl, hu3, hb3⟩
  have s3 := hb3.size
  have hLEN := fun w' (hw : Nums .u64 w' v m g) => len_any v m g w' hw hg
  have hBIT := fun w' i (hw : Nums .u64 w' v m g) (hi : i ≤ 9223372036854775807) => bit_any v m g w' i hw hg hi
  generalize hXX : num f n = x at *
  generalize hEE : num g m = E at *
  generalize hMM : num h k = M at *
  have HALL : Hid (num f n ^ num g m % num h k = x ^ E % M) := by show _ = _; rw [hXX, hEE, hMM]
  have HLEN : Hid (∀ w', Nums .u64 w' v m g → Calls Try.prog 23 #[v] w' fun e w'' => ∃ L : Nat, e = .returned (.int .i64 (L : Int)) ∧ E < 2 ^ L ∧ (0 < L → 2 ^ (L - 1) ≤ E) ∧ L ≤ 32 * nl W32 E ∧ w'' = w') := hLEN
  have HBIT : Hid (∀ w' (i : Nat), Nums .u64 w' v m g → i ≤ 9223372036854775807 → Calls Try.prog 25 #[v, .int .i64 (i : Int)] w' fun e w'' => e = .returned (.int .i64 ((E / 2 ^ i % 2 : Nat) : Int)) ∧ w'' = w') := hBIT
  clear hLEN hBIT hEE hXX hMM hu2 hz hd hu
  have hv3 := hv2.below hb3
  have hz3 := Nums.below hz2 hb3
  go_wp2_with fail
  refine (divide_any x M (by omega) (by omega) _ _ _ hu3 hz3).mono ?_
  rintro e w4 ⟨q4, b4, rfl, hq4, hbase, hb4⟩
  have s4 := hb4.size
  have hv4 := hv3.below hb4
  have hz4 := Nums.below hz3 hb4
  go_wp2_with fail
  refine (of_any 1 _ (by omega) (by omega)).mono ?_
  rintro e w5 ⟨o5, rfl, ho5, hb5⟩
  have s5 := hb5.size
  have hv5 := hv4.below hb5
  have hz5 := Nums.below hz4 hb5
  have hbase5 := Nums.below hbase.rep hb5
  have ho5' : Rep w5 o5 1 := Mine.nums ho5
  go_wp2_with fail
  refine (divide_any 1 M (by omega) (by omega) _ _ _ ho5' hz5).mono ?_
  rintro e w6 ⟨q6, o6, rfl, hq6, ho6, hb6⟩
  have s6 := hb6.size
  have hv6 := hv5.below hb6
  have hz6 := Nums.below hz5 hb6
  have hbase6 := Nums.below hbase5 hb6
  go_wp2_with fail
  refine (HLEN.out _ hv6).mono ?_
  rintro e w7 ⟨L, rfl, hL1, hL2, hL3, hw7⟩
  subst hw7
  have B7 : Below w.heap.size w w7 := hb2.trans ((hb3.mono s2).trans ((hb4.mono (by omega)).trans ((hb5.mono (by omega)).trans (hb6.mono (by omega)))))
  have HL1 : Hid (E < 2 ^ L) := hL1
  have ho7 : RepM w.heap.size w7 o6 (1 % M) := ho6.le (by omega)
  have hLb : L ≤ 32000 := by omega
  have hMp : 0 < M := by omega
  clear hL1 hL2 hL3 hb2 hb3 hb4 hb5 hb6 ho5 ho5' ho6 hq6 hq4 hbase hz5 hz4 hz3 hz2 hv5 hv4 hv3 hv2 hbase5 hu3 s2 s3 s4 s5 s6 HLEN
  go_wp2
  go_loopw [11, 12] (fun vo vi wr => ∃ j : Nat, j ≤ L ∧ vi = .int .i64 ((j : Int) - 1) ∧ RepM w.heap.size wr vo (x ^ (E / 2 ^ j) % M) ∧ Below w7.heap.size w7 wr) (fun _ vi _ => (intOf vi + 1).toNat)
  case atStart =>
    have e : E / 2 ^ L = 0 := Nat.div_eq_of_lt HL1.out
    exact ⟨L, Nat.le_refl _, rfl, by rw [e]; exact ho7, Below.refl _ _⟩
  case round =>
    clear ho7
    obtain ⟨j, hj, rfl, hro, hbel⟩ := hrel
    have hsz := hbel.size
    have hs7 := B7.size
    cases j with
    | zero =>
      have e1 : (((0 : Nat) : Int) - 1) = -1 := by omega
      go_wp2
      go_ret2
      exact ⟨_, rfl, by rw [HALL.out]; simpa using hro, B7.trans (hbel.mono hs7)⟩
    | succ i =>
      have e1 : (((i + 1 : Nat) : Int) - 1) = (i : Int) := by omega
      rw [e1]
      have hz7 := Nums.below hz6 hbel
      have hv7 := hv6.below hbel
      have hbase7 := Nums.below hbase6 hbel
      have hAM : x ^ (E / 2 ^ (i + 1)) % M < M := Nat.mod_lt _ hMp
      have hXM : x % M < M := Nat.mod_lt _ hMp
      have st0 := mod_step0 x E i M
      have st1 := mod_step1 x E i M
      have ST0 : Hid (E / 2 ^ i % 2 = 0 → (x ^ (E / 2 ^ (i + 1)) % M) * (x ^ (E / 2 ^ (i + 1)) % M) % M = x ^ (E / 2 ^ i) % M) := st0
      have ST1 : Hid (E / 2 ^ i % 2 = 1 → ((x ^ (E / 2 ^ (i + 1)) % M) * (x ^ (E / 2 ^ (i + 1)) % M) % M) * (x % M) % M = x ^ (E / 2 ^ i) % M) := st1
      clear st0 st1
      generalize x ^ (E / 2 ^ (i + 1)) % M = A at *
      generalize x % M = X at *
      have hA1 := nl_of_lt A M 1000 hAM (by omega)
      have hX1 := nl_of_lt X M 1000 hXM (by omega)
      have hAA := nl_mul A A 1000 1000 hA1 hA1
      have hR : A * A % M < M := Nat.mod_lt _ hMp
      have hR1 := nl_of_lt _ M 1000 hR (by omega)
      have hRX := nl_mul _ X 1000 1000 hR1 hX1
      have PAA : Hid (ProdAt A A) := product_all A A (by omega)
      have PRX : Hid (ProdAt (A * A % M) X) := product_all _ X (by omega)
      have DAA : Hid (DivideOk (A * A) M) := divide_any _ M hMp (by omega)
      have DRX : Hid (DivideOk (A * A % M * X) M) := divide_any _ M hMp (by omega)
      clear hAA hR hR1 hRX hA1 hX1 hAM hXM
      go_wp2_with fail
      refine (PAA.out _ _ _ hro.rep hro.rep).mono ?_
      rintro e w8 ⟨r8, rfl, hr8, hb8⟩
      have s8 := hb8.size
      have hz8 := Nums.below hz7 hb8
      go_wp2_with fail
      refine (DAA.out _ _ _ hr8.rep hz8).mono ?_
      rintro e w9 ⟨q9, r9, rfl, hq9, hr9, hb9⟩
      have s9 := hb9.size
      have hz9 := Nums.below hz8 hb9
      have hv9 := (hv7.below hb8).below hb9
      have hbase9 := Nums.below (Nums.below hbase7 hb8) hb9
      go_wp2_with fail
      refine (HBIT.out _ i hv9 (by omega)).mono ?_
      rintro e w10 ⟨rfl, hw10⟩
      subst hw10
      have B10 : Below w7.heap.size w7 w10 := hbel.trans ((hb8.mono hsz).trans (hb9.mono (by omega)))
      have hr10 : RepM w.heap.size w10 r9 (A * A % M) := hr9.le (by omega)
      clear hr8 hq9 hr9 hz8 hz7 hb8 hb9 hro hbel hv9 hv7 hbase7
      have hbit : E / 2 ^ i % 2 = 0 ∨ E / 2 ^ i % 2 = 1 := by omega
      rcases hbit with hb | hb
      · have HS := ST0.out hb
        have HS' : Hid (A * A % M = x ^ (E / 2 ^ i) % M) := HS
        rw [hb]
        clear HS ST0 ST1
        go_wp2
        go_roundw
        case rel => exact ⟨i, by omega, by go_num, by rw [← HS'.out]; exact hr10, B10⟩
        case measure => simp [intOf]
      · have HS := ST1.out hb
        have HS' : Hid (A * A % M * X % M = x ^ (E / 2 ^ i) % M) := HS
        rw [hb]
        clear HS ST0 ST1
        go_wp2_with fail
        refine (PRX.out _ _ _ hr10.rep hbase9).mono ?_
        rintro e w11 ⟨r11, rfl, hr11, hb11⟩
        have s11 := hb11.size
        have hz11 := Nums.below hz9 hb11
        go_wp2_with fail
        refine (DRX.out _ _ _ hr11.rep hz11).mono ?_
        rintro e w12 ⟨q12, r12, rfl, hq12, hr12, hb12⟩
        have B12 : Below w7.heap.size w7 w12 := B10.trans ((hb11.mono (by omega)).trans (hb12.mono (by omega)))
        have hr12' : RepM w.heap.size w12 r12 (A * A % M * X % M) := hr12.le (by omega)
        clear hr11 hq12 hr12 hz11 hb11 hb12 hz9 hbase9 B10 hr10
        go_wp2
        go_roundw
        case rel => exact ⟨i, by omega, by go_num, by rw [← HS'.out]; exact hr12', B12⟩
        case measure => simp [intOf]

theorem nl10_pow (x l n : Nat) (h : x < W32 ^ l) : nl 10000 (x ^ n) ≤ 3 * (l * n + 1) := by
  refine nl_small _ _ ?_
  have h2 : x ^ n ≤ (W32 ^ l) ^ n := Nat.pow_le_pow_left (Nat.le_of_lt h) n
  rw [← Nat.pow_mul] at h2
  have h3 : W32 ^ (l * n) < W32 ^ (l * n + 1) := Nat.pow_lt_pow_right (by decide) (by omega)
  omega

set_option maxHeartbeats 1000000 in
theorem refPower_any (u : Value) (x n : Nat) (w : World) (hu : RepD w u x) (hx : x < W32 ^ 10) (hn : n ≤ 100) :
    Calls Try.prog 28 #[u, .int .i64 (n : Int)] w fun e w' => ∃ r, e = .returned r ∧ RepD w' r (x ^ n) ∧ Below w.heap.size w w' := by
  have hx10 : nl 10000 x ≤ 1000000 := Nat.le_trans (nl_small x 10 hx) (by omega)
  have HX : Hid (x < W32 ^ 10) := hx
  clear hx
  go_enter Try.func28, Try.ntmps28
  go_wp2_with fail
  refine (small_any 1 _ (by omega)).mono ?_
  rintro e w1 ⟨r1, rfl, hr1, hb1⟩
  go_wp2
  go_loopw [5, 6] (fun v vi wr => ∃ i : Nat, i ≤ n ∧ vi = .int .i64 (i : Int) ∧ RepD wr v (x ^ i) ∧ Below w.heap.size w wr) (fun _ vi _ => n - (intOf vi).toNat)
  case atStart => exact ⟨0, Nat.zero_le _, rfl, hr1, hb1⟩
  case round =>
    obtain ⟨i, hi, rfl, hv, hbel⟩ := hrel
    by_cases hlt : i < n
    · have hb : nl 10000 (x ^ i) ≤ 1000000 := Nat.le_trans (nl10_pow x 10 i HX.out) (by omega)
      have hd : Hid (x ^ (i + 1) = x ^ i * x) := Nat.pow_succ _ _
      have hu2 := Nums.below hu hbel
      generalize x ^ i = X at *
      go_wp2_with fail
      refine (times_any _ _ X x _ hv hu2 hb hx10).mono ?_
      rintro e w2 ⟨r2, rfl, hr2, hb2⟩
      go_wp2
      go_roundw
      case rel => exact ⟨i + 1, by omega, by go_num, by rw [hd.out]; exact hr2, hbel.trans (hb2.mono hbel.size)⟩
      case measure => simp [intOf]; omega
    · have : i = n := by omega
      subst this
      go_wp2
      go_ret
      exact ⟨_, rfl, hv, hbel⟩

end Go.Proofs.Ytagphmhgceajhab
