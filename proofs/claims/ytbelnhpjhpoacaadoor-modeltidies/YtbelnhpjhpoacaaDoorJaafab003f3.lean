/-
  Texts of mine.
-/
import Derived.Test.YtbelnhpjhpoacaaDoorJ15d0eca55d
import Derived.WalkSmall
import Derived.Test.YtbelnhpjhpoacaaDoorJ26f650585c
import Derived.Test.YtbelnhpjhpoacaaDoorJ1dcf0a2454
namespace Go.Proofs.YtbelnhpjhpoacaaDoor
open Go.RowKit

set_option maxRecDepth 20000 in
set_option maxHeartbeats 4000000 in
set_option maxRecDepth 100000 in
theorem len64_any (x : Int) (w : World) (h0 : 0 ≤ x) (h1 : x ≤ 4294967295) :
    Calls Tryd.prog 83 #[.int .u64 x] w fun e w' => e = .returned (.int .i64 (Lib.bitLen x.toNat)) ∧ w' = w := by
  have hs := len8tab_size
  have hn : ¬ (4294967296 : Int) ≤ x := by omega
  go_enter Tryd.func83, Tryd.ntmps83
  go_wp2
  all_goals (go_ret; refine ⟨congrArg Ending.returned (congrArg (Value.int IntKind.i64) ?_), rfl⟩)
  · exact len_case x (x / 65536 / 256) 24 (x.toNat / 16777216) (by omega) (by omega) (by omega) (Lib.bitLen_shift24 x.toNat (by omega) (by omega))
  · exact len_case x (x / 65536) 16 (x.toNat / 65536) (by omega) (by omega) (by omega) (Lib.bitLen_shift16 x.toNat (by omega) (by omega))
  · exact len_case x (x / 256) 8 (x.toNat / 256) (by omega) (by omega) (by omega) (Lib.bitLen_shift8 x.toNat (by omega) (by omega))
  · have := len_case x x 0 x.toNat (by omega) (by omega) rfl (by omega) (h := by omega)
    rw [Int.natCast_zero, Int.zero_add] at this
    exact this

/-- A number's bits, by its highest limb's. -/
theorem len_top (x m : Nat) (hm : nl W32 x = m + 1) : 2 ^ (32 * m + Lib.bitLen (dg W32 x m).toNat - 1) ≤ x ∧ x < 2 ^ (32 * m + Lib.bitLen (dg W32 x m).toNat) ∧ 0 < Lib.bitLen (dg W32 x m).toNat ∧ Lib.bitLen (dg W32 x m).toNat ≤ 32 := by
  have hlt := lt_pow_nl W32 x (by decide)
  have hge := pow_le_of_nl W32 x (by omega)
  rw [hm] at hlt hge
  rw [show m + 1 - 1 = m by omega] at hge
  have hP : 0 < W32 ^ m := Nat.pow_pos (by decide)
  have e2 : W32 ^ (m + 1) = W32 ^ m * 4294967296 := Nat.pow_succ _ _
  have etop : (dg W32 x m).toNat = x / W32 ^ m := by
    unfold dg
    rw [Int.toNat_natCast, Nat.mod_eq_of_lt]
    exact Nat.div_lt_of_lt_mul (by rw [e2] at hlt; exact hlt)
  rw [etop]
  have hdm := Nat.div_add_mod x (W32 ^ m)
  have hml := Nat.mod_lt x hP
  have ht1 : 1 ≤ x / W32 ^ m := (Nat.le_div_iff_mul_le hP).2 (by omega)
  have ht2 : x / W32 ^ m < 4294967296 := Nat.div_lt_of_lt_mul (by rw [e2] at hlt; exact hlt)
  generalize x / W32 ^ m = t at *
  generalize x % W32 ^ m = r at *
  obtain ⟨b1, b2, b3⟩ := bitLen_pow t (by omega) (by omega)
  have b4 : Lib.bitLen t ≤ 32 := Lib.bitLen_le t 32 (by omega) (by omega)
  generalize Lib.bitLen t = L at *
  have eP : W32 ^ m = 2 ^ (32 * m) := by rw [Nat.pow_mul]
  have p1 : 2 ^ (32 * m + L - 1) = 2 ^ (32 * m) * 2 ^ (L - 1) := by rw [← Nat.pow_add]; congr 1; omega
  have p2 : 2 ^ (32 * m + L) = 2 ^ (32 * m) * 2 ^ L := Nat.pow_add _ _ _
  rw [p1, p2, ← eP]
  clear p1 p2 eP
  generalize W32 ^ m = P at *
  have h1 : P * 2 ^ (L - 1) ≤ P * t := Nat.mul_le_mul_left _ b1
  have h2 : P * (t + 1) ≤ P * 2 ^ L := Nat.mul_le_mul_left _ b2
  rw [Nat.mul_add, Nat.mul_one] at h2
  exact ⟨by omega, by omega, b3, b4⟩

/-- One bit of a limb is one bit of the number. -/
theorem bit_of (y s : Nat) (hs : s < 32) : y % 4294967296 / 2 ^ s % 2 = y / 2 ^ s % 2 := by
  have hp : 0 < 2 ^ s := Nat.two_pow_pos s
  have e : 4294967296 = 2 ^ s * 2 ^ (32 - s) := by rw [← Nat.pow_add, show s + (32 - s) = 32 by omega]
  have e2 : 2 ^ (32 - s) = 2 * 2 ^ (31 - s) := by rw [Nat.mul_comm, ← Nat.pow_succ]; congr 1; omega
  have h1 := Nat.div_add_mod y 4294967296
  have h2 : y = 2 ^ s * (2 * (2 ^ (31 - s) * (y / 4294967296))) + y % 4294967296 := by
    rw [← Nat.mul_assoc 2, ← e2, ← Nat.mul_assoc, ← e]; omega
  generalize y % 4294967296 = r at *
  generalize 2 ^ (31 - s) * (y / 4294967296) = z at *
  rw [h2, Nat.mul_add_div hp, Nat.mul_add_mod]
theorem bit_num (x i : Nat) : (dg W32 x (i / 32)).toNat / 2 ^ (i % 32) % 2 = x / 2 ^ i % 2 := by
  unfold dg
  rw [Int.toNat_natCast, show (W32 : Nat) = 4294967296 from rfl, bit_of _ _ (Nat.mod_lt _ (by omega)), Nat.div_div_eq_div_mul]
  have e : 4294967296 ^ (i / 32) * 2 ^ (i % 32) = 2 ^ i := by
    have : (4294967296 : Nat) = 2 ^ 32 := rfl
    rw [this, ← Nat.pow_mul, ← Nat.pow_add, Nat.div_add_mod]
  rw [e]

set_option maxRecDepth 20000 in
set_option maxHeartbeats 400000 in
theorem limb_far (v : Value) (n : Nat) (f : Nat → Int) (w : World) (i : Nat) (h : Nums .u64 w v n f) (h1 : i ≤ 9223372036854775807) :
    Calls Tryd.prog 58 #[v, .int .i64 (i : Int)] w fun e w' => e = .returned (.int .u64 (at0 f n i)) ∧ w' = w := by
  obtain ⟨ao, c, rfl, _, hl, h4⟩ := h
  unfold LIM at hl
  by_cases hi : i < n
  · obtain ⟨b, off, rfl, hc⟩ := h4 (by omega)
    have hcell := hc i hi
    go_enter Tryd.func58, Tryd.ntmps58
    go_wp2
    go_ret
    exact ⟨by simp [at0, hi], rfl⟩
  · go_enter Tryd.func58, Tryd.ntmps58
    go_wp2
    go_ret
    exact ⟨by simp [at0, hi], rfl⟩

set_option maxRecDepth 20000 in
set_option maxHeartbeats 400000 in
theorem blen_any (x : Int) (w : World) (h0 : 0 ≤ x) (h1 : x ≤ 4294967295) :
    Calls Tryd.prog 95 #[.int .u64 x] w fun e w' => e = .returned (.int .i64 (Lib.bitLen x.toNat)) ∧ w' = w := by
  go_enter Tryd.func95, Tryd.ntmps95
  go_wp2_with (go_at_call 83; refine (len64_any x _ h0 h1).mono ?_; rintro e w2 ⟨rfl, hw2⟩; subst hw2)
  go_ret
  exact ⟨rfl, rfl⟩

/-- A root's greatness. -/
theorem root_nl (x A k : Nat) (hx : x < W32 ^ 60) (h : (A - 1) * (A - 1) < x / 4 ^ k) : nl W32 A ≤ 31 := by
  refine nl_le W32 A 31 (by decide) ?_
  by_cases g : A < W32 ^ 31
  · exact g
  · exfalso
    have h1 : W32 ^ 30 ≤ A - 1 := by
      have e : W32 ^ 31 = W32 ^ 30 * W32 := Nat.pow_succ _ _
      have e2 : W32 ^ 30 * 2 ≤ W32 ^ 30 * W32 := Nat.mul_le_mul_left _ (by decide)
      have e3 : 0 < W32 ^ 30 := Nat.pow_pos (by decide)
      omega
    have h2 : W32 ^ 30 * W32 ^ 30 ≤ (A - 1) * (A - 1) := Nat.mul_le_mul h1 h1
    rw [← Nat.pow_add] at h2
    have h3 := Nat.div_le_self x (4 ^ k)
    have : W32 ^ (30 + 30) = W32 ^ 60 := rfl
    omega

/-- Where the root begins. -/
theorem root_start (x L c : Nat) (h1 : 2 ^ (L - 1) ≤ x) (h2 : x < 2 ^ L) (hL : 0 < L) (hc : c = (L - 1) / 2) : 4 ^ c ≤ x ∧ 0 < x / 4 ^ c ∧ x / 4 ^ c < 4 := by
  have e4 : (4 : Nat) ^ c = 2 ^ (2 * c) := by rw [Nat.pow_mul]
  have a1 : 4 ^ c ≤ x := by rw [e4]; exact Nat.le_trans (Nat.pow_le_pow_right (by omega) (by omega)) h1
  have a2 : x < 4 ^ c * 4 := by
    rw [e4, show 2 ^ (2 * c) * 4 = 2 ^ (2 * c + 2) by rw [Nat.pow_add]]
    exact Nat.lt_of_lt_of_le h2 (Nat.pow_le_pow_right (by omega) (by omega))
  exact ⟨a1, Nat.div_pos a1 (Nat.pow_pos (by omega)), Nat.div_lt_of_lt_mul a2⟩

/-- Of a number's bits one more. -/
theorem next_bit (c i : Nat) (h : 2 ^ i ≤ c) : c / 2 ^ (i + 1) < c / 2 ^ i ∧ c / 2 ^ i ≤ 2 * (c / 2 ^ (i + 1)) + 1 ∧ c / 2 ^ i ≤ c := by
  have h1 : 1 ≤ c / 2 ^ i := (Nat.le_div_iff_mul_le (Nat.two_pow_pos i)).2 (by omega)
  have e : c / 2 ^ (i + 1) = c / 2 ^ i / 2 := by rw [Nat.pow_succ, Nat.div_div_eq_div_mul]
  have h2 := Nat.div_le_self c (2 ^ i)
  rw [e]
  generalize c / 2 ^ i = d at *
  omega

theorem two63' : (2 : Int) ^ 63 = 9223372036854775808 := by decide
theorem and_one_int (i : Nat) (hi : i < 9223372036854775808) : bits BinOp.and IntKind.i64 (i : Int) 1 = ((i % 2 : Nat) : Int) := by
  have h := bits_mask .i64 63 (by decide) (fun n h0 h1 => by rw [two63'] at h1; rw [IntKind.wrap_i64]; omega) 1 (by decide) (i : Int) (by omega) (by rw [two63']; omega)
  have e : ((2 : Int) ^ 1 - 1) = 1 := by decide
  rw [e] at h
  rw [h]
  omega

theorem nl_pow (x l n : Nat) (h : nl W32 x ≤ l) : nl W32 (x ^ n) ≤ l * n + 1 := by
  refine nl_le W32 _ _ (by decide) ?_
  have h1 : x < W32 ^ l := Nat.lt_of_lt_of_le (lt_pow_nl W32 x (by decide)) (Nat.pow_le_pow_right (by decide) h)
  have h2 : x ^ n ≤ (W32 ^ l) ^ n := Nat.pow_le_pow_left (Nat.le_of_lt h1) n
  rw [← Nat.pow_mul] at h2
  have h3 : W32 ^ (l * n) < W32 ^ (l * n + 1) := Nat.pow_lt_pow_right (by decide) (by omega)
  omega

theorem half_pow (x n i : Nat) : x ^ (n / 2 ^ (i + 1)) * x ^ (n / 2 ^ (i + 1)) * x ^ (n / 2 ^ i % 2) = x ^ (n / 2 ^ i) := by
  rw [← Nat.pow_add, ← Nat.pow_add]
  congr 1
  rw [Nat.pow_succ, ← Nat.div_div_eq_div_mul]
  generalize n / 2 ^ i = m
  omega

set_option maxRecDepth 20000 in
set_option maxHeartbeats 2000000 in
theorem power_any (u : Value) (x n : Nat) (w : World) (hu : Rep w u x) (hn : n ≤ 4096) (hx : nl W32 x ≤ 40) :
    Calls Tryd.prog 87 #[u, .int .i64 (n : Int)] w fun e w' => ∃ r, e = .returned r ∧ RepM w.heap.size w' r (x ^ n) ∧ Below w.heap.size w w' := by
  have hT0 : n = 0 → Lib.bitLen n = 0 := fun e => by rw [e]; decide
  have hTb : n ≠ 0 → 2 ^ (Lib.bitLen n - 1) ≤ n ∧ n < 2 ^ Lib.bitLen n ∧ 0 < Lib.bitLen n := fun e => bitLen_pow n e (by omega)
  have hT32 : Lib.bitLen n ≤ 32 := Lib.bitLen_le n 32 (by omega) (by omega)
  have HT1 : Hid (n < 2 ^ Lib.bitLen n) := by
    show _ < _
    by_cases e : n = 0
    · rw [hT0 e, e]; omega
    · exact (hTb e).2.1
  clear hT0 hTb
  have HNL : Hid (∀ m, m ≤ n → nl W32 (x ^ m) ≤ 163841) := fun m hm => Nat.le_trans (nl_pow x 40 m hx) (by omega)
  go_enter Tryd.func87, Tryd.ntmps87
  go_wp2_with fail
  refine (of_any 1 _ (by omega) (by omega)).mono ?_
  rintro e w3 ⟨o3, rfl, ho3, hb3⟩
  go_wp2_with fail
  refine (blen_any (n : Int) _ (by omega) (by omega)).mono ?_
  rintro e w4 ⟨rfl, hw4⟩
  subst hw4
  rw [Int.toNat_natCast]
  generalize Lib.bitLen n = T at *
  go_wp2
  go_loopw [5, 6] (fun vo vi wr => ∃ k : Nat, k ≤ T ∧ vi = .int .i64 ((k : Int) - 1) ∧ RepM w.heap.size wr vo (x ^ (n / 2 ^ k)) ∧ Below w.heap.size w wr) (fun _ vi _ => (intOf vi + 1).toNat)
  case atStart =>
    have e : n / 2 ^ T = 0 := Nat.div_eq_of_lt HT1.out
    exact ⟨T, Nat.le_refl _, rfl, by rw [e]; exact ho3, hb3⟩
  case round =>
    clear ho3 hb3
    obtain ⟨k, hk, rfl, hro, hbel⟩ := hrel
    have hsz := hbel.size
    cases k with
    | zero =>
      have e1 : (((0 : Nat) : Int) - 1) = -1 := by omega
      go_wp2
      go_ret
      exact ⟨_, rfl, by simpa using hro, hbel⟩
    | succ i =>
      have e1 : (((i + 1 : Nat) : Int) - 1) = (i : Int) := by omega
      rw [e1]
      have hhp := half_pow x n i
      have hm1 : n / 2 ^ (i + 1) ≤ n := Nat.div_le_self _ _
      have hm0 : n / 2 ^ i ≤ n := Nat.div_le_self _ _
      have hdi : ((n : Int) / 2 ^ i) = ((n / 2 ^ i : Nat) : Int) := by rw [Int.natCast_ediv]; simp
      have hand := and_one_int (n / 2 ^ i) (by omega)
      have hN1 := HNL.out _ hm1
      have hN0 : nl W32 (x ^ (n / 2 ^ (i + 1)) * x ^ (n / 2 ^ (i + 1))) ≤ 163841 := by
        rw [← Nat.pow_add]
        refine HNL.out _ ?_
        rw [Nat.pow_succ, ← Nat.div_div_eq_div_mul]
        omega
      have HHP : Hid (x ^ (n / 2 ^ (i + 1)) * x ^ (n / 2 ^ (i + 1)) * x ^ (n / 2 ^ i % 2) = x ^ (n / 2 ^ i)) := hhp
      have hPP : Hid (ProdAt (x ^ (n / 2 ^ (i + 1))) (x ^ (n / 2 ^ (i + 1)))) := product_all _ _ (by omega)
      have hPX : Hid (ProdAt (x ^ (n / 2 ^ (i + 1)) * x ^ (n / 2 ^ (i + 1))) x) := product_all _ _ (by omega)
      clear hhp hN1 hN0 hm1
      generalize hm : n / 2 ^ i = m at *
      have HM : Hid (n / 2 ^ i = m) := hm
      clear hm
      generalize x ^ (n / 2 ^ (i + 1)) = A at *
      have hbit : m % 2 = 0 ∨ m % 2 = 1 := by omega
      rcases hbit with hb | hb
      · rw [hb] at hand HHP
        go_wp2_with fail
        refine (hPP.out _ _ _ hro.rep hro.rep).mono ?_
        rintro e w5 ⟨r5, rfl, hr5, hb5⟩
        have hr5' : RepM w.heap.size w5 r5 (A * A) := hr5.le hsz
        have bel5 : Below w.heap.size w w5 := hbel.trans (hb5.mono hsz)
        clear hr5 hb5 hro hbel
        go_wp2
        go_roundw
        case rel => exact ⟨i, by omega, by go_num, by rw [HM.out, ← HHP.out]; simpa using hr5', bel5⟩
        case measure => simp [intOf]
      · rw [hb] at hand HHP
        go_wp2_with fail
        refine (hPP.out _ _ _ hro.rep hro.rep).mono ?_
        rintro e w5 ⟨r5, rfl, hr5, hb5⟩
        have hs5 := hb5.size
        have hu5 := Nums.below (Nums.below hu hbel) hb5
        go_wp2_with fail
        refine (hPX.out _ _ _ hr5.rep hu5).mono ?_
        rintro e w6 ⟨r6, rfl, hr6, hb6⟩
        have hr6' : RepM w.heap.size w6 r6 (A * A * x) := hr6.le (by omega)
        have bel6 : Below w.heap.size w w6 := hbel.trans ((hb5.mono hsz).trans (hb6.mono (by omega)))
        clear hr5 hb5 hro hbel hr6 hb6 hu5
        go_wp2
        go_roundw
        case rel => exact ⟨i, by omega, by go_num, by rw [HM.out, ← HHP.out]; simpa using hr6', bel6⟩
        case measure => simp [intOf]

/-- The powers of ten that a number is cut by. -/
def ten (i : Nat) : Nat := 10 ^ (288 * 2 ^ i)
theorem ten_pos (i : Nat) : 0 < ten i := Nat.pow_pos (by decide)
theorem ten_succ (i : Nat) : ten i * ten i = ten (i + 1) := by
  unfold ten
  rw [← Nat.pow_add, Nat.pow_succ]; congr 1; omega

/-- A number whose limbs lie below B. -/
def RepB (B : Nat) (w : World) (v : Value) (m : Nat) : Prop :=
  ∃ ao c, v = .slice ao (nl W32 m) c ∧ nl W32 m ≤ c ∧ nl W32 m ≤ LIM ∧ (0 < nl W32 m → ∃ b off, ao = some ⟨b, off, none⟩ ∧ Cells w .u64 b off (nl W32 m) (dg W32 m) ∧ b < B)
theorem RepB.rep {B : Nat} {w : World} {v : Value} {m : Nat} (h : RepB B w v m) : Rep w v m := by
  obtain ⟨ao, c, h1, h2, h3, h4⟩ := h
  exact ⟨ao, c, h1, h2, h3, fun hn => let ⟨b, off, e, hc, _⟩ := h4 hn; ⟨b, off, e, hc⟩⟩
theorem RepB.below {B : Nat} {w w' : World} {v : Value} {m : Nat} (h : RepB B w v m) (hb : Below B w w') : RepB B w' v m := by
  obtain ⟨ao, c, h1, h2, h3, h4⟩ := h
  exact ⟨ao, c, h1, h2, h3, fun hn => let ⟨b, off, e, hc, hl⟩ := h4 hn; ⟨b, off, e, hc.below hb hl, hl⟩⟩
theorem RepB.mono {B B' : Nat} {w : World} {v : Value} {m : Nat} (h : RepB B w v m) (hb : B ≤ B') : RepB B' w v m := by
  obtain ⟨ao, c, h1, h2, h3, h4⟩ := h
  exact ⟨ao, c, h1, h2, h3, fun hn => let ⟨b, off, e, hc, hl⟩ := h4 hn; ⟨b, off, e, hc, by omega⟩⟩
theorem Rep.repB {w : World} {v : Value} {m : Nat} (h : Rep w v m) : RepB w.heap.size w v m := by
  obtain ⟨ao, c, h1, h2, h3, h4⟩ := h
  exact ⟨ao, c, h1, h2, h3, fun hn => let ⟨b, off, e, hc⟩ := h4 hn; ⟨b, off, e, hc, hc.lt hn⟩⟩

/-- A row of such powers, in memory below B. -/
def Tens (B : Nat) (w : World) (v : Value) (t : Nat) : Prop :=
  ∃ ao c, v = .slice ao t c ∧ t ≤ c ∧ (0 < t → ∃ b off, ao = some ⟨b, off, none⟩ ∧ b < B ∧ ∀ i, i < t → ∃ u, w.cell? ⟨b, off + i, none⟩ = some u ∧ RepB B w u (ten i))
theorem Tens.below {B : Nat} {w w' : World} {v : Value} {t : Nat} (h : Tens B w v t) (hb : Below B w w') : Tens B w' v t := by
  obtain ⟨ao, c, h1, h2, h4⟩ := h
  refine ⟨ao, c, h1, h2, fun hn => ?_⟩
  obtain ⟨b, off, e, hl, hc⟩ := h4 hn
  refine ⟨b, off, e, hl, fun i hi => ?_⟩
  obtain ⟨u, hu, hr⟩ := hc i hi
  exact ⟨u, (hb.cell hl).trans hu, hr.below hb⟩

theorem dd_hi (x p H : Nat) : dd (x / 10 ^ H) p = dd x (H + p) := by
  unfold dd
  rw [Nat.div_div_eq_div_mul, ← Nat.pow_add]
theorem dd_lo (x p H : Nat) (h : p < H) : dd (x % 10 ^ H) p = dd x p := by
  unfold dd
  have e : 10 ^ H = 10 ^ (p + 1) * 10 ^ (H - p - 1) := by rw [← Nat.pow_add]; congr 1; omega
  have e2 : x % 10 ^ H % 10 ^ (p + 1) = x % 10 ^ (p + 1) := by rw [e]; exact Nat.mod_mul_right_mod _ _ _
  have e3 : ∀ y, y / 10 ^ p % 10 = y % 10 ^ (p + 1) / 10 ^ p := fun y => by rw [Nat.pow_succ, Nat.mod_mul_right_div_self]
  rw [e3, e3 x, e2]

set_option maxRecDepth 20000 in
set_option maxHeartbeats 400000 in
theorem writeBlocks_base (go oo L c K cc : Nat) (ao : Option Addr) (va : Value) (x : Nat) (h0 : Nat → Int) (w : World) (hL : L = 9 * K) (hlim : L ≤ LIM) (hgo : go < w.heap.size)
    (hout : Cells w .u8 go oo L h0) (hsoft : Soft w go oo L) (ha : Rep w va x) :
    Calls Tryd.prog 72 #[.slice (some ⟨go, oo, none⟩) L c, va, .slice ao 0 cc] w fun e w' =>
      e = .returned (.tuple #[]) ∧ Cells w' .u8 go oo L (fun i => dd x (L - 1 - i)) ∧ UpdB w.heap.size w w' go oo L := by
  have HL : Hid (L = 9 * K) := hL
  clear hL
  go_enter Tryd.func72, Tryd.ntmps72
  go_wp2_with fail
  refine (clean_rep _ _ _ ha).mono ?_
  rintro e w1 ⟨v1, rfl, hv1, hb1⟩
  go_wp2_with fail
  refine (chunks_any w.heap.size _ _ _ _ K _ x h0 _ HL.out hlim hgo hb1.size (hout.below hb1 hgo) (hsoft.below hb1 hgo) hv1).mono ?_
  rintro e w2 ⟨rfl, hc2, hu2⟩
  go_wp2
  refine bodyPost_ret (results_none rfl _ _ _) rfl ?_
  exact ⟨rfl, hc2, (UpdB.of_below hb1 hgo).trans hu2⟩

/-- What writeBlocks is to do with t powers of ten. -/
def WritesAt (t : Nat) : Prop := ∀ (go oo c B : Nat) (va vt : Value) (x : Nat) (h0 : Nat → Int) (w : World), B ≤ go → go < w.heap.size → 288 * 2 ^ t ≤ c →
    Cells w .u8 go oo (288 * 2 ^ t) h0 → Soft w go oo (288 * 2 ^ t) → Rep w va x → nl W32 x ≤ 900000 → Tens B w vt t →
    Calls Tryd.prog 72 #[.slice (some ⟨go, oo, none⟩) (288 * 2 ^ t) c, va, vt] w fun e w' =>
      e = .returned (.tuple #[]) ∧ Cells w' .u8 go oo (288 * 2 ^ t) (fun i => dd x (288 * 2 ^ t - 1 - i)) ∧ UpdB w.heap.size w w' go oo (288 * 2 ^ t)

set_option maxRecDepth 20000 in
set_option maxHeartbeats 1000000 in
theorem writes_step (t : Nat) (ht : t ≤ 20) (IH : WritesAt t) : WritesAt (t + 1) := by
  intro go oo c B va vt x h0 w hB hgo hc hout hsoft ha hx htens
  have hH20 : 2 ^ t ≤ 2 ^ 20 := Nat.pow_le_pow_right (by omega) ht
  have hLs : 288 * 2 ^ (t + 1) = 2 * (288 * 2 ^ t) := by rw [Nat.pow_succ]; omega
  have hp : 0 < 2 ^ t := Nat.two_pow_pos t
  unfold WritesAt at IH
  have htn : ten t = 10 ^ (288 * 2 ^ t) := rfl
  rw [hLs] at hc hout hsoft ⊢
  generalize 288 * 2 ^ t = H at *
  have hHb : 288 ≤ H ∧ H ≤ 301989888 := by omega
  obtain ⟨hH1, hH2⟩ := hHb
  have htens0 := htens
  obtain ⟨ao, cc, rfl, htc, h4⟩ := htens
  obtain ⟨b, off, rfl, hbB, hcells⟩ := h4 (by omega)
  obtain ⟨u, hu, hru⟩ := hcells t (by omega)
  have hT0 : Tens B w (.slice (some ⟨b, off, none⟩) t cc) t := ⟨_, _, rfl, by omega, fun _ => ⟨_, _, rfl, hbB, fun i hi => hcells i (by omega)⟩⟩
  have hD : Hid (DivideOk x (ten t)) := divide_any x (ten t) (ten_pos t) (by omega)
  have hq : nl W32 (x / ten t) ≤ 900000 := Nat.le_trans (nl_le W32 _ (nl W32 x) (by decide) (Nat.lt_of_le_of_lt (Nat.div_le_self _ _) (lt_pow_nl W32 x (by decide)))) hx
  have hr : nl W32 (x % ten t) ≤ 900000 := Nat.le_trans (nl_le W32 _ (nl W32 x) (by decide) (Nat.lt_of_le_of_lt (Nat.mod_le _ _) (lt_pow_nl W32 x (by decide)))) hx
  have HQD : Hid (∀ p, dd (x / ten t) p = dd x (H + p)) := fun p => by rw [htn]; exact dd_hi x p H
  have HRD : Hid (∀ p, p < H → dd (x % ten t) p = dd x p) := fun p hp => by rw [htn]; exact dd_lo x p H hp
  have hru' := hru.rep
  clear hH20 hLs hp hcells htens0 hx h4 htn
  have hL2 : (2 * (H : Int)) / 2 = (H : Int) := by omega
  go_enter Tryd.func72, Tryd.ntmps72
  go_wp2_with fail
  refine (hD.out _ _ _ ha hru').mono ?_
  rintro e w1 ⟨vq, vr, rfl, hq1, hr1, hb1⟩
  have s1 := hb1.size
  have hgo1 : go < w1.heap.size := by omega
  have hout1 := hout.below hb1 hgo
  have hsoft1 := hsoft.below hb1 hgo
  have hT1 : Tens B w1 (.slice (some ⟨b, off, none⟩) t cc) t := hT0.below (hb1.mono (by omega))
  have hc1 : H ≤ c := by omega
  have hc2 : H ≤ c - H := by omega
  have hout1a := hout1.mono (show H ≤ 2 * H by omega)
  have hsoft1a := hsoft1.mono (show H ≤ 2 * H by omega)
  have hqr := hq1.rep
  have HIH : Hid (∀ (go oo c B : Nat) (va vt : Value) (x : Nat) (h0 : Nat → Int) (w : World), B ≤ go → go < w.heap.size → H ≤ c →
    Cells w .u8 go oo H h0 → Soft w go oo H → Rep w va x → nl W32 x ≤ 900000 → Tens B w vt t →
    Calls Tryd.prog 72 #[.slice (some ⟨go, oo, none⟩) H c, va, vt] w fun e w' =>
      e = .returned (.tuple #[]) ∧ Cells w' .u8 go oo H (fun i => dd x (H - 1 - i)) ∧ UpdB w.heap.size w w' go oo H) := IH
  clear IH hT0 hout hsoft ha hru hru' hu hD
  generalize hQ : x / ten t = Q at *
  generalize hR : x % ten t = R at *
  clear hQ hR
  have i1 : (0 : Int) ≤ (H : Int) := by omega
  have i2 : (H : Int) ≤ (c : Int) := by omega
  have i3 : (H : Int) ≤ 2 * (H : Int) := by omega
  have i4 : (t : Int) ≤ (cc : Int) := by omega
  have i5 : (0 : Int) ≤ (t : Int) := by omega
  have i6 : (t : Int) ≤ (t : Int) + 1 := by omega
  have i7 : 2 * (H : Int) ≤ (c : Int) := by omega
  have n1 : ¬ c = H := by omega
  have n2 : H ≤ 2 * H := by omega
  have n3 : t ≤ cc := by omega
  have n4 : 2 * H - H = H := by omega
  go_wp2
  go_region_held3 (fun _ => True) (trivial) (first
    | (go_at_call 72; refine (HIH.out go oo c B vq (.slice (some ⟨b, off, none⟩) t cc) Q h0 _ hB (by exact hgo1) hc1 (by exact hout1a) (by exact hsoft1a) (by exact hqr) hq (by exact hT1)).mono ?_; rintro e w2 ⟨rfl, hcq, hu20⟩; have hu2 : UpdB w1.heap.size w1 w2 go oo H := ⟨hu20.os, hu20.tape, hu20.output, hu20.size, hu20.block, hu20.cell, hu20.froz⟩))
  have s2 := hu2.size
  have hgo2 : go < w2.heap.size := by omega
  have hout2 : Cells w2 .u8 go (oo + H) H (fun i => h0 (H + i)) := fun i hi => by rw [hu2.cell _ (by omega)]; exact hout1.from H H (by omega) i hi
  have hsoft2 : Soft w2 go (oo + H) H := (hsoft1.from H H (by omega)).updB hu2
  have hT2 := hT1.below (hu2.below (B' := B) hB (by omega))
  have hr2 : Rep w2 vr R := by
    obtain ⟨ao, c', h1, h2, h3, h4⟩ := hr1
    refine ⟨ao, c', h1, h2, h3, fun hn => ?_⟩
    obtain ⟨b', off', e', hc', _, hB'⟩ := h4 hn
    refine ⟨b', off', e', fun i hi => ?_⟩
    rw [World.cell?_of_block (w := w1) (hu2.block b' (hc'.lt hn) (by omega))]
    exact hc' i hi
  clear hu20 hout1a hsoft1a hT1 hqr hq1 hr1
  go_wp2
  go_region_held3 (fun _ => True) (trivial) (first
    | (go_at_call 72; (try rw [n4]); refine (HIH.out go (oo + H) (c - H) B vr (.slice (some ⟨b, off, none⟩) t cc) R (fun i => h0 (H + i)) _ hB (by exact hgo2) hc2 (by exact hout2) (by exact hsoft2) (by exact hr2) hr (by exact hT2)).mono ?_; rintro e w3 ⟨rfl, hcr, hu30⟩; have hu3 : UpdB w2.heap.size w2 w3 go (oo + H) H := ⟨hu30.os, hu30.tape, hu30.output, hu30.size, hu30.block, hu30.cell, hu30.froz⟩))
  have hfin : Cells w3 .u8 go oo (2 * H) (fun i => dd x (2 * H - 1 - i)) := by
    intro i hi
    by_cases hiH : i < H
    · rw [hu3.cell _ (by omega), hcq i hiH]
      show some (Value.int IntKind.u8 (dd Q (H - 1 - i))) = some (Value.int IntKind.u8 (dd x (2 * H - 1 - i)))
      rw [HQD.out, show H + (H - 1 - i) = 2 * H - 1 - i by omega]
    · have h1 : w3.cell? ⟨go, oo + H + (i - H), none⟩ = some (Value.int IntKind.u8 (dd R (H - 1 - (i - H)))) := hcr (i - H) (by omega)
      rw [show oo + H + (i - H) = oo + i by omega, HRD.out _ (by omega), show H - 1 - (i - H) = 2 * H - 1 - i by omega] at h1
      exact h1
  have hU : UpdB w.heap.size w w3 go oo (2 * H) := (UpdB.of_below hb1 hgo).trans (((hu2.mono s1).wide (Nat.le_refl _) (by omega)).trans ((hu3.mono (by omega)).wide (by omega) (by omega)))
  clear hu30 hu3 hu2 hcr hcq hout2 hsoft2 hout1 hsoft1 hb1
  go_wp2
  go_end0
  exact ⟨rfl, hfin, hU⟩

theorem writes_all : ∀ t, t ≤ 21 → WritesAt t := by
  intro t
  induction t with
  | zero =>
    intro _ go oo c B va vt x h0 w hB hgo hc hout hsoft ha hx htens
    obtain ⟨ao, cc, rfl, _, _⟩ := htens
    exact writeBlocks_base go oo _ c 32 cc ao va x h0 w (by omega) (by unfold LIM; omega) hgo hout hsoft ha
  | succ t ih => exact fun h => writes_step t (by omega) (ih (by omega))

theorem info_nat : (Tryd.prog.info? 31).map (fun i => (i.zero, i.size, i.bytes)) = some (some (.slice none 0 0), 1, 24) := by kernel_rfl

/-- 'append' of one value to a row of the call's own: where the longer row lies. -/
theorem wpList_append_one {ops : Array Oper} {rest : List Oper} {o : Oper} {a : Act} {Q : Exit → Act → World → Prop} {w : World} (hgd : o.guard = none) (s x : Operand)
    (ho : o.op = .call { callee := .builtin .append, args := #[s, x], argTypes := #[109, 109] })
    (base g n cap : Nat) (us : List Value) (hs : a.eval s = .slice (some ⟨g, 0, none⟩) n cap) (hown : w.ownsRow base 31 1 (.slice (some ⟨g, 0, none⟩) n cap) n us)
    (ad : Addr) (c : Nat) (u : Value) (hx : a.eval x = .slice (some ad) 1 c) (hnew : ∀ j v, [u][j]? = some v → w.cell? (ad.add j) = some v) (hone : u.oneCell' = true) (hn : n ≤ 100000) (hbase : base ≤ w.heap.size)
    (h : ∀ g' cap' w', w'.ownsRow base 31 1 (.slice (some ⟨g', 0, none⟩) (n + 1) cap') (n + 1) (us ++ [u]) → w.grownBy w' (some g) → (g' = g ∨ g' = w.heap.size) → wpList Tryd.prog ops Q rest (a.put o.dst (.slice (some ⟨g', 0, none⟩) (n + 1) cap')) w') :
    wpList Tryd.prog ops Q (o :: rest) a w := by
  obtain ⟨i0, hi, hz0, hz1, hz2⟩ := info_parts info_nat
  have hone' : ∀ v ∈ [u], v.oneCell' = true := fun v hv => by simp at hv; rw [hv]; exact hone
  obtain ⟨v', w', hr, h2, h3, _⟩ := run_append_own (P := Tryd.prog) w base 109 o.type 31 i0 (.slice none 0 0) 1 24 Tryd.underlying109 hi hz0 hz1 hz2 rfl (by decide) _ n us hown ad 1 c [u] rfl hnew hone' (by unfold maxLen; omega) (by omega) hbase
  have hblk : ∃ g' cap', v' = .slice (some ⟨g', 0, none⟩) (n + 1) cap' ∧ (g' = g ∨ g' = w.heap.size) := by
    have hcells := hown.cells (g := g) rfl
    rcases hown.2 with ⟨h0, _⟩ | ⟨g0, cap0, cur, he, hbg, hg, hnc, hcm, hcs, htake⟩
    · cases h0
    · cases he
      by_cases hroom : n + 1 ≤ cap
      · have hr2 := run_append_room (P := Tryd.prog) w 109 o.type 31 i0 Tryd.underlying109 hi g n cap cur hg ad 1 c [u] (by rw [hz1]; rfl) hnew hone' hroom (by rw [hz1]; simp; omega)
        rw [hr2] at hr
        injection hr with hv hw
        exact ⟨g, cap, hv.symm, .inl rfl⟩
      · have hr2 := run_append_grow (P := Tryd.prog) w 109 o.type 31 i0 (.slice none 0 0) Tryd.underlying109 hi hz0 ⟨g, 0, none⟩ n cap us (by rw [hz1]; exact hown.1) hcells ad 1 c [u] (by rw [hz1]; rfl) hnew (by omega) (by omega) (growslice_fits (by omega) (by rw [hz2]; omega))
        rw [hr2] at hr
        injection hr with hv hw
        exact ⟨_, _, hv.symm, .inr rfl⟩
  obtain ⟨g', cap', rfl, hg'⟩ := hblk
  refine wpList_plain hgd fun K hK => ?_
  unfold Oper.wp execOp
  simp only [ho, resolve, invoke, builtin, Sem.run_bind, Sem.run_pure, Result.andThen_ok, List.map_toArray, List.map_cons, List.map_nil, hs, hx, hr]
  exact hK _ _ (h g' cap' w' h2 h3 hg')

/-- A number whose limbs do not lie in block g. -/
def RepN (g : Nat) (w : World) (v : Value) (m : Nat) : Prop :=
  ∃ ao c, v = .slice ao (nl W32 m) c ∧ nl W32 m ≤ c ∧ nl W32 m ≤ LIM ∧ (0 < nl W32 m → ∃ b off, ao = some ⟨b, off, none⟩ ∧ Cells w .u64 b off (nl W32 m) (dg W32 m) ∧ b ≠ g)
theorem RepN.rep {g : Nat} {w : World} {v : Value} {m : Nat} (h : RepN g w v m) : Rep w v m := by
  obtain ⟨ao, c, h1, h2, h3, h4⟩ := h
  exact ⟨ao, c, h1, h2, h3, fun hn => let ⟨b, off, e, hc, _⟩ := h4 hn; ⟨b, off, e, hc⟩⟩
theorem RepN.below {g : Nat} {w w' : World} {v : Value} {m : Nat} (h : RepN g w v m) (hb : Below w.heap.size w w') : RepN g w' v m := by
  obtain ⟨ao, c, h1, h2, h3, h4⟩ := h
  exact ⟨ao, c, h1, h2, h3, fun hn => let ⟨b, off, e, hc, hl⟩ := h4 hn; ⟨b, off, e, hc.below hb (hc.lt hn), hl⟩⟩
theorem RepN.grown {g g' : Nat} {w w' : World} {v : Value} {m : Nat} (h : RepN g w v m) (hg : w.grownBy w' (some g)) (h' : g' = g ∨ g' = w.heap.size) : RepN g' w' v m := by
  obtain ⟨ao, c, h1, h2, h3, h4⟩ := h
  refine ⟨ao, c, h1, h2, h3, fun hn => ?_⟩
  obtain ⟨b, off, e, hc, hl⟩ := h4 hn
  have hlt := hc.lt hn
  have hne : b ≠ g' := by
    rcases h' with h | h
    · rw [h]; exact hl
    · rw [h]; exact Nat.ne_of_lt hlt
  refine ⟨b, off, e, fun i hi => ?_, hne⟩
  rw [World.cell?_of_block (w := w) (hg.block b hlt (by simp; exact hl))]
  exact hc i hi
theorem RepM.repN {B g : Nat} {w : World} {v : Value} {m : Nat} (h : RepM B w v m) (hg : g < B) : RepN g w v m := by
  obtain ⟨ao, c, h1, h2, h3, h4⟩ := h
  exact ⟨ao, c, h1, h2, h3, fun hn => let ⟨b, off, e, hc, _, hB⟩ := h4 hn; ⟨b, off, e, hc, by omega⟩⟩
theorem Rep.repN {w : World} {v : Value} {m : Nat} (h : Rep w v m) : RepN w.heap.size w v m := by
  obtain ⟨ao, c, h1, h2, h3, h4⟩ := h
  exact ⟨ao, c, h1, h2, h3, fun hn => let ⟨b, off, e, hc⟩ := h4 hn; ⟨b, off, e, hc, Nat.ne_of_lt (hc.lt hn)⟩⟩
theorem rep_one {w : World} {v : Value} {m : Nat} (h : Rep w v m) : v.oneCell' = true := by
  obtain ⟨ao, c, rfl, _⟩ := h
  rfl

theorem owns_below {B : Nat} {e : TypeId} {w w' : World} {v : Value} {n : Nat} {us : List Value} (h : w.ownsRow B e 1 v n us) (hb : Below w.heap.size w w') : w'.ownsRow B e 1 v n us := by
  refine ⟨h.1, ?_⟩
  rcases h.2 with hn | ⟨g, cap, cur, rfl, hB, hg, rest⟩
  · exact .inl hn
  · refine .inr ⟨g, cap, cur, rfl, hB, ?_, rest⟩
    rw [hb.block g (Array.getElem?_eq_some_iff.1 hg).1]
    exact hg

/-- How long the powers are. -/
theorem ten_nl0 : nl W32 (ten 0) = 30 := by
  unfold ten
  rw [nl_spec W32 _ 30 (by decide) (by decide +kernel)]
  decide +kernel
theorem nl_square (p : Nat) (hp : 2 ≤ nl W32 p) : nl W32 p + 1 ≤ nl W32 (p * p) ∧ 2 * nl W32 p ≤ nl W32 (p * p) + 1 ∧ nl W32 (p * p) ≤ 2 * nl W32 p := by
  have h1 := pow_le_of_nl W32 p (by omega)
  have h2 := lt_pow_nl W32 p (by decide)
  have h3 : W32 ^ (nl W32 p - 1 + (nl W32 p - 1)) ≤ p * p := by rw [Nat.pow_add]; exact Nat.mul_le_mul h1 h1
  have h4 : nl W32 (p * p) ≤ nl W32 p + nl W32 p := nl_le W32 _ _ (by decide) (by rw [Nat.pow_add]; exact Nat.mul_lt_mul_of_lt_of_lt h2 h2)
  have h5 := lt_pow_nl W32 (p * p) (by decide)
  have h6 : nl W32 p - 1 + (nl W32 p - 1) < nl W32 (p * p) := by
    by_cases g : nl W32 p - 1 + (nl W32 p - 1) < nl W32 (p * p)
    · exact g
    · have := Nat.pow_le_pow_right (n := W32) (by decide) (show nl W32 (p * p) ≤ nl W32 p - 1 + (nl W32 p - 1) by omega)
      omega
  omega
theorem ten_fits (t n : Nat) (h : ¬ 2 * nl W32 (ten t) - 1 ≤ n) (h2 : 2 ≤ nl W32 (ten t)) : W32 ^ n ≤ ten (t + 1) := by
  rw [← ten_succ]
  have h1 := pow_le_of_nl W32 (ten t) (by omega)
  have h3 : W32 ^ (nl W32 (ten t) - 1 + (nl W32 (ten t) - 1)) ≤ ten t * ten t := by rw [Nat.pow_add]; exact Nat.mul_le_mul h1 h1
  exact Nat.le_trans (Nat.pow_le_pow_right (by decide) (by omega)) h3
theorem ten_bound (t : Nat) : 2 ^ t ≤ nl W32 (ten t) := by
  have h := lt_pow_nl W32 (ten t) (by decide)
  have h1 : W32 ^ 2 ^ t ≤ ten t := by
    unfold ten
    rw [Nat.pow_mul]
    exact Nat.pow_le_pow_left (by decide +kernel) _
  by_cases g : 2 ^ t ≤ nl W32 (ten t)
  · exact g
  · have := Nat.pow_le_pow_right (n := W32) (by decide) (show nl W32 (ten t) ≤ 2 ^ t by omega)
    omega

theorem power_ten (u : Value) (w : World) (hu : Rep w u 10) :
    Calls Tryd.prog 87 #[u, .int .i64 288] w fun e w' => ∃ r, e = .returned r ∧ RepM w.heap.size w' r (ten 0) ∧ Below w.heap.size w w' := by
  have h : ∀ K : Nat, K = 288 * 2 ^ 0 → Calls Tryd.prog 87 #[u, .int .i64 (K : Int)] w fun e w' => ∃ r, e = .returned r ∧ RepM w.heap.size w' r (10 ^ K) ∧ Below w.heap.size w w' :=
    fun K hK => power_any u 10 K w hu (by omega) (Nat.le_trans (nl_le W32 10 1 (by decide) (by decide)) (by omega))
  have hT : ∀ K : Nat, K = 288 * 2 ^ 0 → 10 ^ K = ten 0 := fun K hK => by rw [hK]; unfold ten; rfl
  have hI : ∀ K : Nat, K = 288 * 2 ^ 0 → (K : Int) = 288 := fun K hK => by omega
  obtain ⟨K, hK⟩ : ∃ K : Nat, K = 288 * 2 ^ 0 := ⟨_, rfl⟩
  have h' := h K hK
  rw [hT K hK, hI K hK] at h'
  exact h'

def vlen : Value → Nat
  | .slice _ n _ => n
  | _ => 0

set_option maxRecDepth 20000 in
set_option maxHeartbeats 1000000 in
theorem blockTens_any (n : Nat) (w : World) (h30 : 30 ≤ n) (hn : n ≤ 10000) :
    Calls Tryd.prog 71 #[.int .i64 (n : Int)] w fun e w' => ∃ v, e = .returned v ∧ ∃ t, Tens w'.heap.size w' v (t + 1) ∧ t ≤ 13 ∧ W32 ^ n ≤ ten (t + 1) ∧ Below w.heap.size w w' := by
  have i1 : ¬ (n : Int) ≤ 29 := by omega
  go_enter Tryd.func71, Tryd.ntmps71
  go_wp2_with fail
  refine (of_any 10 _ (by omega) (by omega)).mono ?_
  rintro e w1 ⟨o1, rfl, ho1, hb1⟩
  have ho1' : Rep w1 o1 10 := Mine.nums ho1
  go_wp2_with fail
  refine (power_ten o1 _ ho1').mono ?_
  rintro e w2 ⟨p2, rfl, hp2, hb2⟩
  have hp2' : Rep w2 p2 (ten 0) := hp2.rep
  have hs1 := hb1.size
  have B2 : Below w.heap.size w w2 := hb1.trans (hb2.mono hs1)
  clear hp2 hb1 hb2 ho1 ho1'
  obtain ⟨a2, c2, rfl, hl2⟩ := rep_val hp2'
  have hN0 : Hid (nl W32 (ten 0) = 30) := ten_nl0
  have hown0 : (w2.alloc (.cells #[.slice a2 (nl W32 (ten 0)) c2] 31)).ownsRow w.heap.size 31 1 (.slice (some ⟨w2.heap.size, 0, none⟩) 1 1) 1 [.slice a2 (nl W32 (ten 0)) c2] :=
    ⟨rfl, .inr ⟨_, 1, _, rfl, B2.size, heap_alloc_new _ _, Nat.le_refl _, by unfold maxLen; omega, rfl, rfl⟩⟩
  have hel0 : RepN w2.heap.size (w2.alloc (.cells #[.slice a2 (nl W32 (ten 0)) c2] 31)) (.slice a2 (nl W32 (ten 0)) c2) (ten 0) := (Rep.repN hp2').below ((Below.refl _ _).alloc (Nat.le_refl _) _)
  have B3 : Below w.heap.size w (w2.alloc (.cells #[.slice a2 (nl W32 (ten 0)) c2] 31)) := B2.alloc B2.size _
  go_wp2
  go_loopw [3, 4] (fun vp vo wr => ∃ (t g cap : Nat) (us : List Value), vo = .slice (some ⟨g, 0, none⟩) (t + 1) cap ∧ t + 30 ≤ nl W32 (ten t) ∧ nl W32 (ten t) ≤ n + 1 ∧ wr.ownsRow w.heap.size 31 1 vo (t + 1) us ∧ us[t]? = some vp ∧ (∀ i, i < t + 1 → ∃ u, us[i]? = some u ∧ RepN g wr u (ten i)) ∧ Below w.heap.size w wr) (fun _ vo _ => n + 2 - vlen vo)
  case atStart =>
    refine ⟨0, w2.heap.size, 1, [.slice a2 (nl W32 (ten 0)) c2], rfl, by rw [hN0.out]; omega, by rw [hN0.out]; omega, hown0, rfl, fun i hi => ?_, B3⟩
    obtain rfl : i = 0 := by omega
    exact ⟨_, rfl, hel0⟩
  case round =>
    clear hown0 hel0 B3 hp2' hl2
    obtain ⟨t, g, cap, us, rfl, ht1, ht2, hown, hlast, hels, hbel⟩ := hrel
    obtain ⟨u, hu1, hu2⟩ := hels t (by omega)
    rw [hlast] at hu1
    cases hu1
    have hsq := nl_square (ten t) (by omega)
    rw [ten_succ] at hsq
    have hfit := ten_fits t n
    have hbd := ten_bound t
    have hur := hu2.rep
    have hsz := hbel.size
    have hgl := World.ownsRow.lt hown g rfl
    have hus : us.length = t + 1 := by have := hown.1; omega
    have HP : Hid (ProdAt (ten t) (ten t)) := product_all _ _ (by omega)
    obtain ⟨a3, c3, rfl, hl3⟩ := rep_val hur
    have hq1 : t + 1 + 30 ≤ nl W32 (ten (t + 1)) := by omega
    have hq2 : 2 * nl W32 (ten t) - 1 ≤ n → nl W32 (ten (t + 1)) ≤ n + 1 := by omega
    have HQ1 : Hid (t + 1 + 30 ≤ nl W32 (ten (t + 1))) := hq1
    have HQ2 : Hid (2 * nl W32 (ten t) - 1 ≤ n → nl W32 (ten (t + 1)) ≤ n + 1) := hq2
    have HF : Hid (¬ 2 * nl W32 (ten t) - 1 ≤ n → 2 ≤ nl W32 (ten t) → W32 ^ n ≤ ten (t + 1)) := hfit
    have HE : Hid (∀ i, i < t + 1 → ∃ u, us[i]? = some u ∧ RepN g wr u (ten i)) := hels
    have HR : Hid (Rep wr (.slice a3 (nl W32 (ten t)) c3) (ten t)) := hur
    clear hq1 hq2 hfit hsq hels hur hu2 hlast
    generalize nl W32 (ten t) = l at *
    by_cases hgo : 2 * l - 1 ≤ n
    · have j1 : 2 * (l : Int) - 1 ≤ (n : Int) := by omega
      go_wp2_with fail
      refine (HP.out _ _ _ HR.out HR.out).mono ?_
      rintro e w4 ⟨p4, rfl, hp40, hb4⟩
      have hp4 : RepM wr.heap.size w4 p4 (ten (t + 1)) := by rw [← ten_succ]; exact hp40
      have s4 := hb4.size
      obtain ⟨a4, c4, rfl, hl4⟩ := rep_val hp4.rep
      have hown4 := owns_below hown hb4
      have hN4 : RepN g w4 (.slice a4 (nl W32 (ten (t + 1))) c4) (ten (t + 1)) := hp4.repN hgl.2
      have HN4 : Hid (RepN g w4 (.slice a4 (nl W32 (ten (t + 1))) c4) (ten (t + 1))) := hN4
      have hall : Hid (∀ i, i < t + 2 → ∃ u, (us ++ [.slice a4 (nl W32 (ten (t + 1))) c4])[i]? = some u ∧ RepN g w4 u (ten i)) := by
        intro i hi
        by_cases hit : i < t + 1
        · obtain ⟨u, h1, h2⟩ := HE.out i hit
          exact ⟨u, by rw [List.getElem?_append_left (by omega)]; exact h1, h2.below hb4⟩
        · obtain rfl : i = t + 1 := by omega
          exact ⟨_, by rw [List.getElem?_append_right (by omega), hus]; simp, HN4.out⟩
      have hlst : Hid ((us ++ [.slice a4 (nl W32 (ten (t + 1))) c4])[t + 1]? = some (.slice a4 (nl W32 (ten (t + 1))) c4)) := by
        show _ = _
        rw [List.getElem?_append_right (by omega), hus]; simp
      have hbel4 : Below w.heap.size w w4 := hbel.trans (hb4.mono hsz)
      clear hp40 hp4 hN4 HE HR hown hb4 HP hbel
      have HQ3 : Hid (nl W32 (ten (t + 1)) ≤ n + 1) := HQ2.out hgo
      generalize hl4' : nl W32 (ten (t + 1)) = l4 at *
      have HL4 : Hid (nl W32 (ten (t + 1)) = l4) := hl4'
      clear hl4'
      go_wp2_with (at_builtin; refine wpList_append_one rfl _ _ rfl w.heap.size g (t + 1) cap us rfl (hown4.alloc _) ⟨w4.heap.size, 0, none⟩ 1 (.slice a4 l4 c4) rfl (cell_one_new _ _ _) rfl (by omega) (by simp; omega) ?_)
      intro g' cap' w5 hown5 hgrow hg'
      have hb5 : Below w.heap.size w w5 := (hbel4.alloc (by omega) _).grown hgrow (by simp; omega) (fun k e => by simp at e; omega)
      have hall5 : ∀ i, i < t + 1 + 1 → ∃ u, (us ++ [.slice a4 l4 c4])[i]? = some u ∧ RepN g' w5 u (ten i) := fun i hi => by
        obtain ⟨u, h1, h2⟩ := hall.out i hi
        exact ⟨u, h1, (h2.below ((Below.refl _ _).alloc (Nat.le_refl _) _)).grown hgrow (by simpa using hg')⟩
      clear hgrow hown4 HN4 hbel4
      go_wp2
      go_roundw
      case rel => exact ⟨t + 1, g', cap', _, rfl, by rw [HL4.out]; exact HQ1.out, by rw [HL4.out]; exact HQ3.out, hown5, hlst.out, hall5, hb5⟩
      case measure => simp [vlen]; omega
    · have j1 : ¬ 2 * (l : Int) - 1 ≤ (n : Int) := by omega
      have hfin := HF.out hgo (by omega)
      have ht13 : t ≤ 13 := by
        by_cases q : t ≤ 13
        · exact q
        · have : 2 ^ 14 ≤ 2 ^ t := Nat.pow_le_pow_right (by omega) (by omega)
          omega
      have hT : Tens wr.heap.size wr (.slice (some ⟨g, 0, none⟩) (t + 1) cap) (t + 1) := by
        have hcells := hown.cells (g := g) rfl
        have hcap : t + 1 ≤ cap := by
          rcases hown.2 with ⟨h0, _⟩ | ⟨_, _, _, he, _, _, hnc, _⟩
          · cases h0
          · cases he; exact hnc
        refine ⟨_, _, rfl, hcap, fun _ => ⟨_, _, rfl, hgl.2, fun i hi => ?_⟩⟩
        obtain ⟨u, h1, h2⟩ := HE.out i hi
        refine ⟨u, ?_, Rep.repB h2.rep⟩
        have := hcells i u h1
        have e : (⟨g, 0, none⟩ : Addr).add i = ⟨g, 0 + i, none⟩ := by unfold Addr.add; split <;> simp_all
        rw [e] at this
        exact this
      have HFIN : Hid (W32 ^ n ≤ ten (t + 1)) := hfin
      clear hown HE HR HF hfin hgo HQ1 HQ2
      go_wp2
      go_ret
      exact ⟨_, rfl, t, hT, ht13, HFIN.out, hbel⟩

set_option maxRecDepth 20000 in
set_option maxHeartbeats 1000000 in
theorem print_long (v : Value) (n : Nat) (f : Nat → Int) (w : World) (hv : Nums .u64 w v n f) (hf : U64 n f) (h29 : 29 < nl W32 (num f n)) (hn : n ≤ 10000) :
    Calls Tryd.prog 48 #[v] w fun e w' => e = .returned (.string (txt (num f n))) ∧ Below w.heap.size w w' := by
  obtain ⟨i0, hi, hz0, hz1, hz2⟩ := info_parts info_u8
  have hxl := lt_pow_nl W32 (num f n) (by decide)
  have hxn := nl_le W32 (num f n) n (by decide) (num_lt f n)
  generalize hx : num f n = x at *
  go_enter Tryd.func48, Tryd.ntmps48
  go_wp2_with fail
  refine (plain_any _ _ _ _ hv hf).mono ?_
  rintro e w1 ⟨v1, rfl, hv1, hb1⟩
  rw [hx] at hv1
  have hv1' : Rep w1 v1 x := hv1
  obtain ⟨ao, c, rfl, hl⟩ := rep_val hv1
  have HRX : Hid (Rep w1 (.slice ao (nl W32 x) c) x) := hv1'
  have HX9 : Hid (nl W32 x ≤ 900000) := by show _ ≤ _; omega
  clear hv1 hv1'
  generalize hla : nl W32 x = la at *
  go_wp2_with fail
  refine (blockTens_any la _ (by omega) (by omega)).mono ?_
  rintro e w2 ⟨vt, rfl, t, hT, ht, hfit, hb2⟩
  have hxW : Hid (x < 10 ^ (288 * 2 ^ (t + 1))) := by show x < ten (t + 1); omega
  have hw9 : 2 ^ (t + 1) ≤ 2 ^ 14 := Nat.pow_le_pow_right (by omega) (by omega)
  have hw1 : 0 < 2 ^ (t + 1) := Nat.two_pow_pos _
  have HWR : Hid (WritesAt (t + 1)) := writes_all (t + 1) (by omega)
  obtain ⟨W, hW⟩ : ∃ W, W = 288 * 2 ^ (t + 1) := ⟨_, rfl⟩
  have hWb : 9 ≤ W ∧ W ≤ 10000000 := by omega
  have HW : Hid (W = 288 * 2 ^ (t + 1)) := hW
  have hwr : wrap64 ((288 : Int) * 2 ^ (t + 1)) = (W : Int) := by
    have e : ((288 : Int) * 2 ^ (t + 1)) = (W : Int) := by rw [hW]; simp
    rw [e]; unfold wrap64; omega
  have hWm : W ≤ maxLen := by unfold maxLen; omega
  have hWa : i0.bytes * W ≤ 281474976710656 := by rw [hz2]; omega
  rw [← hW] at hxW
  have hT' := hT
  obtain ⟨bo, tc, rfl, htc, hT4⟩ := hT'
  clear hT4 hW hw9 hw1 hfit hxl
  go_wp2_with (at_make; refine wpList_make_full _ rfl _ _ 50 rfl _ 5 i0 (.int .u8 0) 1 Tryd.underlying50 hi hz0 hz1 .i64 .i64 (wrap64 ((288 : Int) * 2 ^ (t + 1))) (wrap64 ((288 : Int) * 2 ^ (t + 1))) W rfl rfl hwr hwr hWa hWm (Nat.le_refl _) ?_; intro w3 hown hgrow)
  clear hwr hWa hWm
  have hb3 := below_grown hgrow
  obtain ⟨hc3, hs3⟩ := mine_made (k := .u8) (w := w2) hown (fun _ => 0) (fun i hi => made_zero .u8 W i hi)
  clear hown hgrow
  have hlt3 := hc3.lt (by omega)
  have hT3 := hT.below hb3
  have hx3 := Nums.below (Nums.below HRX.out hb2) hb3
  have hWR := HWR.out
  unfold WritesAt at hWR
  rw [← HW.out] at hWR
  have hX9 : nl W32 x ≤ 900000 := by rw [hla]; exact HX9.out
  have HCALL : Hid (Calls Tryd.prog 72 #[.slice (some ⟨w2.heap.size, 0, none⟩) W W, .slice ao la c, .slice bo (t + 1) tc] w3 fun e w' =>
      e = .returned (.tuple #[]) ∧ Cells w' .u8 w2.heap.size 0 W (fun i => dd x (W - 1 - i)) ∧ UpdB w3.heap.size w3 w' w2.heap.size 0 W) :=
    hWR w2.heap.size 0 W w2.heap.size _ _ x _ w3 (Nat.le_refl _) hlt3 (Nat.le_refl _) hc3 hs3 hx3 hX9 hT3
  clear hWR HWR hT hT3 hx3 HRX hX9 HX9 hla HW
  refine (HCALL.out).mono ?_
  rintro e w4 ⟨rfl, hc4, hu4⟩
  have s1 := hb1.size
  have s2 := hb2.size
  have s3 := hb3.size
  have s4 := hu4.size
  have hbel : Below w.heap.size w w4 := hb1.trans ((hb2.mono s1).trans ((hb3.mono (by omega)).trans (hu4.below (by omega) (by omega))))
  clear hc3 hs3 hb3 hu4 HCALL
  go_wp2
  go_loop [6] (fun v => ∃ a : Nat, a < W ∧ v = .int .i64 (a : Int) ∧ ∀ i, i < a → dd x (W - 1 - i) = 48) (fun v => W - (intOf v).toNat)
  case atStart => exact ⟨0, by omega, rfl, fun i hi => by omega⟩
  case round =>
    obtain ⟨a, ha, rfl, hz⟩ := hrel
    have HZ : Hid (∀ i, i < a → dd x (W - 1 - i) = 48) := hz
    clear hz
    have hcell : w4.cell? ⟨w2.heap.size, a, none⟩ = some (.int .u8 (dd x (W - 1 - a))) := by have := hc4 a ha; rw [Nat.zero_add] at this; exact this
    have hconv := run_convert_bytes_arg (P := Tryd.prog) w4 50 5 Tryd.underlying50 Tryd.underlying5 w2.heap.size a (W - a) (W - a) (decs x (W - a)) (decs_length _ _)
      (fun i hi => by rw [decs_at _ _ _ hi]; have := hc4 (a + i) (by omega); rw [Nat.zero_add] at this; rw [show W - a - 1 - i = W - 1 - (a + i) by omega]; exact this) 9 Tryd.underlying9
    by_cases hlast : a + 1 < W
    · have hg : decide ((a : Int) < (W : Int) - 1) = true := by simp; omega
      by_cases h48 : dd x (W - 1 - a) = 48
      · have hbq : (dd x (W - 1 - a) == 48) = true := by simp [h48]
        have H48 : Hid (dd x (W - 1 - a) = 48) := h48
        clear h48
        go_wp2
        go_round
        case rel => exact ⟨a + 1, by omega, by go_num, fun i hi => by by_cases e : i = a; exact e ▸ H48.out; exact HZ.out i (by omega)⟩
        case measure => simp [intOf]; omega
      · have hbq : (dd x (W - 1 - a) == 48) = false := by simp [h48]
        go_wp2
        go_ret
        have hend := strip_end x W a hxW.out ha HZ.out (.inr h48)
        refine ⟨?_, hbel⟩
        show Ending.returned (.string (strOfNums (decs x (W - a)))) = _
        rw [hend]; rfl
    · have hg : decide ((a : Int) < (W : Int) - 1) = false := by simp; omega
      go_wp2
      go_ret
      have hend := strip_end x W a hxW.out ha HZ.out (.inl (by omega))
      refine ⟨?_, hbel⟩
      show Ending.returned (.string (strOfNums (decs x (W - a)))) = _
      rw [hend]; rfl

theorem print_any (v : Value) (n : Nat) (f : Nat → Int) (w : World) (hv : Nums .u64 w v n f) (hf : U64 n f) (hn : n ≤ 10000) :
    Calls Tryd.prog 48 #[v] w fun e w' => e = .returned (.string (txt (num f n))) ∧ Below w.heap.size w w' := by
  by_cases h : nl W32 (num f n) ≤ 29
  · exact print_short v n f w hv hf h
  · exact print_long v n f w hv hf (by omega) hn

theorem txt_size (x : Nat) : (txt x).size = ndec x := by
  unfold txt strOfNums
  simp [ByteArray.size, decs_length]

theorem zof_of_neg (k : Int) (h : k < 0) : zof true (-k).toNat = k := by rw [zof_true]; omega
theorem zof_of_pos (k : Int) (h : 0 ≤ k) : zof false k.toNat = k := by rw [zof_false]; omega

theorem toV_num (f : Nat → Int) (n : Nat) (h : sz (lo f) n ≤ 2) : toV f n = (num f n : Int) := by
  have hv := num_val f n
  rw [val_sz] at hv
  unfold toV
  rw [if_pos h]
  have key : ∀ i, at0 f n i % 4294967296 = if i < n then lo f i else 0 := by
    intro i; unfold at0 lo; split <;> simp
  have hz : ∀ i, sz (lo f) n ≤ i → (if i < n then lo f i else 0) = 0 := by
    intro i hi
    by_cases g : i < n
    · rw [if_pos g]; exact sz_above (lo f) n i hi g
    · rw [if_neg g]
  have hle := sz_le (lo f) n
  rw [key 1, key 0]
  rcases (show sz (lo f) n = 0 ∨ sz (lo f) n = 1 ∨ sz (lo f) n = 2 by omega) with e | e | e
  · rw [hz 0 (by omega), hz 1 (by omega)]
    rw [e] at hv; simp [val] at hv; omega
  · rw [hz 1 (by omega), if_pos (show 0 < n by omega)]
    rw [e] at hv; simp [val] at hv; omega
  · rw [if_pos (show 0 < n by omega), if_pos (show 1 < n by omega)]
    rw [e] at hv; simp [val] at hv; omega
theorem nl_two (x : Nat) : nl W32 x ≤ 2 ↔ x < 18446744073709551616 := by
  constructor
  · intro h
    have h1 := lt_pow_nl W32 x (by decide)
    have h2 : W32 ^ nl W32 x ≤ W32 ^ 2 := Nat.pow_le_pow_right (by decide) h
    unfold W32 at *; omega
  · intro h; exact nl_le W32 x 2 (by decide) (by unfold W32; omega)

/-- Is a number small? -/
def fitsB (z : Int) : Bool := decide (-9223372036854775808 ≤ z ∧ z ≤ 9223372036854775807)
/-- The number as a small one; 0, if it is not. -/
def toI (z : Int) : Int := if fitsB z = true then z else 0

/-- A number's text. -/
def ztxt (z : Int) : ByteArray := if z < 0 then { data := #[45] } ++ txt z.natAbs else txt z.natAbs

theorem ndec_le (x n : Nat) (h : x < W32 ^ n) : ndec x ≤ 10 * n + 1 := by
  have h1 : W32 ^ n ≤ 10 ^ (10 * n) := by rw [Nat.pow_mul]; exact Nat.pow_le_pow_left (by decide) n
  have h2 := nl_le 10 x (10 * n) (by omega) (by omega)
  unfold ndec; split <;> omega

set_option maxRecDepth 20000 in
set_option maxHeartbeats 1000000 in
theorem wprint_any (v : Value) (z : Int) (L : Nat) (w : World) (h : IntAt w v z L) (hL : L ≤ 10000) :
    Calls Tryd.prog 47 #[v] w fun e w' => e = .returned (.string (ztxt z)) ∧ Below w.heap.size w w' := by
  obtain ⟨neg, ao, n, c, f, rfl, h, hf, rfl, hn⟩ := h
  have hA : ∀ o, Below w.heap.size w (w.alloc o) := fun o => (Below.refl _ _).alloc (Nat.le_refl _) _
  obtain ⟨c1, c2, _, _⟩ := resW w 33 (.bool neg) (.slice ao n c)
  go_enter Tryd.func47, Tryd.ntmps47
  go_wp2_with fail
  refine (sign_any _ (zof neg (num f n)) L _ ⟨_, _, _, _, _, rfl, h.below (hA _), hf, rfl, hn⟩).mono ?_
  rintro e w1 ⟨rfl, hb1⟩
  obtain ⟨d1, d2⟩ := keep2 hb1 (by simp) ⟨c1, c2⟩
  have B1 := (hA _).trans (hb1.mono (by simp))
  clear c1 c2
  by_cases hz : zof neg (num f n) < 0
  · rw [cmpI_lt hz]
    go_wp2_with fail
    refine (print_any _ _ _ _ (h.below B1) hf (by omega)).mono ?_
    rintro e w2 ⟨rfl, hb2⟩
    have HZ : Hid (ztxt (zof neg (num f n)) = { data := #[45] } ++ txt (num f n)) := by show _ = _; unfold ztxt; rw [if_pos hz, zof_abs]
    clear hz
    have hts : (txt (num f n)).size ≤ 1000000 := by
      rw [txt_size]; have := ndec_le _ _ (num_lt f n); omega
    generalize hT : txt (num f n) = T at *
    go_wp2
    go_ret
    exact ⟨by rw [HZ.out]; rfl, B1.trans (hb2.mono B1.size)⟩
  · have hc : ¬ cmpI (zof neg (num f n)) 0 < 0 := by unfold cmpI; rw [if_neg hz]; split <;> omega
    have HZ : Hid (ztxt (zof neg (num f n)) = txt (num f n)) := by show _ = _; unfold ztxt; rw [if_neg hz, zof_abs]
    clear hz
    generalize cmpI (zof neg (num f n)) 0 = C at *
    go_wp2_with fail
    refine (print_any _ _ _ _ (h.below B1) hf (by omega)).mono ?_
    rintro e w2 ⟨rfl, hb2⟩
    go_wp2
    go_ret
    exact ⟨by rw [HZ.out]; rfl, B1.trans (hb2.mono B1.size)⟩

theorem cmp_sign {x y : Int} (h : ¬ cmpI x 0 = cmpI y 0) : cmpI (cmpI x 0) (cmpI y 0) = cmpI x y := by
  unfold cmpI at *; repeat' split <;> simp_all <;> omega

end Go.Proofs.YtbelnhpjhpoacaaDoor

namespace Go.Proofs.YtbelnhpjhpoacaaDoor
open Go.RowKit
set_option linter.unusedVariables false

theorem nl_mono (B x y : Nat) (hB : 2 ≤ B) (h : x ≤ y) : nl B x ≤ nl B y := nl_le B x _ hB (Nat.lt_of_le_of_lt h (lt_pow_nl B y hB))
theorem nl_one : nl W32 1 ≤ 1 := nl_le W32 1 1 (by decide) (by decide)

theorem floor_pos {x y q r : Int} (h : x = y * q + r) (hy : 0 < y) (h0 : 0 ≤ r) (h1 : r < y) : q = x.fdiv y ∧ r = x.fmod y := by
  have e1 : x / y = q ∧ x % y = r := (Int.ediv_emod_unique hy).2 ⟨by rw [Int.add_comm]; exact h.symm, h0, h1⟩
  rw [Int.fdiv_eq_ediv_of_nonneg _ (by omega), Int.fmod_eq_emod_of_nonneg _ (by omega)]
  exact ⟨e1.1.symm, e1.2.symm⟩
theorem floor_neg {x y q r : Int} (h : x = y * q + r) (hy : y < 0) (h0 : r ≤ 0) (h1 : y < r) : q = x.fdiv y ∧ r = x.fmod y := by
  have e := floor_pos (x := -x) (y := -y) (q := q) (r := -r) (by rw [h, Int.neg_mul]; omega) (by omega) (by omega) (by omega)
  have e1 : q = x.fdiv y := by rw [e.1, Int.neg_fdiv_neg]
  refine ⟨e1, ?_⟩
  have e2 := Int.mul_fdiv_add_fmod x y
  rw [← e1] at e2; omega

theorem floor_same (p : Bool) (X Y : Nat) (hY : 0 < Y) : (zof p X).fdiv (zof p Y) = zof false (X / Y) ∧ (zof p X).fmod (zof p Y) = zof p (X % Y) := by
  have h1 := Nat.div_add_mod X Y
  have h2 := Nat.mod_lt X hY
  have h3 : (X : Int) = (Y : Int) * ((X / Y : Nat) : Int) + ((X % Y : Nat) : Int) := by rw [← Int.natCast_mul]; omega
  generalize X / Y = Q at *
  generalize X % Y = R at *
  cases p with
  | false =>
    simp only [zof_false]
    have := floor_pos h3 (by omega) (by omega) (by omega)
    exact ⟨this.1.symm, this.2.symm⟩
  | true =>
    simp only [zof_true, zof_false]
    have := floor_neg (x := -(X : Int)) (y := -(Y : Int)) (q := Q) (r := -(R : Int)) (by rw [h3, Int.neg_mul]; omega) (by omega) (by omega) (by omega)
    exact ⟨this.1.symm, this.2.symm⟩
theorem floor_even (p : Bool) (X Y : Nat) (hY : 0 < Y) (hR : X % Y = 0) : (zof p X).fdiv (zof (!p) Y) = zof true (X / Y) ∧ (zof p X).fmod (zof (!p) Y) = 0 := by
  have h1 := Nat.div_add_mod X Y
  have h3 : (X : Int) = (Y : Int) * ((X / Y : Nat) : Int) := by rw [← Int.natCast_mul]; omega
  generalize X / Y = Q at *
  cases p with
  | false =>
    simp only [zof_false, Bool.not_false, zof_true]
    have := floor_neg (x := (X : Int)) (y := -(Y : Int)) (q := -(Q : Int)) (r := 0) (by rw [h3, Int.neg_mul_neg]; omega) (by omega) (by omega) (by omega)
    exact ⟨this.1.symm, this.2.symm⟩
  | true =>
    simp only [zof_true, Bool.not_true, zof_false]
    have := floor_pos (x := -(X : Int)) (y := (Y : Int)) (q := -(Q : Int)) (r := 0) (by rw [h3, Int.mul_neg]; omega) (by omega) (by omega) (by omega)
    exact ⟨this.1.symm, this.2.symm⟩
theorem floor_odd (p : Bool) (X Y : Nat) (hY : 0 < Y) (hR : X % Y ≠ 0) : (zof p X).fdiv (zof (!p) Y) = zof true (X / Y + 1) ∧ (zof p X).fmod (zof (!p) Y) = zof (!p) (Y - X % Y) := by
  have h1 := Nat.div_add_mod X Y
  have h2 := Nat.mod_lt X hY
  have h3 : (X : Int) = (Y : Int) * ((X / Y : Nat) : Int) + ((X % Y : Nat) : Int) := by rw [← Int.natCast_mul]; omega
  generalize X / Y = Q at *
  generalize X % Y = R at *
  cases p with
  | false =>
    simp only [zof_false, Bool.not_false, zof_true]
    have := floor_neg (x := (X : Int)) (y := -(Y : Int)) (q := -((Q + 1 : Nat) : Int)) (r := -((Y - R : Nat) : Int)) (by rw [h3, Int.neg_mul_neg, Int.natCast_add, Int.mul_add]; omega) (by omega) (by omega) (by omega)
    exact ⟨this.1.symm, this.2.symm⟩
  | true =>
    simp only [zof_true, Bool.not_true, zof_false]
    have := floor_pos (x := -(X : Int)) (y := (Y : Int)) (q := -((Q + 1 : Nat) : Int)) (r := ((Y - R : Nat) : Int)) (by rw [h3, Int.mul_neg, Int.natCast_add, Int.mul_add]; omega) (by omega) (by omega) (by omega)
    exact ⟨this.1.symm, this.2.symm⟩

/-- Two variables for structs laid behind two others. -/
theorem res34 (w : World) (o o' : Obj) (t t' : TypeId) (x y x' y' : Value) :
    ((((w.alloc o).alloc o').alloc (.cells #[x, y] t)).alloc (.cells #[x', y'] t')).cell? ⟨w.heap.size + 1 + 1, 0, none⟩ = some x ∧
    ((((w.alloc o).alloc o').alloc (.cells #[x, y] t)).alloc (.cells #[x', y'] t')).cell? ⟨w.heap.size + 1 + 1, 1, none⟩ = some y ∧
    ((((w.alloc o).alloc o').alloc (.cells #[x, y] t)).alloc (.cells #[x', y'] t')).frozen? ⟨w.heap.size + 1 + 1, 0, none⟩ = false ∧
    ((((w.alloc o).alloc o').alloc (.cells #[x, y] t)).alloc (.cells #[x', y'] t')).frozen? ⟨w.heap.size + 1 + 1, 1, none⟩ = false := by
  refine keepW (B := w.heap.size + 1 + 1 + 1) ((Below.refl _ _).alloc (by simp) _) (by simp) (res2 w o o' t x y)
theorem res4 (w : World) (o o' o'' : Obj) (t : TypeId) (x y : Value) :
    ((((w.alloc o).alloc o').alloc o'').alloc (.cells #[x, y] t)).cell? ⟨w.heap.size + 1 + 1 + 1, 0, none⟩ = some x ∧ ((((w.alloc o).alloc o').alloc o'').alloc (.cells #[x, y] t)).cell? ⟨w.heap.size + 1 + 1 + 1, 1, none⟩ = some y ∧
    ((((w.alloc o).alloc o').alloc o'').alloc (.cells #[x, y] t)).frozen? ⟨w.heap.size + 1 + 1 + 1, 0, none⟩ = false ∧ ((((w.alloc o).alloc o').alloc o'').alloc (.cells #[x, y] t)).frozen? ⟨w.heap.size + 1 + 1 + 1, 1, none⟩ = false := by
  have h := resW (((w.alloc o).alloc o').alloc o'') t x y
  rw [World.size_alloc, World.size_alloc, World.size_alloc] at h; exact h


theorem box_b (w : World) (t t' : TypeId) (p q p' q' : Value) (o o' : Obj) :
    ((((w.alloc (.cells #[p, q] t)).alloc (.cells #[p', q'] t')).alloc o).alloc o').cell? ⟨w.heap.size, 0, none⟩ = some p ∧
    ((((w.alloc (.cells #[p, q] t)).alloc (.cells #[p', q'] t')).alloc o).alloc o').cell? ⟨w.heap.size, 1, none⟩ = some q ∧
    ((((w.alloc (.cells #[p, q] t)).alloc (.cells #[p', q'] t')).alloc o).alloc o').cell? ⟨w.heap.size + 1, 0, none⟩ = some p' ∧
    ((((w.alloc (.cells #[p, q] t)).alloc (.cells #[p', q'] t')).alloc o).alloc o').cell? ⟨w.heap.size + 1, 1, none⟩ = some q' := by
  have h0 := resW w t p q
  have h1 := res1 w (.cells #[p, q] t) t' p' q'
  have b1 : Below (w.heap.size + 1) (w.alloc (.cells #[p, q] t)) ((((w.alloc (.cells #[p, q] t)).alloc (.cells #[p', q'] t')).alloc o).alloc o') :=
    (((Below.refl _ _).alloc (by simp) _).alloc (by simp) _).alloc (by simp <;> omega) _
  have b2 : Below (w.heap.size + 1 + 1) ((w.alloc (.cells #[p, q] t)).alloc (.cells #[p', q'] t')) ((((w.alloc (.cells #[p, q] t)).alloc (.cells #[p', q'] t')).alloc o).alloc o') :=
    ((Below.refl _ _).alloc (by simp) _).alloc (by simp) _
  have k0 := keep2 b1 (by simp) ⟨h0.1, h0.2.1⟩
  have k1 := keep2 b2 (by simp) ⟨h1.1, h1.2.1⟩
  exact ⟨k0.1, k0.2, k1.1, k1.2⟩

/-- Two answers stored. -/
theorem RepI.store4 {w : World} {v : Value} {z : Int} (h : RepI w v z) {R R' m c m' c' : Nat} {p p' : Bool} {ao ao' : Option Addr} (q1 : w.cell? ⟨R, 0, none⟩ = some (.bool p)) (q2 : w.cell? ⟨R, 1, none⟩ = some (.slice ao m c))
    (q3 : w.cell? ⟨R', 0, none⟩ = some (.bool p')) (q4 : w.cell? ⟨R', 1, none⟩ = some (.slice ao' m' c')) (hne : R' ≠ R) (x y x' y' : Value) :
    RepI ((((w.setCell ⟨R, 0, none⟩ x).setCell ⟨R, 1, none⟩ y).setCell ⟨R', 0, none⟩ x').setCell ⟨R', 1, none⟩ y') v z := by
  have a1 : ((w.setCell ⟨R, 0, none⟩ x).setCell ⟨R, 1, none⟩ y).cell? ⟨R', 0, none⟩ = some (.bool p') := by
    rw [World.cell?_setCell_other _ _ _ _ (fun e => by injection e; omega), World.cell?_setCell_other _ _ _ _ (fun e => by injection e; omega)]; exact q3
  have a2 : ((w.setCell ⟨R, 0, none⟩ x).setCell ⟨R, 1, none⟩ y).cell? ⟨R', 1, none⟩ = some (.slice ao' m' c') := by
    rw [World.cell?_setCell_other _ _ _ _ (fun e => by injection e; omega), World.cell?_setCell_other _ _ _ _ (fun e => by injection e; omega)]; exact q4
  exact (h.store2 q1 q2 x y).store2 a1 a2 x' y'

/-- What DivMod answers where there is a quotient. -/
def DivOut (x y : Int) (B : Nat) (w : World) (e : Ending) (w' : World) : Prop :=
  ∃ q r, e = .returned (.tuple #[q, r, .int .i64 0]) ∧ RepI w' q (x.fdiv y) ∧ RepI w' r (x.fmod y) ∧ Below B w w'

set_option maxRecDepth 20000 in
set_option maxHeartbeats 2000000 in
theorem wdiv_zero (p q : Bool) (ao : Option Addr) (n c : Nat) (f : Nat → Int) (bo : Option Addr) (m d : Nat) (g : Nat → Int) (w : World)
    (hu : Nums .u64 w (.slice ao n c) n f) (hf : U64 n f) (hv : Nums .u64 w (.slice bo m d) m g) (hg : U64 m g) (h0 : num g m = 0) :
    Calls Tryd.prog 40 #[.agg #[.bool p, .slice ao n c], .agg #[.bool q, .slice bo m d]] w fun e w' => ∃ q r, e = .returned (.tuple #[q, r, .int .i64 2]) ∧ RepI w' q 0 ∧ RepI w' r 0 ∧ Below w.heap.size w w' := by
  have hA : ∀ o o' o'' o3, Below w.heap.size w ((((w.alloc o).alloc o').alloc o'').alloc o3) := fun o o' o'' o3 => ((((Below.refl _ _).alloc (Nat.le_refl _) _).alloc (by simp) _).alloc (by simp; omega) _).alloc (by simp; omega) _
  have ne1 : ¬ w.heap.size = w.heap.size + 1 + 1 := by omega
  have ne2 : ¬ w.heap.size + 1 + 1 = w.heap.size := by omega
  have ne3 : ¬ w.heap.size = w.heap.size + 1 + 1 + 1 := by omega
  have ne4 : ¬ w.heap.size + 1 + 1 + 1 = w.heap.size := by omega
  have ne5 : ¬ w.heap.size + 1 = w.heap.size + 1 + 1 + 1 := by omega
  have ne6 : ¬ w.heap.size + 1 + 1 + 1 = w.heap.size + 1 := by omega
  obtain ⟨c1, c2, c3, c4⟩ := box_b w 33 33 (.bool p) (.slice ao n c) (.bool q) (.slice bo m d) (.cells #[.bool false, .slice none 0 0] 33) (.cells #[.bool false, .slice none 0 0] 33)
  go_enter Tryd.func40, Tryd.ntmps40
  go_wp2_with fail
  refine (divMod_zero _ _ _ _ _ (hv.below (hA _ _ _ _)) hg h0).mono ?_
  rintro e w0 ⟨rfl, hw⟩
  subst hw
  go_wp2
  (try simp only [Exit.inBlock, Exit.then])
  refine bodyPost_ret (v := .tuple #[.agg #[.bool false, .slice none 0 0], .agg #[.bool false, .slice none 0 0], .int .i64 2]) (by simp [results, go_sem]) rfl ?_
  exact ⟨_, _, rfl, RepI.nil _, RepI.nil _, hA _ _ _ _⟩

set_option maxRecDepth 20000 in
set_option maxHeartbeats 2000000 in
theorem wdiv_same (p : Bool) (ao : Option Addr) (n c : Nat) (f : Nat → Int) (bo : Option Addr) (m d : Nat) (g : Nat → Int) (w : World)
    (hu : Nums .u64 w (.slice ao n c) n f) (hf : U64 n f) (hv : Nums .u64 w (.slice bo m d) m g) (hg : U64 m g) (h0 : num g m ≠ 0) (hl : nl W32 (num f n) ≤ 999999) :
    Calls Tryd.prog 40 #[.agg #[.bool p, .slice ao n c], .agg #[.bool p, .slice bo m d]] w fun e w' => DivOut (zof p (num f n)) (zof p (num g m)) w.heap.size w e w' := by
  have hA : ∀ o o' o'' o3, Below w.heap.size w ((((w.alloc o).alloc o').alloc o'').alloc o3) := fun o o' o'' o3 => ((((Below.refl _ _).alloc (Nat.le_refl _) _).alloc (by simp) _).alloc (by simp; omega) _).alloc (by simp; omega) _
  have ne1 : ¬ w.heap.size = w.heap.size + 1 + 1 := by omega
  have ne2 : ¬ w.heap.size + 1 + 1 = w.heap.size := by omega
  have ne3 : ¬ w.heap.size = w.heap.size + 1 + 1 + 1 := by omega
  have ne4 : ¬ w.heap.size + 1 + 1 + 1 = w.heap.size := by omega
  have ne5 : ¬ w.heap.size + 1 = w.heap.size + 1 + 1 + 1 := by omega
  have ne6 : ¬ w.heap.size + 1 + 1 + 1 = w.heap.size + 1 := by omega
  obtain ⟨c1, c2, c3, c4⟩ := box_b w 33 33 (.bool p) (.slice ao n c) (.bool p) (.slice bo m d) (.cells #[.bool false, .slice none 0 0] 33) (.cells #[.bool false, .slice none 0 0] 33)
  go_enter Tryd.func40, Tryd.ntmps40
  go_wp2_with fail
  refine (divMod_of _ _ _ _ _ _ _ (hu.below (hA _ _ _ _)) (hv.below (hA _ _ _ _)) hf hg h0 (divide_any _ _ (by omega) hl)).mono ?_
  rintro e w0 ⟨qv, rv, rfl, hqv, hrv, hb0⟩
  have hj0 := keepW hb0 (by simp) (res34 w _ _ _ _ _ _ _ _)
  have hk0 := keepW hb0 (by simp) (res4 w _ _ _ _ _ _)
  obtain ⟨d1, d2, d3, d4⟩ := keep4 hb0 (by simp) ⟨c1, c2, c3, c4⟩
  have B0 : Below w.heap.size w w0 := (hA _ _ _ _).trans (hb0.mono (by simp; omega))
  clear c1 c2 c3 c4
  go_wp2
  go_region_held3 (fun w' => w'.cell? ⟨w.heap.size, 0, none⟩ = some (.bool p) ∧ w'.cell? ⟨w.heap.size, 1, none⟩ = some (.slice ao n c) ∧ w'.cell? ⟨w.heap.size + 1, 0, none⟩ = some (.bool p) ∧ w'.cell? ⟨w.heap.size + 1, 1, none⟩ = some (.slice bo m d)) (first | exact keep4 (by assumption) (by simp) (by assumption) | go_keep) (first
    | (go_at_call_of 60 qv; refine (signed_any false _ _ _ (hqv.nums.below (Below.refl _ w0).drew)).mono ?_; rintro e w1 ⟨r1, rfl, hr1, hb1⟩; obtain ⟨b1, ao1, n1, e1, rfl⟩ := hr1.open; have hj1 := keepW hb1 (Nat.le_refl _) hj0; have hk1 := keepW hb1 (Nat.le_refl _) hk0)
    | (go_at_call_of 60 rv; refine (signed_any p _ _ _ ((hrv.nums.below (Below.refl _ w0).drew).below hb1)).mono ?_; rintro e w2 ⟨r2, rfl, hr2, hb2⟩; obtain ⟨b2, ao2, n2, e2, rfl⟩ := hr2.open; obtain ⟨q1, q2, q3, q4⟩ := keepW hb2 (Nat.le_refl _) hj1; obtain ⟨q5, q6, q7, q8⟩ := keepW hb2 (Nat.le_refl _) hk1))
  go_wp2
  (try simp only [Exit.inBlock, Exit.then])
  refine bodyPost_ret (v := .tuple #[.agg #[.bool b1, .slice ao1 n1 e1], .agg #[.bool b2, .slice ao2 n2 e2], .int .i64 0]) (by simp [results, go_sem, q1, q2, q5, q6]) rfl ?_
  have B1 := B0.drew.trans (hb1.mono B0.size)
  have B2 := B1.trans (hb2.mono B1.size)
  have hfl := floor_same p (num f n) (num g m) (by omega)
  refine ⟨_, _, rfl, ?_, ?_, below_store2 (below_store2 B2 (by omega) _ _) (by omega) _ _⟩
  · rw [hfl.1]; exact (hr1.below hb2).store4 q1 q2 q5 q6 (by omega) _ _ _ _
  · rw [hfl.2]; exact hr2.store4 q1 q2 q5 q6 (by omega) _ _ _ _

set_option maxRecDepth 20000 in
set_option maxHeartbeats 2000000 in
theorem wdiv_even (p : Bool) (ao : Option Addr) (n c : Nat) (f : Nat → Int) (bo : Option Addr) (m d : Nat) (g : Nat → Int) (w : World)
    (hu : Nums .u64 w (.slice ao n c) n f) (hf : U64 n f) (hv : Nums .u64 w (.slice bo m d) m g) (hg : U64 m g) (h0 : num g m ≠ 0) (hl : nl W32 (num f n) ≤ 999999) (hR : num f n % num g m = 0) :
    Calls Tryd.prog 40 #[.agg #[.bool p, .slice ao n c], .agg #[.bool (!p), .slice bo m d]] w fun e w' => DivOut (zof p (num f n)) (zof (!p) (num g m)) w.heap.size w e w' := by
  have hA : ∀ o o' o'' o3, Below w.heap.size w ((((w.alloc o).alloc o').alloc o'').alloc o3) := fun o o' o'' o3 => ((((Below.refl _ _).alloc (Nat.le_refl _) _).alloc (by simp) _).alloc (by simp; omega) _).alloc (by simp; omega) _
  have ne1 : ¬ w.heap.size = w.heap.size + 1 + 1 := by omega
  have ne2 : ¬ w.heap.size + 1 + 1 = w.heap.size := by omega
  have ne3 : ¬ w.heap.size = w.heap.size + 1 + 1 + 1 := by omega
  have ne4 : ¬ w.heap.size + 1 + 1 + 1 = w.heap.size := by omega
  have ne5 : ¬ w.heap.size + 1 = w.heap.size + 1 + 1 + 1 := by omega
  have ne6 : ¬ w.heap.size + 1 + 1 + 1 = w.heap.size + 1 := by omega
  have hpq : (p == !p) = false := by cases p <;> rfl
  obtain ⟨c1, c2, c3, c4⟩ := box_b w 33 33 (.bool p) (.slice ao n c) (.bool (!p)) (.slice bo m d) (.cells #[.bool false, .slice none 0 0] 33) (.cells #[.bool false, .slice none 0 0] 33)
  have hfl : Hid (_ ∧ _) := floor_even p (num f n) (num g m) (by omega) hR
  generalize hq : (!p) = q at *
  go_enter Tryd.func40, Tryd.ntmps40
  go_wp2_with fail
  refine (divMod_of _ _ _ _ _ _ _ (hu.below (hA _ _ _ _)) (hv.below (hA _ _ _ _)) hf hg h0 (divide_any _ _ (by omega) hl)).mono ?_
  rintro e w0 ⟨qv, rv, rfl, hqv, hrv, hb0⟩
  have hj0 := keepW hb0 (by simp) (res34 w _ _ _ _ _ _ _ _)
  have hk0 := keepW hb0 (by simp) (res4 w _ _ _ _ _ _)
  obtain ⟨d1, d2, d3, d4⟩ := keep4 hb0 (by simp) ⟨c1, c2, c3, c4⟩
  have B0 : Below w.heap.size w w0 := (hA _ _ _ _).trans (hb0.mono (by simp; omega))
  clear c1 c2 c3 c4 hq
  go_wp2_with fail
  refine (nat_zero_rep hrv.rep).mono ?_
  rintro e w1 ⟨rfl, hw⟩
  subst hw
  rw [decide_eq_true hR]
  go_wp2_with fail
  refine (signed_any true _ _ _ hqv.nums).mono ?_
  rintro e w1 ⟨r1, rfl, hr1, hb1⟩
  obtain ⟨b1, ao1, n1, e1, rfl⟩ := hr1.open
  obtain ⟨q1, q2, q3, q4⟩ := keepW hb1 (Nat.le_refl _) hj0
  obtain ⟨q5, q6, q7, q8⟩ := keepW hb1 (Nat.le_refl _) hk0
  go_wp2
  (try simp only [Exit.inBlock, Exit.then])
  refine bodyPost_ret (v := .tuple #[.agg #[.bool b1, .slice ao1 n1 e1], .agg #[.bool false, .slice none 0 0], .int .i64 0]) (by simp [results, go_sem, q1, q2, q5, q6]) rfl ?_
  have B1 := B0.trans (hb1.mono B0.size)
  refine ⟨_, _, rfl, ?_, ?_, below_store2 (below_store2 B1 (by omega) _ _) (by omega) _ _⟩
  · rw [hfl.out.1]; exact hr1.store4 q1 q2 q5 q6 (by omega) _ _ _ _
  · rw [hfl.out.2]; exact RepI.nil _

set_option maxRecDepth 20000 in
set_option maxHeartbeats 2000000 in
theorem wdiv_odd (p : Bool) (ao : Option Addr) (n c : Nat) (f : Nat → Int) (bo : Option Addr) (m d : Nat) (g : Nat → Int) (w : World)
    (hu : Nums .u64 w (.slice ao n c) n f) (hf : U64 n f) (hv : Nums .u64 w (.slice bo m d) m g) (hg : U64 m g) (h0 : num g m ≠ 0) (hl : nl W32 (num f n) ≤ 999999) (hR : num f n % num g m ≠ 0) :
    Calls Tryd.prog 40 #[.agg #[.bool p, .slice ao n c], .agg #[.bool (!p), .slice bo m d]] w fun e w' => DivOut (zof p (num f n)) (zof (!p) (num g m)) w.heap.size w e w' := by
  have hA : ∀ o o' o'' o3, Below w.heap.size w ((((w.alloc o).alloc o').alloc o'').alloc o3) := fun o o' o'' o3 => ((((Below.refl _ _).alloc (Nat.le_refl _) _).alloc (by simp) _).alloc (by simp; omega) _).alloc (by simp; omega) _
  have ne1 : ¬ w.heap.size = w.heap.size + 1 + 1 := by omega
  have ne2 : ¬ w.heap.size + 1 + 1 = w.heap.size := by omega
  have ne3 : ¬ w.heap.size = w.heap.size + 1 + 1 + 1 := by omega
  have ne4 : ¬ w.heap.size + 1 + 1 + 1 = w.heap.size := by omega
  have ne5 : ¬ w.heap.size + 1 = w.heap.size + 1 + 1 + 1 := by omega
  have ne6 : ¬ w.heap.size + 1 + 1 + 1 = w.heap.size + 1 := by omega
  have hpq : (p == !p) = false := by cases p <;> rfl
  obtain ⟨c1, c2, c3, c4⟩ := box_b w 33 33 (.bool p) (.slice ao n c) (.bool (!p)) (.slice bo m d) (.cells #[.bool false, .slice none 0 0] 33) (.cells #[.bool false, .slice none 0 0] 33)
  have hfl : Hid (_ ∧ _) := floor_odd p (num f n) (num g m) (by omega) hR
  generalize hq : (!p) = q at *
  go_enter Tryd.func40, Tryd.ntmps40
  go_wp2_with fail
  refine (divMod_of _ _ _ _ _ _ _ (hu.below (hA _ _ _ _)) (hv.below (hA _ _ _ _)) hf hg h0 (divide_any _ _ (by omega) hl)).mono ?_
  rintro e w0 ⟨qv, rv, rfl, hqv, hrv, hb0⟩
  have hj0 := keepW hb0 (by simp) (res34 w _ _ _ _ _ _ _ _)
  have hk0 := keepW hb0 (by simp) (res4 w _ _ _ _ _ _)
  obtain ⟨d1, d2, d3, d4⟩ := keep4 hb0 (by simp) ⟨c1, c2, c3, c4⟩
  have B0 : Below w.heap.size w w0 := (hA _ _ _ _).trans (hb0.mono (by simp; omega))
  clear c1 c2 c3 c4 hq
  have hlm : num f n % num g m < num g m := Nat.mod_lt _ (by omega)
  have hq1 : nl W32 (num f n / num g m) ≤ 999999 := Nat.le_trans (nl_mono W32 _ _ (by decide) (Nat.div_le_self _ _)) hl
  have hn1 := nl_one
  go_wp2_with fail
  refine (nat_zero_rep hrv.rep).mono ?_
  rintro e wz ⟨rfl, hw⟩
  subst hw
  rw [decide_eq_false hR]
  have i1 : Rep wz.drew qv (num f n / num g m) := hqv.nums.below (Below.refl _ wz).drew
  have i2 : Rep wz.drew rv (num f n % num g m) := hrv.nums.below (Below.refl _ wz).drew
  have i3 : Nums .u64 wz.drew (.slice bo m d) m g := hv.below B0.drew
  go_wp2
  go_region_held3 (fun w' => w'.cell? ⟨w.heap.size, 0, none⟩ = some (.bool p) ∧ w'.cell? ⟨w.heap.size, 1, none⟩ = some (.slice ao n c) ∧ w'.cell? ⟨w.heap.size + 1, 0, none⟩ = some (.bool q) ∧ w'.cell? ⟨w.heap.size + 1, 1, none⟩ = some (.slice bo m d)) (first | exact keep4 (by assumption) (by simp) (by assumption) | go_keep) (first
    | (go_at_call 26; refine (of_any _ _ (by omega) (by omega)).mono ?_; rintro e w1 ⟨s1, rfl, hs1, hb1⟩; rw [show (1 : Int).toNat = 1 from rfl] at hs1; have hj1 := keepW hb1 (Nat.le_refl _) hj0; have hk1 := keepW hb1 (Nat.le_refl _) hk0)
    | (go_at_call 61; refine (add_any _ _ _ _ _ _ _ (Nums.below i1 hb1) hs1.nums (u64_dg _ _) (u64_dg _ _) (by omega) (by omega)).mono ?_; rw [num_nl, num_nl]; rintro e w2 ⟨s2, rfl, hs2, hb2⟩; have hj2 := keepW hb2 (Nat.le_refl _) hj1; have hk2 := keepW hb2 (Nat.le_refl _) hk1)
    | (go_at_call_of 60 s2; refine (signed_any true _ _ _ hs2.rep).mono ?_; rintro e w3 ⟨r1, rfl, hr1, hb3⟩; obtain ⟨b1, ao1, n1, e1, rfl⟩ := hr1.open; have hj3 := keepW hb3 (Nat.le_refl _) hj2; have hk3 := keepW hb3 (Nat.le_refl _) hk2)
    | (go_at_call 62; refine (less_any _ _ _ _ _ _ _ (((i3.below hb1).below hb2).below hb3) (Nums.below (Nums.below (Nums.below i2 hb1) hb2) hb3) hg (u64_dg _ _) (by rw [num_nl]; omega)).mono ?_; rw [num_nl]; rintro e w4 ⟨s4, rfl, hs4, hb4⟩; have hj4 := keepW hb4 (Nat.le_refl _) hj3; have hk4 := keepW hb4 (Nat.le_refl _) hk3)
    | (go_at_call_of 60 s4; refine (signed_any q _ _ _ hs4.rep).mono ?_; rintro e w5 ⟨r2, rfl, hr2, hb5⟩; obtain ⟨b2, ao2, n2, e2, rfl⟩ := hr2.open; obtain ⟨q1, q2, q3, q4⟩ := keepW hb5 (Nat.le_refl _) hj4; obtain ⟨q5, q6, q7, q8⟩ := keepW hb5 (Nat.le_refl _) hk4))
  go_wp2
  (try simp only [Exit.inBlock, Exit.then])
  refine bodyPost_ret (v := .tuple #[.agg #[.bool b1, .slice ao1 n1 e1], .agg #[.bool b2, .slice ao2 n2 e2], .int .i64 0]) (by simp [results, go_sem, q1, q2, q5, q6]) rfl ?_
  have B1 := B0.drew.trans (hb1.mono B0.size)
  have B2 := B1.trans (hb2.mono B1.size)
  have B3 := B2.trans (hb3.mono B2.size)
  have B4 := B3.trans (hb4.mono B3.size)
  have B5 := B4.trans (hb5.mono B4.size)
  refine ⟨_, _, rfl, ?_, ?_, below_store2 (below_store2 B5 (by omega) _ _) (by omega) _ _⟩
  · rw [hfl.out.1]; exact ((hr1.below hb4).below hb5).store4 q1 q2 q5 q6 (by omega) _ _ _ _
  · rw [hfl.out.2]; exact hr2.store4 q1 q2 q5 q6 (by omega) _ _ _ _

theorem wdivMod_any (u v : Value) (x y : Int) (L M : Nat) (w : World) (hu : IntAt w u x L) (hv : IntAt w v y M) (hL : L ≤ 999998) (hy : y ≠ 0) :
    Calls Tryd.prog 40 #[u, v] w fun e w' => DivOut x y w.heap.size w e w' := by
  obtain ⟨p, ao, n, c, f, rfl, hu, hf, rfl, hn⟩ := hu
  obtain ⟨q, bo, m, d, g, rfl, hv, hg, rfl, hm⟩ := hv
  have h0 : num g m ≠ 0 := fun h => hy (by rw [h]; cases q <;> simp [zof])
  have hl : nl W32 (num f n) ≤ 999999 := Nat.le_trans (nl_le W32 _ _ (by decide) (num_lt f n)) (by omega)
  by_cases hpq : p = q
  · subst hpq
    exact wdiv_same p ao n c f bo m d g w hu hf hv hg h0 hl
  · obtain rfl : q = !p := by cases p <;> cases q <;> simp_all
    by_cases hR : num f n % num g m = 0
    · exact wdiv_even p ao n c f bo m d g w hu hf hv hg h0 hl hR
    · exact wdiv_odd p ao n c f bo m d g w hu hf hv hg h0 hl hR
theorem wdivMod_zero (u v : Value) (x : Int) (L M : Nat) (w : World) (hu : IntAt w u x L) (hv : IntAt w v 0 M) :
    Calls Tryd.prog 40 #[u, v] w fun e w' => ∃ q r, e = .returned (.tuple #[q, r, .int .i64 2]) ∧ RepI w' q 0 ∧ RepI w' r 0 ∧ Below w.heap.size w w' := by
  obtain ⟨p, ao, n, c, f, rfl, hu, hf, _, hn⟩ := hu
  obtain ⟨q, bo, m, d, g, rfl, hv, hg, h0, hm⟩ := hv
  exact wdiv_zero p q ao n c f bo m d g w hu hf hv hg (by have := zof_abs q (num g m); rw [h0] at this; simpa using this.symm)

end Go.Proofs.YtbelnhpjhpoacaaDoor
