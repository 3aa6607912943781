/-
  What math/bits.Len and nat.Sqrt answer.
-/
import Derived.Test.YtagphmhgceajhabNewton
import Derived.Test.YtagphmhgceajhabLenBit
import Derived.Test.YtagphmhgceajhabDivAll
namespace Go.Proofs.Ytagphmhgceajhab
open Go.RowKit

set_option maxHeartbeats 400000 in
theorem blen_any (x : Int) (w : World) (h0 : 0 ≤ x) (h1 : x ≤ 4294967295) :
    Calls Try.prog 49 #[.int .u64 x] w fun e w' => e = .returned (.int .i64 (Lib.bitLen x.toNat)) ∧ w' = w := by
  go_enter Try.func49, Try.ntmps49
  go_wp2_with (go_at_call 46; refine (len64_any x _ h0 h1).mono ?_; rintro e w2 ⟨rfl, hw2⟩; subst hw2)
  go_ret
  exact ⟨rfl, rfl⟩

/-- A root's greatness. -/
theorem root_nl (x A k : Nat) (hx : x < W32 ^ 60) (h : (A - 1) * (A - 1) < x / 4 ^ k) : nl W32 A ≤ 31 := by
  refine nl_le W32 A 31 (by decide) ?_
  by_cases g : A < W32 ^ 31
  · exact g
  · exfalso
    have h1 : W32 ^ 30 ≤ A - 1 := by
      have e : W32 ^ 31 = W32 ^ 30 * W32 := Nat.pow_succ _ _
      have e2 : W32 ^ 30 * 2 ≤ W32 ^ 30 * W32 := Nat.mul_le_mul_left _ (by decide)
      have e3 : 0 < W32 ^ 30 := Nat.pow_pos (by decide)
      omega
    have h2 : W32 ^ 30 * W32 ^ 30 ≤ (A - 1) * (A - 1) := Nat.mul_le_mul h1 h1
    rw [← Nat.pow_add] at h2
    have h3 := Nat.div_le_self x (4 ^ k)
    have : W32 ^ (30 + 30) = W32 ^ 60 := rfl
    omega

/-- Where the root begins. -/
theorem root_start (x L c : Nat) (h1 : 2 ^ (L - 1) ≤ x) (h2 : x < 2 ^ L) (hL : 0 < L) (hc : c = (L - 1) / 2) : 4 ^ c ≤ x ∧ 0 < x / 4 ^ c ∧ x / 4 ^ c < 4 := by
  have e4 : (4 : Nat) ^ c = 2 ^ (2 * c) := by rw [Nat.pow_mul]
  have a1 : 4 ^ c ≤ x := by rw [e4]; exact Nat.le_trans (Nat.pow_le_pow_right (by omega) (by omega)) h1
  have a2 : x < 4 ^ c * 4 := by
    rw [e4, show 2 ^ (2 * c) * 4 = 2 ^ (2 * c + 2) by rw [Nat.pow_add]]
    exact Nat.lt_of_lt_of_le h2 (Nat.pow_le_pow_right (by omega) (by omega))
  exact ⟨a1, Nat.div_pos a1 (Nat.pow_pos (by omega)), Nat.div_lt_of_lt_mul a2⟩

/-- Of a number's bits one more. -/
theorem next_bit (c i : Nat) (h : 2 ^ i ≤ c) : c / 2 ^ (i + 1) < c / 2 ^ i ∧ c / 2 ^ i ≤ 2 * (c / 2 ^ (i + 1)) + 1 ∧ c / 2 ^ i ≤ c := by
  have h1 : 1 ≤ c / 2 ^ i := (Nat.le_div_iff_mul_le (Nat.two_pow_pos i)).2 (by omega)
  have e : c / 2 ^ (i + 1) = c / 2 ^ i / 2 := by rw [Nat.pow_succ, Nat.div_div_eq_div_mul]
  have h2 := Nat.div_le_self c (2 ^ i)
  rw [e]
  generalize c / 2 ^ i = d at *
  omega

set_option maxHeartbeats 4000000 in
theorem sqrt_pos (u : Value) (n : Nat) (f : Nat → Int) (w : World) (hu : Nums .u64 w u n f) (hf : U64 n f) (hn : n ≤ 60) (h0 : num f n ≠ 0) :
    Calls Try.prog 31 #[u] w fun e w' => ∃ r R, e = .returned r ∧ RepM w.heap.size w' r R ∧ R * R ≤ num f n ∧ num f n < (R + 1) * (R + 1) ∧ Below w.heap.size w w' := by
  have hx60 : num f n < W32 ^ 60 := Nat.lt_of_lt_of_le (num_lt f n) (Nat.pow_le_pow_right (by decide) hn)
  have HX60 : Hid (num f n < W32 ^ 60) := hx60
  have hxn := nl_le W32 (num f n) 60 (by decide) hx60
  have hnx : nl W32 (num f n) ≠ 0 := mt (nl_eq_zero W32 _ (by decide)).1 h0
  clear hx60
  go_enter Try.func31, Try.ntmps31
  go_wp2_with fail
  refine (plain_any _ _ _ _ hu hf).mono ?_
  rintro e w1 ⟨r1, rfl, hr1, hb1⟩
  generalize hxx : num f n = x at *
  have HXX : Hid (num f n = x) := hxx
  clear hxx
  have hr1' := hr1
  obtain ⟨ao, c1, rfl, hl1⟩ := rep_val hr1'
  clear hr1' hu hf
  have HR1 : Hid (Rep w1 (.slice ao (nl W32 x) c1) x) := hr1
  have HLEN := len_any _ _ _ w1 (show Nums .u64 w1 (.slice ao (nl W32 x) c1) (nl W32 x) (dg W32 x) from hr1) (u64_dg _ _)
  rw [num_nl] at HLEN
  have HL : Hid (Calls Try.prog 23 #[.slice ao (nl W32 x) c1] w1 fun e w' => ∃ L : Nat, e = .returned (.int .i64 (L : Int)) ∧ x < 2 ^ L ∧ (0 < L → 2 ^ (L - 1) ≤ x) ∧ L ≤ 32 * nl W32 x ∧ w' = w1) := HLEN
  clear HLEN hr1
  have hne : ((nl W32 x : Int) == 0) = false := by simp; omega
  have HXN : Hid (nl W32 x ≤ 60) := hxn
  have hlx : (nl W32 x : Int) ≤ 60 := by omega
  clear hxn hnx
  generalize hla : nl W32 x = la at *
  go_wp2_with fail
  refine (Hid.out HL).mono ?_
  rintro e w2 ⟨L, rfl, hL1, hL2, hL3, hw2⟩
  subst hw2
  have hLpos : 0 < L := by
    rcases Nat.eq_zero_or_pos L with e | e
    · subst e; simp at hL1; omega
    · exact e
  obtain ⟨c, hc⟩ : ∃ c, c = (L - 1) / 2 := ⟨_, rfl⟩
  obtain ⟨s1, s2, s3⟩ := root_start x L c (hL2 hLpos) hL1 hLpos hc
  have hci : ((L : Int) - 1) / 2 = (c : Int) := by omega
  have hL60 : L ≤ 32 * 60 := by have := HXN.out; omega
  have hc960 : c ≤ 960 := by omega
  have S1 : Hid (4 ^ c ≤ x) := s1
  have S2 : Hid (0 < x / 4 ^ c) := s2
  have S3 : Hid (x / 4 ^ c < 4) := s3
  clear s1 s2 s3 hL1 hL2 hL3 HL hc
  go_wp2_with fail
  refine (of_any 1 _ (by omega) (by omega)).mono ?_
  rintro e w3 ⟨o3, rfl, ho3, hb3⟩
  have hT0 : c = 0 → Lib.bitLen c = 0 := fun e => by rw [e]; decide
  have hTb : c ≠ 0 → 2 ^ (Lib.bitLen c - 1) ≤ c ∧ c < 2 ^ Lib.bitLen c ∧ 0 < Lib.bitLen c := fun e => bitLen_pow c e (by omega)
  have hT32 : Lib.bitLen c ≤ 32 := Lib.bitLen_le c 32 (by omega) (by omega)
  have HT1 : Hid (c < 2 ^ Lib.bitLen c) := by
    show _ < _
    by_cases e : c = 0
    · rw [hT0 e, e]; omega
    · exact (hTb e).2.1
  have HT2 : Hid (∀ i, i < Lib.bitLen c → 2 ^ i ≤ c) := by
    intro i hi
    have e : c ≠ 0 := fun e => by rw [hT0 e] at hi; omega
    exact Nat.le_trans (Nat.pow_le_pow_right (by omega) (by omega)) (hTb e).1
  clear hT0 hTb
  go_wp2_with fail
  refine (blen_any (c : Int) _ (by omega) (by omega)).mono ?_
  rintro e w4 ⟨rfl, hw4⟩
  subst hw4
  rw [Int.toNat_natCast]
  generalize Lib.bitLen c = T at *
  have B3 : Below w.heap.size w w4 := hb1.trans (hb3.mono hb1.size)
  have ho3' : RepM w.heap.size w4 o3 1 := by
    have h : RepM w2.heap.size w4 o3 1 := ho3
    exact h.le hb1.size
  have hR3 : Rep w4 (.slice ao la c1) x := HR1.out.below hb3
  clear hb3 ho3 hb1 HR1
  go_wp2
  go_loopw [4, 5, 6] (fun va vd vi wr => ∃ (k A : Nat), k ≤ T ∧ vi = .int .i64 ((k : Int) - 1) ∧ vd = .int .i64 ((c / 2 ^ k : Nat) : Int) ∧ RepM w.heap.size wr va A ∧ 0 < A ∧ (A - 1) * (A - 1) < x / 4 ^ (c - c / 2 ^ k) ∧ x / 4 ^ (c - c / 2 ^ k) < (A + 1) * (A + 1) ∧ Rep wr (.slice ao la c1) x ∧ Below w.heap.size w wr) (fun _ _ vi _ => (intOf vi + 1).toNat)
  case atStart =>
    have e : c / 2 ^ T = 0 := Nat.div_eq_of_lt HT1.out
    exact ⟨T, 1, Nat.le_refl _, rfl, by rw [e]; rfl, ho3', by omega, by rw [e]; exact S2.out, by rw [e]; exact S3.out, hR3, B3⟩
  case round =>
    clear ho3' hR3 B3
    obtain ⟨k, A, hk, rfl, rfl, hrA, hA0, hA1, hA2, hrx, hbel⟩ := hrel
    have HA1 : Hid ((A - 1) * (A - 1) < x / 4 ^ (c - c / 2 ^ k)) := hA1
    have HA2 : Hid (x / 4 ^ (c - c / 2 ^ k) < (A + 1) * (A + 1)) := hA2
    have HAN : Hid (nl W32 A ≤ 31) := root_nl x A _ HX60.out hA1
    clear hA1 hA2
    have hsz := hbel.size
    cases k with
    | zero =>
      have e1 : (((0 : Nat) : Int) - 1) = -1 := by omega
      have g1 : (A - 1) * (A - 1) < x := by have := HA1.out; simpa using this
      have g2 : x < (A + 1) * (A + 1) := by have := HA2.out; simpa using this
      have G1 : Hid ((A - 1) * (A - 1) < x) := g1
      have G2 : Hid (x < (A + 1) * (A + 1)) := g2
      clear g1 g2 HA1 HA2
      generalize ((c / 2 ^ 0 : Nat) : Int) = dd at *
      go_wp2_with fail
      refine (product_any _ _ A A _ hrA.rep hrA.rep (.inl (by have := HAN.out; omega)) (by have := HAN.out; omega) (by have := HAN.out; omega)).mono ?_
      rintro e w5 ⟨p5, rfl, hp5, hb5⟩
      go_wp2_with fail
      refine (cmp_rep _ _ _ _ _ hp5.rep (Nums.below hrx hb5)).mono ?_
      rintro e w6 ⟨rfl, hb6⟩
      have B6 : Below wr.heap.size wr w6 := hb5.trans (hb6.mono hb5.size)
      have hrA6 : RepM w.heap.size w6 _ A := Mine.below hrA B6
      have bel6 : Below w.heap.size w w6 := hbel.trans (B6.mono hsz)
      clear hb5 hb6 hp5 B6 hrA hrx
      by_cases hgt : x < A * A
      · have hci : (0 : Int) < cmpI ((A * A : Nat) : Int) (x : Int) := by rw [cmpI_gt (by omega)]; omega
        generalize cmpI ((A * A : Nat) : Int) (x : Int) = C at *
        have hfin : Hid ((A - 1) * (A - 1) ≤ x ∧ x < (A - 1 + 1) * (A - 1 + 1)) := by
          have := G1.out
          rw [show A - 1 + 1 = A by omega]
          exact ⟨by omega, hgt⟩
        clear hgt
        go_wp2_with fail
        refine (of_any 1 _ (by omega) (by omega)).mono ?_
        rintro e w7 ⟨o7, rfl, ho7, hb7⟩
        have hs6 := bel6.size
        have hrA7 := Mine.below hrA6 hb7
        have hn0 : 0 < nl W32 A := by
          rcases Nat.eq_zero_or_pos (nl W32 A) with e | e
          · have := (nl_eq_zero W32 A (by decide)).1 e; omega
          · exact e
        obtain ⟨ra, rc, rfl, hrc, hrl, hr4⟩ := hrA6
        obtain ⟨g, off, rfl, hcA, hsA, hgB⟩ := hr4 hn0
        have hlt6 := hcA.lt hn0
        have hcA7 := hcA.below hb7 hlt6
        have hsA7 := hsA.below hb7 hlt6
        have h1n : nl W32 1 ≤ 1 := nl_le W32 1 1 (by decide) (by decide)
        have hv1 : val W32 (dg W32 1) (nl W32 1) = 1 := by rw [val_nl W32 1 (by decide)]; rfl
        have hvA : val W32 (dg W32 A) (nl W32 A) = (A : Int) := val_nl W32 A (by decide)
        have ho7' : Mine .u64 w6.heap.size w7 o7 (nl W32 1) (dg W32 1) := ho7
        have hne7 : 0 < nl W32 1 → ∀ b o c, o7 = .slice (some ⟨b, o, none⟩) (nl W32 1) c → b ≠ g := by
          intro hp b o c h
          obtain ⟨ao', c', rfl, _, _, h4'⟩ := ho7'
          obtain ⟨b', o', rfl, _, _, hB'⟩ := h4' hp
          cases h
          omega
        have hUA := u32_dg A (nl W32 A)
        have hU1 := u32_dg 1 (nl W32 1)
        go_wp2_with fail
        refine (takeFrom_any g off (nl W32 A) rc o7 (nl W32 1) (dg W32 A) (dg W32 1) _ hrl (by omega) hcA7 hsA7 hUA ho7'.nums hU1 hne7 (by rw [hv1, hvA]; omega)).mono ?_
        rintro e w8 ⟨rfl, h8, hc8, hu8, hv8, hup8⟩
        rw [hv1, hvA] at hv8
        have hM8 : Mine .u64 w.heap.size w8 (.slice (some ⟨g, off, none⟩) (nl W32 A) rc) (nl W32 A) h8 := ⟨_, _, rfl, hrc, hrl, fun _ => ⟨_, _, rfl, hc8, hsA7.upd (hcA7.lt hn0) hup8, hgB⟩⟩
        have bel8 : Below w.heap.size w w8 := bel6.trans ((hb7.mono hs6).trans (hup8.below hgB (by have := hb7.size; omega)))
        have hv8' : val W32 h8 (nl W32 A) = ((A - 1 : Nat) : Int) := by rw [hv8]; omega
        have HV8 : Hid (val W32 h8 (nl W32 A) = ((A - 1 : Nat) : Int)) := hv8'
        clear hv8 hv8' hv1 hvA hcA7 hsA7 hup8 hcA hsA hr4
        generalize nl W32 A = lA at *
        go_wp2_with (go_at_call 51; refine (cut_mine _ _ _ _ _ (A - 1) hM8 hu8 HV8.out).mono ?_; rintro e w9 ⟨r9, rfl, hr9, rfl⟩)
        go_ret
        exact ⟨_, A - 1, rfl, hr9, by rw [HXX.out]; exact hfin.out.1, by rw [HXX.out]; exact hfin.out.2, bel8⟩
      · have hci : ¬ (0 : Int) < cmpI ((A * A : Nat) : Int) (x : Int) := by unfold cmpI; split <;> (try split) <;> omega
        generalize cmpI ((A * A : Nat) : Int) (x : Int) = C at *
        have hfin : Hid (A * A ≤ x) := by show _ ≤ _; omega
        clear hgt
        have hvA : Hid (val W32 (dg W32 A) (nl W32 A) = (A : Int)) := val_nl W32 A (by decide)
        go_wp2_with (go_at_call 51; refine (cut_mine _ _ _ _ _ A hrA6 (u32_dg _ _) hvA.out).mono ?_; rintro e w9 ⟨r9, rfl, hr9, rfl⟩)
        go_ret
        exact ⟨_, A, rfl, hr9, by rw [HXX.out]; exact hfin.out, by rw [HXX.out]; exact G2.out, bel6⟩
    | succ i =>
      obtain ⟨n1, n2, n3⟩ := next_bit c i (HT2.out i (by omega))
      have e1 : (((i + 1 : Nat) : Int) - 1) = (i : Int) := by omega
      rw [e1]
      have hN := newton_step x c (c / 2 ^ i) (c / 2 ^ (i + 1)) A S1.out n1 n2 n3 hA0 HA1.out HA2.out
      have hdi : ((c : Int) / 2 ^ i) = ((c / 2 ^ i : Nat) : Int) := by rw [Int.natCast_ediv]; simp
      generalize hd : c / 2 ^ i = d at *
      have HD : Hid (c / 2 ^ i = d) := hd
      clear hd
      generalize c / 2 ^ (i + 1) = e at *
      obtain ⟨S, hS⟩ : ∃ S, S = 2 * c - e - d + 1 := ⟨_, rfl⟩
      obtain ⟨K, hK⟩ : ∃ K, K = d - e - 1 := ⟨_, rfl⟩
      rw [← hS, ← hK] at hN
      have HN1 : Hid (0 < A * 2 ^ K + x / 2 ^ S / A) := hN.1
      have HN2 : Hid ((A * 2 ^ K + x / 2 ^ S / A - 1) * (A * 2 ^ K + x / 2 ^ S / A - 1) < x / 4 ^ (c - d)) := hN.2.1
      have HN3 : Hid (x / 4 ^ (c - d) < (A * 2 ^ K + x / 2 ^ S / A + 1) * (A * 2 ^ K + x / 2 ^ S / A + 1)) := hN.2.2
      have hs1 : (2 * (c : Int) - (e : Int) - (d : Int) + 1) = (S : Int) := by omega
      have hs2 : ((d : Int) - (e : Int) - 1) = (K : Int) := by omega
      have hSb : S ≤ 2000 := by omega
      have hKb : K ≤ 960 := by omega
      have hla60 : nl W32 x ≤ 1000000 := by rw [hla]; exact Nat.le_trans HXN.out (by omega)
      have HQL : Hid (nl W32 (x / 2 ^ S) ≤ 60) := nl_le W32 _ 60 (by decide) (Nat.lt_of_le_of_lt (Nat.div_le_self _ _) HX60.out)
      have HQ2 : Hid (nl W32 (x / 2 ^ S / A) ≤ 60) := nl_le W32 _ 60 (by decide) (Nat.lt_of_le_of_lt (Nat.div_le_self _ _) (Nat.lt_of_le_of_lt (Nat.div_le_self _ _) HX60.out))
      have HU : Hid (nl W32 (A * 2 ^ K) ≤ 61) := by
        refine nl_le W32 _ 61 (by decide) ?_
        have h1 : A < W32 ^ 31 := Nat.lt_of_lt_of_le (lt_pow_nl W32 A (by decide)) (Nat.pow_le_pow_right (by decide) HAN.out)
        have h2 : 2 ^ K ≤ W32 ^ 30 := by
          obtain ⟨t, ht⟩ : ∃ t, t = 30 := ⟨_, rfl⟩
          rw [← ht, show W32 = 2 ^ 32 from rfl, ← Nat.pow_mul]
          exact Nat.pow_le_pow_right (by omega) (by omega)
        have h3 : W32 ^ 61 = W32 ^ 31 * W32 ^ 30 := by rw [← Nat.pow_add]
        rw [h3]
        exact Nat.mul_lt_mul_of_lt_of_le h1 h2 (Nat.pow_pos (by decide))
      clear hN hS hK HA1 HA2
      go_wp2_with fail
      refine (shiftDown_any _ x S _ hrx hla60 (by omega)).mono ?_
      rintro e5 w5 ⟨r5, rfl, hr5, hb5⟩
      have hs5 := hb5.size
      go_wp2_with fail
      refine (divide_any (x / 2 ^ S) A hA0 (Nat.le_trans HQL.out (by omega)) _ _ _ hr5.rep (hrA.rep.below hb5)).mono ?_
      rintro e6 w6 ⟨q6, t6, rfl, hq6, ht6, hb6⟩
      have hs6 := hb6.size
      go_wp2_with fail
      refine (shiftUp_any _ A K _ ((hrA.rep.below hb5).below hb6) (Nat.le_trans HAN.out (by omega)) (by omega)).mono ?_
      rintro e7 w7 ⟨u7, rfl, hu7, hb7⟩
      have hs7 := hb7.size
      go_wp2_with fail
      refine (sum_any _ _ _ _ _ hu7.rep (hq6.rep.below hb7) (Nat.le_trans HU.out (by omega)) (Nat.le_trans HQ2.out (by omega))).mono ?_
      rintro e8 w8 ⟨r8, rfl, hr8, hb8⟩
      have B8 : Below wr.heap.size wr w8 := hb5.trans ((hb6.mono hs5).trans ((hb7.mono (by omega)).trans (hb8.mono (by omega))))
      have hrx8 : Rep w8 (.slice ao la c1) x := Nums.below hrx B8
      have hr8' : RepM w.heap.size w8 r8 (A * 2 ^ K + x / 2 ^ S / A) := hr8.le (by omega)
      have bel8 : Below w.heap.size w w8 := hbel.trans (B8.mono hsz)
      clear hr5 hq6 ht6 hu7 hr8 hb5 hb6 hb7 hb8 hrA hrx B8
      go_wp2
      go_roundw
      case rel => exact ⟨i, A * 2 ^ K + x / 2 ^ S / A, by omega, by go_num, by rw [HD.out], hr8', HN1.out, by rw [HD.out]; exact HN2.out, by rw [HD.out]; exact HN3.out, hrx8, bel8⟩
      case measure => simp [intOf]

set_option maxHeartbeats 400000 in
theorem sqrt_zero (u : Value) (n : Nat) (f : Nat → Int) (w : World) (hu : Nums .u64 w u n f) (hf : U64 n f) (h0 : num f n = 0) :
    Calls Try.prog 31 #[u] w fun e w' => ∃ r, e = .returned r ∧ RepM w.heap.size w' r 0 ∧ Below w.heap.size w w' := by
  go_enter Try.func31, Try.ntmps31
  go_wp2_with fail
  refine (plain_any _ _ _ _ hu hf).mono ?_
  rintro e w1 ⟨r1, rfl, hr1, hb1⟩
  rw [h0] at hr1
  obtain ⟨ao, c1, rfl, hl1⟩ := rep_val hr1
  rw [nl_zero]
  go_wp2
  go_ret
  exact ⟨_, rfl, by unfold RepM; rw [nl_zero]; exact Mine.nil _ _ _ _, hb1⟩

theorem sqrt_any (u : Value) (n : Nat) (f : Nat → Int) (w : World) (hu : Nums .u64 w u n f) (hf : U64 n f) (hn : n ≤ 60) :
    Calls Try.prog 31 #[u] w fun e w' => ∃ r R, e = .returned r ∧ RepM w.heap.size w' r R ∧ R * R ≤ num f n ∧ num f n < (R + 1) * (R + 1) ∧ Below w.heap.size w w' := by
  by_cases h0 : num f n = 0
  · exact (sqrt_zero u n f w hu hf h0).mono fun _ _ ⟨r, h1, h2, h3⟩ => ⟨r, 0, h1, h2, by omega, by omega, h3⟩
  · exact sqrt_pos u n f w hu hf hn h0

end Go.Proofs.Ytagphmhgceajhab
