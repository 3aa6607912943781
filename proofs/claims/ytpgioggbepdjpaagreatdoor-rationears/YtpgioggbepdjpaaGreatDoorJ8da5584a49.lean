/-
  Texts of mine, joined: what lies beneath the statement.
-/
import Derived.Test.YtpgioggbepdjpaaGreatDoorJ67d383c2a1
import Derived.Deep.CutRange
import Derived.Test.YtpgioggbepdjpaaGreatDoorJ88f5a7ff8b
namespace Go.Proofs.YtpgioggbepdjpaaGreatDoor
open Go.RowKit
set_option linter.unusedVariables false
set_option linter.unusedSimpArgs false
def ceilQ (x : Rat) : Int := -((-x).floor)
def hit (a b : Rat) (d : Nat) : Prop := ceilQ (a * mkRat d 1) ≤ (b * mkRat d 1).floor
theorem qsz_sixty (k : Nat) (hk : k ≤ 61) : qsz (mkRat (k : Int) 1) ≤ 1 := nl_num_mkRat _ _ 1 (by rw [Int.natAbs_natCast]; exact nl_small7 _ (by omega)) nlw_one (by omega)
theorem nlfloor (b : Rat) (k L : Nat) (h : qsz b ≤ L) (hk : k ≤ 61) : nl W32 ((b * mkRat k 1).floor).natAbs ≤ L + 1 + 1 := qsz_floor _ (qsz_mul _ _ h (qsz_sixty k hk))
end Go.Proofs.YtpgioggbepdjpaaGreatDoor

namespace Go.Proofs.YtpgioggbepdjpaaGreatDoor
set_option linter.unusedVariables false
set_option linter.unusedSimpArgs false
theorem mkRat_one (k : Nat) : mkRat (k : Int) 1 = (k : Rat) := by rw [Rat.mkRat_eq_div,Rat.intCast_natCast]; grind
theorem mk_le (b : Rat) (n : Int) (k : Nat) (hk : 0 < k) : mkRat n k ≤ b ↔ (n : Rat) ≤ b * mkRat k 1 := by
 rw [mkRat_one,Rat.mkRat_eq_div]
 have hK : (0 : Rat) < (k : Rat) := Rat.natCast_pos.2 hk
 generalize (k : Rat) = K at *
 generalize (n : Rat) = m at *
 constructor
 ·intro h
  have h2 := Rat.mul_le_mul_of_nonneg_right h (Rat.le_of_lt hK)
  have e : m / K * K = m := by grind
  rw [e] at h2; exact h2
 ·intro h
  have hi : (0 : Rat) ≤ K⁻¹ := Rat.le_of_lt (Rat.inv_pos.2 hK)
  have h2 := Rat.mul_le_mul_of_nonneg_right h hi
  have e : b * K * K⁻¹ = b := by grind
  rw [e,← Rat.div_def] at h2; exact h2
def SimpRel (a b r : Rat) : Prop := (0 < a ∧ MinIn a b r) ∨ (b < 0 ∧ MinIn (-b) (-a) (-r)) ∨ (a ≤ 0 ∧ 0 ≤ b ∧ r = 0)
theorem SimpRel.le {a b r : Rat} (h : SimpRel a b r) : a ≤ r ∧ r ≤ b := by
 rcases h with ⟨_,h⟩ | ⟨_,h⟩ | ⟨h1,h2,rfl⟩
 ·exact ⟨h.1,h.2.1⟩
 ·have h1 := h.1
  have h2 := h.2.1
  exact ⟨by grind,by grind⟩
 ·exact ⟨h1,h2⟩
theorem num_pos' {r : Rat} (h : 0 < r) : 0 < r.num := by have := (Rat.lt_iff 0 r).1 h; simpa using this
theorem mk_mul (n : Int) (k : Nat) : (n : Rat) * mkRat 1 k = mkRat n k := by
 rw [Rat.mkRat_eq_div,Rat.mkRat_eq_div,Rat.intCast_one]; grind
theorem minIn_sz {a b r : Rat} (ha : 0 < a) (h : MinIn a b r) {L : Nat} (hs : qsz a ≤ L) : qsz r ≤ L := by
 have hn := num_pos' ha
 have hr := num_pos' h.2.2.1
 obtain ⟨p,hp⟩ : ∃ p : Nat,a.num = (p : Int) := ⟨a.num.toNat,by omega⟩
 have e : mkRat (p : Int) a.den = a := by rw [← hp]; exact Rat.mkRat_self a
 obtain ⟨h1,h2⟩ := h.2.2.2 p a.den a.den_pos (by rw [e]; exact Rat.le_refl) (by rw [e]; exact Rat.le_trans h.1 h.2.1)
 have h3 := Nat.le_trans (qsz_num a) hs
 have h4 := Nat.le_trans (qsz_den a) hs
 exact Nat.max_le.2 ⟨Nat.le_trans (nl_mono W32 _ _ (by decide) (by omega)) h3,Nat.le_trans (nl_mono W32 _ _ (by decide) h1) h4⟩
theorem SimpRel.sz {a b r : Rat} (h : SimpRel a b r) {L : Nat} (hL : 1 ≤ L) (h1 : qsz a ≤ L) (h2 : qsz b ≤ L) : qsz r ≤ L := by
 rcases h with ⟨ha,h⟩ | ⟨hb,h⟩ | ⟨_,_,rfl⟩
 ·exact minIn_sz ha h h1
 ·have := minIn_sz (by grind) h (L := L) (by rw [qsz_neg]; exact h2)
  rw [qsz_neg] at this; exact this
 ·exact Nat.le_trans (qsz_int 0 (L := 1) (by decide) (by omega)) hL

def Sides (a : Rat) (most A C D E : Nat) : Prop := mkRat (A : Int) C ≤ a ∧ a < mkRat (D : Int) E ∧ 0 < C ∧ 0 < E ∧ C ≤ most ∧ E ≤ most ∧ D * C = A * E + 1 ∧ most < C + E
theorem frac_mk (n d : Nat) : ((n : Nat) : Rat) / ((d : Nat) : Rat) = mkRat (n : Int) d := by rw [Rat.mkRat_eq_div,Rat.intCast_natCast]
theorem about_sides (a : Rat) (most : Nat) (hm : 1 ≤ most) : ∀ (k ln ld hn hd : Nat),most + 2 ≤ k + ld + hd → 0 < ld → 0 < hd → ld ≤ most → hd ≤ most → hn * ld = ln * hd + 1 → mkRat (ln : Int) ld ≤ a → a < mkRat (hn : Int) hd → ∀ A C D E,aboutN a most k ln ld hn hd = (A,C,D,E) → Sides a most A C D E
 | 0,ln,ld,hn,hd,h,h1,h2,h3,h4,h5,h6,h7,A,C,D,E,e => by
  simp only [aboutN,Prod.mk.injEq] at e
  obtain ⟨rfl,rfl,rfl,rfl⟩ := e
  exact ⟨h6,h7,h1,h2,h3,h4,h5,by omega⟩
 | k + 1,ln,ld,hn,hd,h,h1,h2,h3,h4,h5,h6,h7,A,C,D,E,e => by
  rw [about_step] at e
  by_cases g : ld + hd ≤ most
  ·rw [if_pos g,frac_mk] at e
   by_cases q : mkRat ((ln + hn : Nat) : Int) (ld + hd) ≤ a
   ·rw [if_pos q] at e
    exact about_sides a most hm k (ln + hn) (ld + hd) hn hd (by omega) (by omega) h2 g h4 (by grind) q h7 A C D E e
   ·rw [if_neg q] at e
    exact about_sides a most hm k ln ld (ln + hn) (ld + hd) (by omega) h1 (by omega) h3 g (by grind) h6 (Rat.not_le.1 q) A C D E e
  ·rw [if_neg g] at e
   simp only [Prod.mk.injEq] at e
   obtain ⟨rfl,rfl,rfl,rfl⟩ := e
   exact ⟨h6,h7,h1,h2,h3,h4,h5,by omega⟩
theorem mkRat_leI (n m : Int) (d e : Nat) (hd : 0 < d) (he : 0 < e) : mkRat n d ≤ mkRat m e ↔ n * e ≤ m * d := by
 rw [← Rat.not_lt,mkRat_lt _ _ _ _ he hd,Int.not_lt]
theorem sides_not {a : Rat} {most A C D E : Nat} (h : Sides a most A C D E) (p : Int) (r : Nat) (hr : 0 < r) (hm : r ≤ most) (h1 : mkRat (A : Int) C < mkRat p r) (h2 : mkRat p r < mkRat (D : Int) E) : False := by
 obtain ⟨_,_,hC,hE,_,_,hd,hs⟩ := h
 rw [mkRat_lt _ _ _ _ hC hr] at h1
 rw [mkRat_lt _ _ _ _ hr hE] at h2
 have e : (r : Int) = (C : Int) * ((D : Int) * (r : Int) - p * (E : Int)) + (E : Int) * (p * (C : Int) - (A : Int) * (r : Int)) := by
  have hd2 : (D : Int) * (C : Int) = (A : Int) * (E : Int) + 1 := by rw [← Int.natCast_mul,hd]; simp
  grind
 have k1 : (C : Int) * 1 ≤ (C : Int) * ((D : Int) * (r : Int) - p * (E : Int)) := Int.mul_le_mul_of_nonneg_left (by omega) (by omega)
 have k2 : (E : Int) * 1 ≤ (E : Int) * (p * (C : Int) - (A : Int) * (r : Int)) := Int.mul_le_mul_of_nonneg_left (by omega) (by omega)
 omega
theorem sides_cop {a : Rat} {most A C D E : Nat} (h : Sides a most A C D E) : Nat.gcd A C = 1 ∧ Nat.gcd D E = 1 := by
 obtain ⟨_,_,hC,hE,_,_,hd,_⟩ := h
 constructor
 ·have h1 : Nat.gcd A C ∣ D * C := Nat.dvd_trans (Nat.gcd_dvd_right A C) (Nat.dvd_mul_left C D)
  have h2 : Nat.gcd A C ∣ A * E := Nat.dvd_trans (Nat.gcd_dvd_left A C) (Nat.dvd_mul_right A E)
  rw [hd] at h1
  exact Nat.dvd_one.1 ((Nat.dvd_add_right h2).1 h1)
 ·have h1 : Nat.gcd D E ∣ D * C := Nat.dvd_trans (Nat.gcd_dvd_left D E) (Nat.dvd_mul_right D C)
  have h2 : Nat.gcd D E ∣ A * E := Nat.dvd_trans (Nat.gcd_dvd_right D E) (Nat.dvd_mul_left E A)
  rw [hd] at h1
  exact Nat.dvd_one.1 ((Nat.dvd_add_right h2).1 h1)
theorem den_le (A C : Nat) (p : Int) (r : Nat) (hC : 0 < C) (hr : 0 < r) (h : Nat.gcd A C = 1) (e : mkRat p r = mkRat (A : Int) C) : C ≤ r := by
 have h1 := (mkRat_cop A C hC h).2
 have h2 := (mkRat_low p r hr).2
 rw [e,h1] at h2
 rw [h2]; exact Nat.div_le_self _ _
def cand (x : Rat) (d i : Nat) : Rat := (((x * mkRat d 1).floor + (i : Int) : Int) : Rat) * mkRat 1 d
def nearer (x b y : Rat) : Rat := if absQ (y + -x) < absQ (b + -x) then y else b
def bestN (x : Rat) : Nat → Rat
 | 0 => ((x.floor : Int) : Rat)
 | d + 1 => nearer x (nearer x (bestN x d) (cand x (d + 1) 0)) (cand x (d + 1) 1)
theorem cand_mk (x : Rat) (d i : Nat) : cand x d i = mkRat ((x * mkRat d 1).floor + (i : Int)) d := mk_mul _ _
theorem cand_low (x : Rat) (d : Nat) (hd : 0 < d) : cand x d 0 ≤ x := by
 rw [cand_mk,mk_le _ _ _ hd]
 have := Rat.floor_le (x * mkRat d 1)
 rw [show (x * mkRat d 1).floor + ((0 : Nat) : Int) = (x * mkRat d 1).floor by simp]; exact this
theorem cand_high (x : Rat) (d : Nat) (hd : 0 < d) : x < cand x d 1 := by
 rw [← Rat.not_le,cand_mk,mk_le _ _ _ hd]
 intro h
 have := Rat.le_floor_iff.2 h
 omega
theorem abs_low {x y : Rat} (h : y ≤ x) : absQ (y + -x) = x - y := by
 unfold absQ
 by_cases g : y + -x < 0
 ·rw [if_pos g]; grind
 ·rw [if_neg g]; grind
theorem abs_high {x y : Rat} (h : x < y) : absQ (y + -x) = y - x := by
 unfold absQ
 rw [if_neg (by grind)]; grind
theorem best_stay (x v : Rat) (m : Nat) (d0 : Nat) (h0 : bestN x d0 = v) (h : ∀ d,0 < d → d ≤ m → ∀ i,i < 2 → ¬ absQ (cand x d i + -x) < absQ (v + -x)) : ∀ d,d0 ≤ d → d ≤ m → bestN x d = v := by
 intro d h1
 induction h1 with
 | refl => exact fun _ => h0
 | step h1 ih =>
  rename_i d'
  intro h2
  show nearer x (nearer x (bestN x d') (cand x (d' + 1) 0)) (cand x (d' + 1) 1) = v
  rw [ih (by omega)]
  unfold nearer
  rw [if_neg (h (d' + 1) (by omega) h2 0 (by omega)),if_neg (h (d' + 1) (by omega) h2 1 (by omega))]
theorem nearer_or (x b y : Rat) : nearer x b y = y ∨ nearer x b y = b := by
 unfold nearer; split
 ·exact Or.inl rfl
 ·exact Or.inr rfl
theorem best_far (x : Rat) (M : Rat) (d0 : Nat) (hf : M < absQ ((x.floor : Int) + -x)) (h : ∀ d,0 < d → d < d0 → ∀ i,i < 2 → M < absQ (cand x d i + -x)) : ∀ d,d < d0 → M < absQ (bestN x d + -x)
 | 0,_ => hf
 | d + 1,hd => by
  have ih := best_far x M d0 hf h d (by omega)
  have c0 := h (d + 1) (by omega) hd 0 (by omega)
  have c1 := h (d + 1) (by omega) hd 1 (by omega)
  show M < absQ (nearer x (nearer x (bestN x d) (cand x (d + 1) 0)) (cand x (d + 1) 1) + -x)
  rcases nearer_or x (nearer x (bestN x d) (cand x (d + 1) 0)) (cand x (d + 1) 1) with e | e
  ·rw [e]; exact c1
  ·rw [e]
   rcases nearer_or x (bestN x d) (cand x (d + 1) 0) with e | e
   ·rw [e]; exact c0
   ·rw [e]; exact ih
theorem shift_mk (m f : Int) (d : Nat) (hd : 0 < d) : mkRat (m - f * (d : Int)) d = mkRat m d - (f : Rat) := by
 have hK : (0 : Rat) < (d : Rat) := Rat.natCast_pos.2 hd
 rw [Rat.mkRat_eq_div,Rat.mkRat_eq_div,Rat.intCast_sub,Rat.intCast_mul,Rat.intCast_natCast]
 generalize (d : Rat) = K at *
 grind
theorem cand0_le {x : Rat} {most A C D E : Nat} (h : Sides (x - (x.floor : Rat)) most A C D E) (d : Nat) (hd : 0 < d) (hm : d ≤ most) : cand x d 0 ≤ (x.floor : Rat) + mkRat (A : Int) C ∧ (cand x d 0 = (x.floor : Rat) + mkRat (A : Int) C → C ≤ d) := by
 have h1 := cand_low x d hd
 have hs := shift_mk ((x * mkRat d 1).floor + ((0 : Nat) : Int)) x.floor d hd
 rw [← cand_mk] at hs
 refine ⟨Rat.not_lt.1 fun g => ?_,fun e => ?_⟩
 ·exact sides_not h ((x * mkRat d 1).floor + ((0 : Nat) : Int) - x.floor * (d : Int)) d hd hm (by rw [hs]; grind) (by rw [hs]; have := h.2.1; grind)
 ·exact den_le A C _ d h.2.2.1 hd (sides_cop h).1 (show mkRat ((x * mkRat d 1).floor + ((0 : Nat) : Int) - x.floor * (d : Int)) d = _ by rw [hs,e]; grind)
theorem cand1_ge {x : Rat} {most A C D E : Nat} (h : Sides (x - (x.floor : Rat)) most A C D E) (d : Nat) (hd : 0 < d) (hm : d ≤ most) : (x.floor : Rat) + mkRat (D : Int) E ≤ cand x d 1 ∧ (cand x d 1 = (x.floor : Rat) + mkRat (D : Int) E → E ≤ d) := by
 have h1 := cand_high x d hd
 have hs := shift_mk ((x * mkRat d 1).floor + ((1 : Nat) : Int)) x.floor d hd
 rw [← cand_mk] at hs
 refine ⟨Rat.not_lt.1 fun g => ?_,fun e => ?_⟩
 ·exact sides_not h ((x * mkRat d 1).floor + ((1 : Nat) : Int) - x.floor * (d : Int)) d hd hm (by rw [hs]; have := h.1; grind) (by rw [hs]; grind)
 ·exact den_le D E _ d h.2.2.2.1 hd (sides_cop h).2 (show mkRat ((x * mkRat d 1).floor + ((1 : Nat) : Int) - x.floor * (d : Int)) d = _ by rw [hs,e]; grind)
theorem low_tried {x : Rat} {most A C D E : Nat} (h : Sides (x - (x.floor : Rat)) most A C D E) : cand x C 0 = (x.floor : Rat) + mkRat (A : Int) C := by
 refine Rat.le_antisymm (cand0_le h C h.2.2.1 h.2.2.2.2.1).1 ?_
 have hs := shift_mk ((A : Int) + x.floor * (C : Int)) x.floor C h.2.2.1
 rw [show (A : Int) + x.floor * (C : Int) - x.floor * (C : Int) = (A : Int) by omega] at hs
 have e : (x.floor : Rat) + mkRat (A : Int) C = mkRat ((A : Int) + x.floor * (C : Int)) C := by grind
 rw [e,cand_mk,mkRat_leI _ _ _ _ h.2.2.1 h.2.2.1]
 have hx : mkRat ((A : Int) + x.floor * (C : Int)) C ≤ x := by rw [← e]; have := h.1; grind
 have hf := Rat.le_floor_iff.2 ((mk_le _ _ _ h.2.2.1).1 hx)
 exact Int.mul_le_mul_of_nonneg_right (by omega) (by omega)
theorem high_tried {x : Rat} {most A C D E : Nat} (h : Sides (x - (x.floor : Rat)) most A C D E) : cand x E 1 = (x.floor : Rat) + mkRat (D : Int) E := by
 refine Rat.le_antisymm ?_ (cand1_ge h E h.2.2.2.1 h.2.2.2.2.2.1).1
 have hs := shift_mk ((D : Int) + x.floor * (E : Int)) x.floor E h.2.2.2.1
 rw [show (D : Int) + x.floor * (E : Int) - x.floor * (E : Int) = (D : Int) by omega] at hs
 have e : (x.floor : Rat) + mkRat (D : Int) E = mkRat ((D : Int) + x.floor * (E : Int)) E := by grind
 rw [e,cand_mk,mkRat_leI _ _ _ _ h.2.2.2.1 h.2.2.2.1]
 have hx : ¬ mkRat ((D : Int) + x.floor * (E : Int)) E ≤ x := by rw [← e]; have := h.2.1; grind
 have hf : ¬ (D : Int) + x.floor * (E : Int) ≤ (x * mkRat E 1).floor := fun g => hx ((mk_le _ _ _ h.2.2.2.1).2 (Rat.le_floor_iff.1 g))
 exact Int.mul_le_mul_of_nonneg_right (by omega) (by omega)
theorem cand_one (x : Rat) : cand x 1 0 = (x.floor : Rat) := by
 rw [cand_mk,show mkRat ((1 : Nat) : Int) 1 = (1 : Rat) by decide +kernel,Rat.mul_one]
 simp [Rat.mkRat_eq_div]
 grind
theorem lin1 {x lo hi c : Rat} (h : c < lo) (k : hi - x ≤ x - lo) : hi - x < x - c := by grind
theorem lin2 {x lo hi c : Rat} (h : c ≤ lo) (k : hi - x < x - lo) : hi - x < x - c := by grind
theorem lin3 {x hi c : Rat} (h : hi < c) : hi - x < c - x := by grind
theorem lin4 {x lo c : Rat} (h : c < lo) : x - lo < x - c := by grind
theorem lin5 {x lo hi c : Rat} (h : hi < c) (k : x - lo ≤ hi - x) : x - lo < c - x := by grind
theorem lin6 {x lo hi c : Rat} (h : hi ≤ c) (k : x - lo < hi - x) : x - lo < c - x := by grind
theorem lin7 {x lo hi c : Rat} (h : c ≤ lo) (k : hi - x ≤ x - lo) : ¬ x - c < hi - x := by grind
theorem lin8 {x hi c : Rat} (h : hi ≤ c) : ¬ c - x < hi - x := by grind
theorem lin9 {x lo c : Rat} (h : c ≤ lo) : ¬ x - c < x - lo := by grind
theorem lin10 {x lo hi c : Rat} (h : hi ≤ c) (k : x - lo ≤ hi - x) : ¬ c - x < x - lo := by grind
theorem lin11 {x f a : Rat} : x - f - a = x - (f + a) := by grind
theorem lin12 {x f a : Rat} : a - (x - f) = f + a - x := by grind
theorem lin13 {x f a : Rat} (h : a ≤ x - f) : f + a ≤ x := by grind
theorem lin14 {x f a : Rat} (h : x - f < a) : x < f + a := by grind
theorem near_best {x : Rat} {most A C D E : Nat} (hm1 : 1 ≤ most) (h : Sides (x - (x.floor : Rat)) most A C D E) :
  bestN x most = if mkRat (D : Int) E - (x - (x.floor : Rat)) < x - (x.floor : Rat) - mkRat (A : Int) C ∨ (x - (x.floor : Rat) - mkRat (A : Int) C = mkRat (D : Int) E - (x - (x.floor : Rat)) ∧ E < C) then (x.floor : Rat) + mkRat (D : Int) E else (x.floor : Rat) + mkRat (A : Int) C := by
 have l1 := lin13 h.1
 have l2 := lin14 h.2.1
 have hCm := h.2.2.2.2.1
 have hEm := h.2.2.2.2.2.1
 have hC := h.2.2.1
 have hE := h.2.2.2.1
 have c0 := fun d hd hm => cand0_le h d hd hm
 have c1 := fun d hd hm => cand1_ge h d hd hm
 have lt := low_tried h
 have htr := high_tried h
 have f0 := c0 1 (by omega) hm1
 rw [cand_one] at f0
 have hfl := Rat.floor_le x
 rw [lin11,lin12]
 clear h
 generalize (x.floor : Rat) + mkRat (A : Int) C = lo at *
 generalize (x.floor : Rat) + mkRat (D : Int) E = hi at *
 have a0 : ∀ d,0 < d → absQ (cand x d 0 + -x) = x - cand x d 0 := fun d hd => abs_low (cand_low x d hd)
 have a1 : ∀ d,0 < d → absQ (cand x d 1 + -x) = cand x d 1 - x := fun d hd => abs_high (cand_high x d hd)
 have two : ∀ i,i < 2 → i = 0 ∨ i = 1 := fun i hi => by omega
 by_cases hc : hi - x < x - lo ∨ (x - lo = hi - x ∧ E < C)
 ·rw [if_pos hc]
  have hle : hi - x ≤ x - lo := by
   rcases hc with g | g
   ·exact Rat.le_of_lt g
   ·rw [g.1]; exact Rat.le_refl
  have low : ∀ c : Rat,c ≤ lo → (c = lo → C ≤ E) → hi - x < x - c := fun c k1 k2 => by
   rcases hc with g | g
   ·exact lin2 k1 g
   ·exact lin1 (Rat.lt_of_le_of_ne k1 fun e => by have := k2 e; omega) hle
  have far : ∀ d,0 < d → d < E → ∀ i,i < 2 → hi - x < absQ (cand x d i + -x) := fun d hd hdE i hi2 => by
   rcases two i hi2 with rfl | rfl
   ·rw [a0 d hd]
    have k1 := c0 d hd (by omega)
    exact low _ k1.1 fun e => by have := k1.2 e; omega
   ·rw [a1 d hd]
    have k1 := c1 d hd (by omega)
    exact lin3 (Rat.lt_of_le_of_ne k1.1 fun e => by have := k1.2 e.symm; omega)
  have hfar : hi - x < absQ ((x.floor : Rat) + -x) := by
   rw [abs_low hfl]
   exact low _ f0.1 fun e => by have := f0.2 e; omega
  have hb : bestN x E = hi := by
   obtain ⟨e,rfl⟩ : ∃ e,E = e + 1 := ⟨E - 1,by omega⟩
   have bf := best_far x (hi - x) (e + 1) hfar far e (by omega)
   have k0 := c0 (e + 1) hE hEm
   have d1 := a1 (e + 1) hE
   rw [htr] at d1
   have f00 : hi - x < absQ (cand x (e + 1) 0 + -x) := by
    rw [a0 (e + 1) hE]
    exact low _ k0.1 k0.2
   show nearer x (nearer x (bestN x e) (cand x (e + 1) 0)) (cand x (e + 1) 1) = hi
   rw [htr]
   have far2 : hi - x < absQ (nearer x (bestN x e) (cand x (e + 1) 0) + -x) := by
    rcases nearer_or x (bestN x e) (cand x (e + 1) 0) with g | g
    ·rw [g]; exact f00
    ·rw [g]; exact bf
   generalize nearer x (bestN x e) (cand x (e + 1) 0) = bb at *
   unfold nearer
   rw [if_pos (by rw [d1]; exact far2)]
  exact best_stay x hi most E hb (fun d hd hdm i hi2 => by
   rw [abs_high l2]
   rcases two i hi2 with rfl | rfl
   ·rw [a0 d hd]; exact lin7 (c0 d hd hdm).1 hle
   ·rw [a1 d hd]; exact lin8 (c1 d hd hdm).1) most hEm (Nat.le_refl _)
 ·rw [if_neg hc]
  have hle : x - lo ≤ hi - x := Rat.not_lt.1 fun g => hc (Or.inl g)
  have htie : x - lo = hi - x → C ≤ E := fun g => by
   rcases Nat.lt_or_ge E C with k | k
   ·exact absurd (Or.inr ⟨g,k⟩) hc
   ·exact k
  have stay : ∀ d,0 < d → d ≤ most → ∀ i,i < 2 → ¬ absQ (cand x d i + -x) < absQ (lo + -x) := fun d hd hdm i hi2 => by
   rw [abs_low l1]
   rcases two i hi2 with rfl | rfl
   ·rw [a0 d hd]; exact lin9 (c0 d hd hdm).1
   ·rw [a1 d hd]; exact lin10 (c1 d hd hdm).1 hle
  by_cases hC1 : C = 1
  ·have e0 : bestN x 0 = lo := by
    show (x.floor : Rat) = lo
    rw [← lt,hC1,cand_one]
   exact best_stay x lo most 0 e0 stay most (by omega) (Nat.le_refl _)
  ·have far : ∀ d,0 < d → d < C → ∀ i,i < 2 → x - lo < absQ (cand x d i + -x) := fun d hd hdE i hi2 => by
    rcases two i hi2 with rfl | rfl
    ·rw [a0 d hd]
     have k1 := c0 d hd (by omega)
     exact lin4 (Rat.lt_of_le_of_ne k1.1 fun e => by have := k1.2 e; omega)
    ·rw [a1 d hd]
     have k1 := c1 d hd (by omega)
     by_cases g : x - lo = hi - x
     ·have := htie g
      exact lin5 (Rat.lt_of_le_of_ne k1.1 fun e => by have := k1.2 e.symm; omega) hle
     ·exact lin6 k1.1 (Rat.lt_of_le_of_ne hle g)
   have hfar : x - lo < absQ ((x.floor : Rat) + -x) := by
    rw [abs_low hfl]
    exact lin4 (Rat.lt_of_le_of_ne f0.1 fun e => by have := f0.2 e; omega)
   have hb : bestN x C = lo := by
    obtain ⟨e,rfl⟩ : ∃ e,C = e + 1 := ⟨C - 1,by omega⟩
    have bf := best_far x (x - lo) (e + 1) hfar far e (by omega)
    have s1 := stay (e + 1) hC hCm 1 (by omega)
    show nearer x (nearer x (bestN x e) (cand x (e + 1) 0)) (cand x (e + 1) 1) = lo
    rw [lt]
    have e1 : nearer x (bestN x e) lo = lo := by
     unfold nearer
     rw [if_pos (by rw [abs_low l1]; exact bf)]
    rw [e1]
    unfold nearer
    rw [if_neg s1]
   exact best_stay x lo most C hb stay most hCm (Nat.le_refl _)
end Go.Proofs.YtpgioggbepdjpaaGreatDoor
