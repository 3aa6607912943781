/-
  Texts of mine, joined: what lies beneath the statement.
-/
import Derived.Test.YtpgioggbepdjpaaGreatDoorJe0912aca50
import Derived.Deep.CutRange
import Derived.Test.YtpgioggbepdjpaaGreatDoorJaa957d5392
import Derived.Test.YtpgioggbepdjpaaGreatDoorJd816751f58
namespace Go.Proofs.YtpgioggbepdjpaaGreatDoor
open Go.RowKit
set_option linter.unusedVariables false
set_option linter.unusedSimpArgs false
def ceilQ (x : Rat) : Int := -((-x).floor)
theorem ceil_le (x : Rat) (n : Int) : ceilQ x ≤ n ↔ x ≤ (n : Rat) := by
 unfold ceilQ
 have h : -n ≤ (-x).floor ↔ ((-n : Int) : Rat) ≤ -x := Rat.le_floor_iff
 rw [Rat.intCast_neg] at h
 constructor
 ·intro g
  have := h.1 (by omega)
  grind
 ·intro g
  have := h.2 (by grind)
  omega
def hit (a b : Rat) (d : Nat) : Prop := ceilQ (a * mkRat d 1) ≤ (b * mkRat d 1).floor
theorem qsz_sixty (k : Nat) (hk : k ≤ 61) : qsz (mkRat (k : Int) 1) ≤ 1 := nl_num_mkRat _ _ 1 (by rw [Int.natAbs_natCast]; exact nl_small7 _ (by omega)) nlw_one (by omega)
theorem nlceil (a : Rat) (k L : Nat) (h : qsz a ≤ L) (hk : k ≤ 61) : nl W32 (ceilQ (a * mkRat k 1)).natAbs ≤ L + 1 + 1 := by
 unfold ceilQ; rw [Int.natAbs_neg]
 exact qsz_floor _ (by rw [qsz_neg]; exact qsz_mul _ _ h (qsz_sixty k hk))
end Go.Proofs.YtpgioggbepdjpaaGreatDoor

namespace Go.Proofs.YtpgioggbepdjpaaGreatDoor
set_option linter.unusedVariables false
set_option linter.unusedSimpArgs false
theorem mkRat_one (k : Nat) : mkRat (k : Int) 1 = (k : Rat) := by rw [Rat.mkRat_eq_div,Rat.intCast_natCast]; grind
theorem le_mk (a : Rat) (n : Int) (k : Nat) (hk : 0 < k) : a ≤ mkRat n k ↔ a * mkRat k 1 ≤ (n : Rat) := by
 rw [mkRat_one,Rat.mkRat_eq_div]
 have hK : (0 : Rat) < (k : Rat) := Rat.natCast_pos.2 hk
 generalize (k : Rat) = K at *
 generalize (n : Rat) = m at *
 constructor
 ·intro h
  have h2 := Rat.mul_le_mul_of_nonneg_right h (Rat.le_of_lt hK)
  have e : m / K * K = m := by grind
  rw [e] at h2; exact h2
 ·intro h
  have hi : (0 : Rat) ≤ K⁻¹ := Rat.le_of_lt (Rat.inv_pos.2 hK)
  have h2 := Rat.mul_le_mul_of_nonneg_right h hi
  have e : a * K * K⁻¹ = a := by grind
  rw [e,← Rat.div_def] at h2; exact h2
theorem mk_le (b : Rat) (n : Int) (k : Nat) (hk : 0 < k) : mkRat n k ≤ b ↔ (n : Rat) ≤ b * mkRat k 1 := by
 rw [mkRat_one,Rat.mkRat_eq_div]
 have hK : (0 : Rat) < (k : Rat) := Rat.natCast_pos.2 hk
 generalize (k : Rat) = K at *
 generalize (n : Rat) = m at *
 constructor
 ·intro h
  have h2 := Rat.mul_le_mul_of_nonneg_right h (Rat.le_of_lt hK)
  have e : m / K * K = m := by grind
  rw [e] at h2; exact h2
 ·intro h
  have hi : (0 : Rat) ≤ K⁻¹ := Rat.le_of_lt (Rat.inv_pos.2 hK)
  have h2 := Rat.mul_le_mul_of_nonneg_right h hi
  have e : b * K * K⁻¹ = b := by grind
  rw [e,← Rat.div_def] at h2; exact h2
def SimpRel (a b r : Rat) : Prop := (0 < a ∧ MinIn a b r) ∨ (b < 0 ∧ MinIn (-b) (-a) (-r)) ∨ (a ≤ 0 ∧ 0 ≤ b ∧ r = 0)
theorem SimpRel.le {a b r : Rat} (h : SimpRel a b r) : a ≤ r ∧ r ≤ b := by
 rcases h with ⟨_,h⟩ | ⟨_,h⟩ | ⟨h1,h2,rfl⟩
 ·exact ⟨h.1,h.2.1⟩
 ·have h1 := h.1
  have h2 := h.2.1
  exact ⟨by grind,by grind⟩
 ·exact ⟨h1,h2⟩
theorem num_pos' {r : Rat} (h : 0 < r) : 0 < r.num := by have := (Rat.lt_iff 0 r).1 h; simpa using this
theorem minIn_sz {a b r : Rat} (ha : 0 < a) (h : MinIn a b r) {L : Nat} (hs : qsz a ≤ L) : qsz r ≤ L := by
 have hn := num_pos' ha
 have hr := num_pos' h.2.2.1
 obtain ⟨p,hp⟩ : ∃ p : Nat,a.num = (p : Int) := ⟨a.num.toNat,by omega⟩
 have e : mkRat (p : Int) a.den = a := by rw [← hp]; exact Rat.mkRat_self a
 obtain ⟨h1,h2⟩ := h.2.2.2 p a.den a.den_pos (by rw [e]; exact Rat.le_refl) (by rw [e]; exact Rat.le_trans h.1 h.2.1)
 have h3 := Nat.le_trans (qsz_num a) hs
 have h4 := Nat.le_trans (qsz_den a) hs
 exact Nat.max_le.2 ⟨Nat.le_trans (nl_mono W32 _ _ (by decide) (by omega)) h3,Nat.le_trans (nl_mono W32 _ _ (by decide) h1) h4⟩
theorem SimpRel.sz {a b r : Rat} (h : SimpRel a b r) {L : Nat} (hL : 1 ≤ L) (h1 : qsz a ≤ L) (h2 : qsz b ≤ L) : qsz r ≤ L := by
 rcases h with ⟨ha,h⟩ | ⟨hb,h⟩ | ⟨_,_,rfl⟩
 ·exact minIn_sz ha h h1
 ·have := minIn_sz (by grind) h (L := L) (by rw [qsz_neg]; exact h2)
  rw [qsz_neg] at this; exact this
 ·exact Nat.le_trans (qsz_int 0 (L := 1) (by decide) (by omega)) hL

def Sides (a : Rat) (most A C D E : Nat) : Prop := mkRat (A : Int) C ≤ a ∧ a < mkRat (D : Int) E ∧ 0 < C ∧ 0 < E ∧ C ≤ most ∧ E ≤ most ∧ D * C = A * E + 1 ∧ most < C + E
theorem frac_mk (n d : Nat) : ((n : Nat) : Rat) / ((d : Nat) : Rat) = mkRat (n : Int) d := by rw [Rat.mkRat_eq_div,Rat.intCast_natCast]
theorem about_sides (a : Rat) (most : Nat) (hm : 1 ≤ most) : ∀ (k ln ld hn hd : Nat),most + 2 ≤ k + ld + hd → 0 < ld → 0 < hd → ld ≤ most → hd ≤ most → hn * ld = ln * hd + 1 → mkRat (ln : Int) ld ≤ a → a < mkRat (hn : Int) hd → ∀ A C D E,aboutN a most k ln ld hn hd = (A,C,D,E) → Sides a most A C D E
 | 0,ln,ld,hn,hd,h,h1,h2,h3,h4,h5,h6,h7,A,C,D,E,e => by
  simp only [aboutN,Prod.mk.injEq] at e
  obtain ⟨rfl,rfl,rfl,rfl⟩ := e
  exact ⟨h6,h7,h1,h2,h3,h4,h5,by omega⟩
 | k + 1,ln,ld,hn,hd,h,h1,h2,h3,h4,h5,h6,h7,A,C,D,E,e => by
  rw [about_step] at e
  by_cases g : ld + hd ≤ most
  ·rw [if_pos g,frac_mk] at e
   by_cases q : mkRat ((ln + hn : Nat) : Int) (ld + hd) ≤ a
   ·rw [if_pos q] at e
    exact about_sides a most hm k (ln + hn) (ld + hd) hn hd (by omega) (by omega) h2 g h4 (by grind) q h7 A C D E e
   ·rw [if_neg q] at e
    exact about_sides a most hm k ln ld (ln + hn) (ld + hd) (by omega) h1 (by omega) h3 g (by grind) h6 (Rat.not_le.1 q) A C D E e
  ·rw [if_neg g] at e
   simp only [Prod.mk.injEq] at e
   obtain ⟨rfl,rfl,rfl,rfl⟩ := e
   exact ⟨h6,h7,h1,h2,h3,h4,h5,by omega⟩
theorem mkRat_leI (n m : Int) (d e : Nat) (hd : 0 < d) (he : 0 < e) : mkRat n d ≤ mkRat m e ↔ n * e ≤ m * d := by
 rw [← Rat.not_lt,mkRat_lt _ _ _ _ he hd,Int.not_lt]
def nearer (x b y : Rat) : Rat := if absQ (y + -x) < absQ (b + -x) then y else b
theorem shift_mk (m f : Int) (d : Nat) (hd : 0 < d) : mkRat (m - f * (d : Int)) d = mkRat m d - (f : Rat) := by
 have hK : (0 : Rat) < (d : Rat) := Rat.natCast_pos.2 hd
 rw [Rat.mkRat_eq_div,Rat.mkRat_eq_div,Rat.intCast_sub,Rat.intCast_mul,Rat.intCast_natCast]
 generalize (d : Rat) = K at *
 grind
end Go.Proofs.YtpgioggbepdjpaaGreatDoor

namespace Go.Proofs.YtpgioggbepdjpaaGreatDoor
open Go.RowKit
set_option linter.unusedVariables false
set_option linter.unusedSimpArgs false
end Go.Proofs.YtpgioggbepdjpaaGreatDoor

namespace Go.Proofs.YtpgioggbepdjpaaGreatDoor
set_option linter.unusedVariables false
set_option linter.unusedSimpArgs false
theorem qsz_floorB (q : Rat) {L : Nat} (h : qsz q ≤ L) : nl W32 q.floor.natAbs ≤ L + 1 := by
 rw [← Rat.mkRat_self q,floor_mkRat _ _ (Nat.pos_of_ne_zero q.den_nz)]
 exact fdiv_nl _ _ _ (Nat.le_trans (qsz_num q) h)
theorem cmpQ_twoB (a b : Rat) : (cmpQ a b > 0 ↔ b < a) ∧ (cmpQ a b = 0 ↔ a = b) := by
 have h0 := cmpQ_zero a b
 have h1 := cmpQ_pos a b
 refine ⟨?_,?_⟩
 ·rw [gt_iff_lt,← decide_eq_true_iff (p := 0 < cmpQ a b),h1,decide_eq_true_iff]
 ·rw [← beq_iff_eq,h0,decide_eq_true_iff]
theorem floor_twoB (q : Rat) : (q.floor : Rat) ≤ q ∧ q < (q.floor : Rat) + 1 := by
 refine ⟨Rat.floor_le q,?_⟩
 have h : ¬ (((q.floor + 1 : Int) : Rat) ≤ q) := fun h => by have := Rat.le_floor_iff.2 h; omega
 rw [Rat.intCast_add,Rat.intCast_one] at h
 exact Rat.not_le.1 h
theorem int_mkB (A C : Nat) : ((A : Int) : Rat) / ((C : Int) : Rat) = mkRat (A : Int) C := by rw [Rat.mkRat_eq_div,Rat.intCast_natCast C]
theorem sides_aboutB (x : Rat) (m : Nat) (hm : 1 ≤ m) (A C D E : Nat) (h : aboutN (x - (x.floor : Rat)) m (m + 1) 0 1 1 1 = (A,C,D,E)) : Sides (x - (x.floor : Rat)) m A C D E ∧ A ≤ C ∧ D ≤ E := by
 obtain ⟨f1,f2⟩ := floor_twoB x
 have hs := about_sides (x - (x.floor : Rat)) m hm (m + 1) 0 1 1 1 (by omega) (by omega) (by omega) hm hm rfl (by rw [show mkRat ((0 : Nat) : Int) 1 = (0 : Rat) by decide +kernel]; grind) (by rw [show mkRat ((1 : Nat) : Int) 1 = (1 : Rat) by decide +kernel]; grind) A C D E h
 refine ⟨hs,?_⟩
 obtain ⟨s1,s2,s3,s4,s5,s6,s7,s8⟩ := hs
 have hAC : A < C := by
  have g : mkRat (A : Int) C < mkRat ((1 : Nat) : Int) 1 := by rw [show mkRat ((1 : Nat) : Int) 1 = (1 : Rat) by decide +kernel]; grind
  have := (mkRat_lt _ _ _ _ s3 (by omega)).1 g
  omega
 refine ⟨by omega,?_⟩
 obtain ⟨j,rfl⟩ : ∃ j,C = A + 1 + j := ⟨C - A - 1,by omega⟩
 rcases Nat.lt_or_ge E D with g | g
 ·have h1 : (E + 1) * (A + 1 + j) ≤ D * (A + 1 + j) := Nat.mul_le_mul_right _ g
  have h2 : (E + 1) * (A + 1 + j) = A * E + E + E * j + (A + 1 + j) := by grind
  omega
 ·exact g
theorem cmpQ_belowB (a b : Rat) : cmpQ a b < 0 ↔ a < b := by
 unfold cmpQ
 by_cases h1 : a < b
 ·rw [if_pos h1]; exact ⟨fun _ => h1,fun _ => by omega⟩
 ·rw [if_neg h1]
  by_cases h2 : b < a
  ·rw [if_pos h2]; exact ⟨fun h => by omega,fun h => absurd h h1⟩
  ·rw [if_neg h2]; exact ⟨fun h => by omega,fun h => absurd h h1⟩
def Adj (most : Nat) (N1 : Int) (D1 : Nat) (N2 : Int) (D2 : Nat) : Prop := 0 < D1 ∧ 0 < D2 ∧ D1 ≤ most ∧ D2 ≤ most ∧ N2 * (D1 : Int) = N1 * (D2 : Int) + 1 ∧ most < D1 + D2
theorem adj_not {most : Nat} {N1 N2 : Int} {D1 D2 : Nat} (h : Adj most N1 D1 N2 D2) (p : Int) (r : Nat) (hr : 0 < r) (hm : r ≤ most) (h1 : N1 * (r : Int) < p * (D1 : Int)) (h2 : p * (D2 : Int) < N2 * (r : Int)) : False := by
 obtain ⟨hC,hE,_,_,hd,hs⟩ := h
 have e : (r : Int) = (D1 : Int) * (N2 * (r : Int) - p * (D2 : Int)) + (D2 : Int) * (p * (D1 : Int) - N1 * (r : Int)) := by grind
 have k1 : (D1 : Int) * 1 ≤ (D1 : Int) * (N2 * (r : Int) - p * (D2 : Int)) := Int.mul_le_mul_of_nonneg_left (by omega) (by omega)
 have k2 : (D2 : Int) * 1 ≤ (D2 : Int) * (p * (D1 : Int) - N1 * (r : Int)) := Int.mul_le_mul_of_nonneg_left (by omega) (by omega)
 omega
theorem adj_cop {most : Nat} {N1 N2 : Int} {D1 D2 : Nat} (h : Adj most N1 D1 N2 D2) : Nat.gcd N1.natAbs D1 = 1 := by
 obtain ⟨hC,hE,_,_,hd,hs⟩ := h
 have h1 : ((Nat.gcd N1.natAbs D1 : Nat) : Int) ∣ N2 * (D1 : Int) := Int.dvd_trans (Int.natCast_dvd_natCast.2 (Nat.gcd_dvd_right _ _)) (Int.dvd_mul_left _ _)
 have h2 : ((Nat.gcd N1.natAbs D1 : Nat) : Int) ∣ N1 * (D2 : Int) := Int.dvd_trans (Int.dvd_natAbs.1 (Int.natCast_dvd_natCast.2 (Nat.gcd_dvd_left _ _))) (Int.dvd_mul_right _ _)
 rw [hd] at h1
 have h3 := (Int.dvd_add_right h2).1 h1
 have h4 := Int.natCast_dvd_natCast.1 (show ((Nat.gcd N1.natAbs D1 : Nat) : Int) ∣ ((1 : Nat) : Int) from h3)
 exact Nat.dvd_one.1 h4
theorem adj_next {most n1 d1 n2 d2 : Nat} (h1 : 0 < d1) (h2 : 0 < d2) (h3 : d1 ≤ most) (h4 : d2 ≤ most) (h5 : n2 * d1 = n1 * d2 + 1) (h6 : most < d1 + d2) (k : Nat) (hk : k = (most + d1) / d2) :
  n1 ≤ k * n2 ∧ d1 ≤ k * d2 ∧ 0 < k * d2 - d1 ∧ k * d2 - d1 ≤ most ∧ (k * n2 - n1) * d2 = n2 * (k * d2 - d1) + 1 ∧ most < d2 + (k * d2 - d1) := by
 have g1 : k * d2 ≤ most + d1 := by rw [hk]; exact Nat.div_mul_le_self _ _
 have g2 : most + d1 < k * d2 + d2 := by
  have e1 := Nat.div_add_mod (most + d1) d2
  have e2 := Nat.mod_lt (most + d1) h2
  rw [Nat.mul_comm,← hk] at e1; omega
 have g3 : d1 ≤ k * d2 := by omega
 have g4 : n1 ≤ k * n2 := by
  have e1 : n1 * d1 ≤ n1 * (k * d2) := Nat.mul_le_mul_left _ g3
  have e2 : (k * n2) * d1 = n1 * (k * d2) + k := by
   have : (k * n2) * d1 = k * (n2 * d1) := by rw [Nat.mul_assoc]
   rw [this,h5,Nat.mul_add,Nat.mul_one]
   have : k * (n1 * d2) = n1 * (k * d2) := by rw [← Nat.mul_assoc,← Nat.mul_assoc,Nat.mul_comm k n1]
   omega
  exact Nat.le_of_mul_le_mul_right (show n1 * d1 ≤ (k * n2) * d1 by omega) h1
 refine ⟨g4,g3,by omega,by omega,?_,by omega⟩
 obtain ⟨u,hu⟩ := Nat.exists_eq_add_of_le g4
 obtain ⟨v,hv⟩ := Nat.exists_eq_add_of_le g3
 rw [hu,hv,Nat.add_sub_cancel_left,Nat.add_sub_cancel_left]
 have e : (n1 + u) * d2 = n2 * (d1 + v) := by rw [← hu,← hv,Nat.mul_comm k n2,Nat.mul_assoc]
 rw [Nat.add_mul,Nat.mul_add] at e
 omega
def cn (d : Nat) (lo : Int) : Nat → Nat
 | 0 => 0
 | k + 1 => cn d lo k + (if Nat.gcd (lo + (k : Int)).natAbs d = 1 then 1 else 0)
theorem cn_add (d : Nat) (lo : Int) (k : Nat) : ∀ m,cn d lo (k + m) = cn d lo k + cn d (lo + (k : Int)) m
 | 0 => rfl
 | m + 1 => by
  show cn d lo (k + m) + (if Nat.gcd (lo + ((k + m : Nat) : Int)).natAbs d = 1 then 1 else 0) = cn d lo k + (cn d (lo + (k : Int)) m + (if Nat.gcd (lo + (k : Int) + (m : Int)).natAbs d = 1 then 1 else 0))
  rw [cn_add d lo k m,show lo + (k : Int) + (m : Int) = lo + ((k + m : Nat) : Int) by omega]; omega
theorem cn_le (d : Nat) (lo : Int) : ∀ k,cn d lo k ≤ k
 | 0 => Nat.le_refl _
 | k + 1 => by
  have := cn_le d lo k
  show cn d lo k + (if _ then 1 else 0) ≤ k + 1
  split <;> omega
theorem cn_none (d : Nat) (lo : Int) : ∀ k : Nat,(∀ i : Nat,i < k → ¬ Nat.gcd (lo + (i : Int)).natAbs d = 1) → cn d lo k = 0
 | 0,_ => rfl
 | k + 1,h => by
  show cn d lo k + (if _ then 1 else 0) = 0
  rw [if_neg (h k (by omega)),cn_none d lo k fun i hi => h i (by omega)]
theorem cn_one (d : Nat) (lo : Int) (j : Nat) (hg : Nat.gcd (lo + (j : Int)).natAbs d = 1) : ∀ k : Nat,j < k → (∀ i : Nat,i < k → Nat.gcd (lo + (i : Int)).natAbs d = 1 → i = j) → cn d lo k = 1
 | 0,hj,_ => by omega
 | k + 1,hj,h => by
  show cn d lo k + (if _ then 1 else 0) = 1
  by_cases e : j = k
  ·subst e
   rw [if_pos hg,cn_none d lo j fun i hi hgi => by have := h i (by omega) hgi; omega]
  ·rw [if_neg (fun hgk => by have := h k (by omega) hgk; omega),cn_one d lo j hg k (by omega) fun i hi => h i (by omega)]
def tot (f : Nat → Nat) : Nat → Nat
 | 0 => 0
 | m + 1 => tot f m + f (m + 1)
theorem tot_congr (f g : Nat → Nat) : ∀ m,(∀ d,0 < d → d ≤ m → f d = g d) → tot f m = tot g m
 | 0,_ => rfl
 | m + 1,h => by
  show tot f m + f (m + 1) = tot g m + g (m + 1)
  rw [tot_congr f g m (fun d h0 h1 => h d h0 (by omega)),h (m + 1) (by omega) (by omega)]
theorem tot_le (f g : Nat → Nat) : ∀ m,(∀ d,0 < d → d ≤ m → f d ≤ g d) → tot f m ≤ tot g m
 | 0,_ => Nat.le_refl _
 | m + 1,h => Nat.add_le_add (tot_le f g m (fun d h0 h1 => h d h0 (by omega))) (h (m + 1) (by omega) (by omega))
theorem tot_add (f g : Nat → Nat) : ∀ m,tot (fun d => f d + g d) m = tot f m + tot g m
 | 0 => rfl
 | m + 1 => by
  show tot (fun d => f d + g d) m + (f (m + 1) + g (m + 1)) = tot f m + f (m + 1) + (tot g m + g (m + 1))
  rw [tot_add f g m]; omega
theorem tot_zero (f : Nat → Nat) : ∀ m,(∀ d,0 < d → d ≤ m → f d = 0) → tot f m = 0
 | 0,_ => rfl
 | m + 1,h => by
  show tot f m + f (m + 1) = 0
  rw [tot_zero f m (fun d h0 h1 => h d h0 (by omega)),h (m + 1) (by omega) (by omega)]
theorem tot_one (f : Nat → Nat) (D : Nat) (hf : f D = 1) : ∀ m,0 < D → D ≤ m → (∀ d,0 < d → d ≤ m → d ≠ D → f d = 0) → tot f m = 1
 | 0,h0,h1,_ => by omega
 | m + 1,h0,h1,h => by
  show tot f m + f (m + 1) = 1
  by_cases e : D = m + 1
  ·subst e
   rw [hf,tot_zero f m fun d h2 h3 => h d h2 (by omega) (by omega)]
  ·rw [tot_one f D hf m h0 (by omega) (fun d h2 h3 => h d h2 (by omega)),h (m + 1) (by omega) (by omega) (fun g => e g.symm)]
theorem low_one (n N : Int) (d D : Nat) (h0 : 0 < d) (h1 : 0 < D) (hg : Nat.gcd n.natAbs d = 1) (hG : Nat.gcd N.natAbs D = 1) (e : n * (D : Int) = N * (d : Int)) : d = D ∧ n = N := by
 have e1 : n.natAbs * D = N.natAbs * d := by
  have := congrArg Int.natAbs e
  rw [Int.natAbs_mul,Int.natAbs_mul,Int.natAbs_natCast,Int.natAbs_natCast] at this
  exact this
 have k1 : d ∣ D := Nat.Coprime.dvd_of_dvd_mul_left (show Nat.Coprime d n.natAbs from by rw [Nat.coprime_iff_gcd_eq_one,Nat.gcd_comm]; exact hg) (by rw [e1]; exact Nat.dvd_mul_left _ _)
 have k2 : D ∣ d := Nat.Coprime.dvd_of_dvd_mul_left (show Nat.Coprime D N.natAbs from by rw [Nat.coprime_iff_gcd_eq_one,Nat.gcd_comm]; exact hG) (by rw [← e1]; exact Nat.dvd_mul_left _ _)
 have hd := Nat.dvd_antisymm k1 k2
 subst hd
 exact ⟨rfl,Int.eq_of_mul_eq_mul_right (by omega) e⟩
def below_ (a z : Rat) (most : Nat) : Nat := tot (fun d => cn d (ceilQ (a * mkRat d 1)) (ceilQ (z * mkRat d 1) - ceilQ (a * mkRat d 1)).toNat) most
def upto_ (a b : Rat) (most : Nat) : Nat := tot (fun d => cn d (ceilQ (a * mkRat d 1)) ((b * mkRat d 1).floor - ceilQ (a * mkRat d 1) + 1).toNat) most
theorem ceil_leM (z : Rat) (n : Int) (d : Nat) (hd : 0 < d) : ceilQ (z * mkRat d 1) ≤ n ↔ z ≤ mkRat n d := by rw [ceil_le,le_mk z n d hd]
theorem le_floorM (z : Rat) (n : Int) (d : Nat) (hd : 0 < d) : n ≤ (z * mkRat d 1).floor ↔ mkRat n d ≤ z := by rw [Rat.le_floor_iff,mk_le z n d hd]
theorem ceil_mono {y z : Rat} (h : y ≤ z) (d : Nat) (hd : 0 < d) : ceilQ (y * mkRat d 1) ≤ ceilQ (z * mkRat d 1) :=
 (ceil_leM y _ d hd).2 (Rat.le_trans h ((ceil_leM z _ d hd).1 (Int.le_refl _)))
theorem below_first {a z : Rat} {most : Nat} (hn : ∀ (n : Int) (d : Nat),0 < d → d ≤ most → a ≤ mkRat n d → mkRat n d < z → False) : below_ a z most = 0 := by
 refine tot_zero _ _ fun d h0 h1 => ?_
 have : (ceilQ (z * mkRat d 1) - ceilQ (a * mkRat d 1)).toNat = 0 := by
  rcases Int.lt_or_le (ceilQ (a * mkRat d 1)) (ceilQ (z * mkRat d 1)) with g | g
  ·exact absurd (hn (ceilQ (a * mkRat d 1)) d h0 h1 ((ceil_leM a _ d h0).1 (Int.le_refl _)) (Rat.not_le.1 fun q => by have := (ceil_leM z _ d h0).2 q; omega)) id
  ·omega
 show cn d _ (ceilQ (z * mkRat d 1) - ceilQ (a * mkRat d 1)).toNat = 0
 rw [this]; rfl
theorem below_next {a : Rat} {most : Nat} {N1 N2 : Int} {D1 D2 : Nat} (h : Adj most N1 D1 N2 D2) (ha : a ≤ mkRat N1 D1) : below_ a (mkRat N2 D2) most = below_ a (mkRat N1 D1) most + 1 := by
 have hc := adj_cop h
 have hA := h
 obtain ⟨hC,hE,hCm,hEm,hd,hs⟩ := hA
 have hlt : mkRat N1 D1 < mkRat N2 D2 := by rw [mkRat_lt _ _ _ _ hC hE]; omega
 have key : tot (fun d => cn d (ceilQ (mkRat N1 D1 * mkRat d 1)) (ceilQ (mkRat N2 D2 * mkRat d 1) - ceilQ (mkRat N1 D1 * mkRat d 1)).toNat) most = 1 := by
  have each : ∀ (d : Nat),0 < d → d ≤ most → ∀ i : Nat,i < (ceilQ (mkRat N2 D2 * mkRat d 1) - ceilQ (mkRat N1 D1 * mkRat d 1)).toNat → (ceilQ (mkRat N1 D1 * mkRat d 1) + (i : Int)) * (D1 : Int) = N1 * (d : Int) := by
   intro d h0 h1 i hi
   have g1 : mkRat N1 D1 ≤ mkRat (ceilQ (mkRat N1 D1 * mkRat d 1) + (i : Int)) d := (ceil_leM _ _ d h0).1 (by omega)
   have g2 : mkRat (ceilQ (mkRat N1 D1 * mkRat d 1) + (i : Int)) d < mkRat N2 D2 := Rat.not_le.1 fun q => by have := (ceil_leM _ _ d h0).2 q; omega
   generalize ceilQ (mkRat N1 D1 * mkRat d 1) + (i : Int) = p at *
   rw [mkRat_lt _ _ _ _ h0 hE] at g2
   rw [← Rat.not_lt,mkRat_lt _ _ _ _ h0 hC,Int.not_lt] at g1
   rcases Int.lt_or_eq_of_le g1 with q | q
   ·exact absurd (adj_not h p d h0 h1 q g2) id
   ·omega
  refine tot_one _ D1 ?_ most hC hCm fun d h0 h1 hne => cn_none d _ _ fun i hi hg => hne (low_one _ _ _ _ h0 hC hg hc (each d h0 h1 i hi)).1
  have e1 : ceilQ (mkRat N1 D1 * mkRat D1 1) = N1 := by
   refine Int.le_antisymm ((ceil_leM _ _ D1 hC).2 Rat.le_refl) ?_
   have g1 := (ceil_leM (mkRat N1 D1) _ D1 hC).1 (Int.le_refl _)
   rw [← Rat.not_lt,mkRat_lt _ _ _ _ hC hC,Int.not_lt] at g1
   exact Int.le_of_mul_le_mul_right g1 (by omega)
  have e2 : N1 < ceilQ (mkRat N2 D2 * mkRat D1 1) := by
   rcases Int.lt_or_le N1 (ceilQ (mkRat N2 D2 * mkRat D1 1)) with g | g
   ·exact g
   ·exact absurd ((ceil_leM _ _ D1 hC).1 g) (Rat.not_le.2 hlt)
  refine cn_one D1 _ 0 (by rw [e1,show N1 + ((0 : Nat) : Int) = N1 by omega]; exact hc) _ (by rw [e1]; omega) fun i hi hg => ?_
  have := each D1 hC hCm i hi
  rw [e1] at this
  have := Int.eq_of_mul_eq_mul_right (by omega) this
  omega
 have key2 : ∀ x y : Nat,x = y + tot (fun d => cn d (ceilQ (mkRat N1 D1 * mkRat d 1)) (ceilQ (mkRat N2 D2 * mkRat d 1) - ceilQ (mkRat N1 D1 * mkRat d 1)).toNat) most → x = y + 1 := fun x y e => by rw [key] at e; exact e
 refine key2 _ _ ?_
 unfold below_
 rw [← tot_add]
 refine tot_congr _ _ _ fun d h0 h1 => ?_
 have m1 := ceil_mono ha d h0
 have m2 := ceil_mono (Rat.le_of_lt hlt) d h0
 rw [show (ceilQ (mkRat N2 D2 * mkRat d 1) - ceilQ (a * mkRat d 1)).toNat = (ceilQ (mkRat N1 D1 * mkRat d 1) - ceilQ (a * mkRat d 1)).toNat + (ceilQ (mkRat N2 D2 * mkRat d 1) - ceilQ (mkRat N1 D1 * mkRat d 1)).toNat by omega,cn_add,show ceilQ (a * mkRat d 1) + ((ceilQ (mkRat N1 D1 * mkRat d 1) - ceilQ (a * mkRat d 1)).toNat : Int) = ceilQ (mkRat N1 D1 * mkRat d 1) by omega]
theorem below_end {a b z : Rat} {most : Nat} (hb : b < z) (hn : ∀ (n : Int) (d : Nat),0 < d → d ≤ most → a ≤ mkRat n d → mkRat n d < z → mkRat n d ≤ b) : upto_ a b most = below_ a z most := by
 refine tot_congr _ _ _ fun d h0 h1 => ?_
 have hk : ((b * mkRat d 1).floor - ceilQ (a * mkRat d 1) + 1).toNat = (ceilQ (z * mkRat d 1) - ceilQ (a * mkRat d 1)).toNat := by
  have up : ∀ n,ceilQ (a * mkRat d 1) ≤ n → n < ceilQ (z * mkRat d 1) → n ≤ (b * mkRat d 1).floor := fun n g1 g2 =>
   (le_floorM b n d h0).2 (hn n d h0 h1 ((ceil_leM a n d h0).1 g1) (Rat.not_le.1 fun q => by have := (ceil_leM z n d h0).2 q; omega))
  have dn : ∀ n,n ≤ (b * mkRat d 1).floor → n < ceilQ (z * mkRat d 1) := fun n g => by
   rcases Int.lt_or_le n (ceilQ (z * mkRat d 1)) with q | q
   ·exact q
   ·exact absurd (Rat.le_trans ((ceil_leM z n d h0).1 q) ((le_floorM b n d h0).1 g)) (Rat.not_le.2 hb)
  have d1 := dn _ (Int.le_refl _)
  rcases Int.lt_or_le (ceilQ (a * mkRat d 1)) (ceilQ (z * mkRat d 1)) with g | g
  ·have := up (ceilQ (z * mkRat d 1) - 1) (by omega) (by omega); omega
  ·omega
 show cn d _ _ = cn d _ _
 rw [hk]
theorem ceil_plus (x : Rat) (k : Int) : ceilQ (x + (k : Rat)) = ceilQ x + k := by
 refine Int.le_antisymm ((ceil_le _ _).2 ?_) ?_
 ·have := (ceil_le x _).1 (Int.le_refl _)
  rw [Rat.intCast_add]; grind
 ·have := (ceil_le (x + (k : Rat)) _).1 (Int.le_refl _)
  have h2 : ceilQ x ≤ ceilQ (x + (k : Rat)) - k := (ceil_le x _).2 (by rw [Rat.intCast_sub]; grind)
  omega
theorem below_few {a b z : Rat} {most : Nat} (hm : most ≤ 8) (hz : z ≤ b) (hb : b + -a ≤ 20) : below_ a z most ≤ 720 := by
 have h1 : below_ a z most ≤ tot (fun d => 20 * d) most := by
  refine tot_le _ _ _ fun d h0 h1 => Nat.le_trans (cn_le _ _ _) ?_
  have hz2 : z ≤ a + 20 := by grind
  have e : ceilQ (z * mkRat d 1) ≤ ceilQ (a * mkRat d 1) + 20 * (d : Int) := by
   have g := ceil_mono hz2 d h0
   rw [show (a + 20) * mkRat (d : Int) 1 = a * mkRat (d : Int) 1 + (((20 * (d : Int)) : Int) : Rat) by rw [Rat.intCast_mul,Rat.intCast_natCast,mkRat_one]; grind,ceil_plus] at g
   exact g
  show (ceilQ (z * mkRat d 1) - ceilQ (a * mkRat d 1)).toNat ≤ 20 * d
  omega
 have h2 : ∀ m,m ≤ 8 → tot (fun d => 20 * d) m ≤ 720 := by decide
 exact Nat.le_trans h1 (h2 most hm)
def bst (most : Nat) (s : Nat × Nat × Nat × Nat) : Nat → Nat × Nat × Nat × Nat
 | 0 => s
 | j + 1 => ((bst most s j).2.2.1,(bst most s j).2.2.2,(most + (bst most s j).2.1) / (bst most s j).2.2.2 * (bst most s j).2.2.1 - (bst most s j).1,(most + (bst most s j).2.1) / (bst most s j).2.2.2 * (bst most s j).2.2.2 - (bst most s j).2.1)
def bx (F : Int) (t : Nat × Nat × Nat × Nat) : Rat := mkRat (F * (t.2.1 : Int) + (t.1 : Int)) t.2.1
def AdjN (most : Nat) (t : Nat × Nat × Nat × Nat) : Prop := 0 < t.2.1 ∧ 0 < t.2.2.2 ∧ t.2.1 ≤ most ∧ t.2.2.2 ≤ most ∧ t.2.2.1 * t.2.1 = t.1 * t.2.2.2 + 1 ∧ most < t.2.1 + t.2.2.2
theorem AdjN.adj {most : Nat} {t : Nat × Nat × Nat × Nat} (h : AdjN most t) (F : Int) : Adj most (F * (t.2.1 : Int) + (t.1 : Int)) t.2.1 (F * (t.2.2.2 : Int) + (t.2.2.1 : Int)) t.2.2.2 := by
 obtain ⟨h1,h2,h3,h4,h5,h6⟩ := h
 have h7 : (t.2.2.1 : Int) * (t.2.1 : Int) = (t.1 : Int) * (t.2.2.2 : Int) + 1 := by rw [← Int.natCast_mul,h5]; simp
 exact ⟨h1,h2,h3,h4,by grind,h6⟩
theorem bst_step {most : Nat} {t : Nat × Nat × Nat × Nat} (h : AdjN most t) : AdjN most (bst most t 1) ∧ t.1 ≤ (most + t.2.1) / t.2.2.2 * t.2.2.1 ∧ t.2.1 ≤ (most + t.2.1) / t.2.2.2 * t.2.2.2 := by
 obtain ⟨h1,h2,h3,h4,h5,h6⟩ := h
 obtain ⟨g1,g2,g3,g4,g5,g6⟩ := adj_next h1 h2 h3 h4 h5 h6 _ rfl
 exact ⟨⟨h2,g3,h4,g4,g5,g6⟩,g1,g2⟩
theorem bst_succ (most : Nat) (s : Nat × Nat × Nat × Nat) (j : Nat) : bst most s (j + 1) = bst most (bst most s j) 1 := rfl
theorem bst_adj {most : Nat} {s : Nat × Nat × Nat × Nat} (h : AdjN most s) : ∀ j,AdjN most (bst most s j)
 | 0 => h
 | j + 1 => by rw [bst_succ]; exact (bst_step (bst_adj h j)).1
def Start (a : Rat) (most : Nat) (F : Int) (s : Nat × Nat × Nat × Nat) : Prop := AdjN most s ∧ a ≤ bx F s ∧ ∀ (n : Int) (d : Nat),0 < d → d ≤ most → a ≤ mkRat n d → mkRat n d < bx F s → False
theorem bx_lt {a : Rat} {most : Nat} {F : Int} {s : Nat × Nat × Nat × Nat} (h : Start a most F s) (j : Nat) : bx F (bst most s j) < bx F (bst most s (j + 1)) := by
 obtain ⟨h1,h2,_,_,h5,_⟩ := (bst_adj h.1 j).adj F
 exact (mkRat_lt _ _ _ _ h1 h2).2 (by show (F * ((bst most s j).2.1 : Int) + ((bst most s j).1 : Int)) * ((bst most s j).2.2.2 : Int) < (F * ((bst most s j).2.2.2 : Int) + ((bst most s j).2.2.1 : Int)) * ((bst most s j).2.1 : Int); omega)
theorem bx_ge {a : Rat} {most : Nat} {F : Int} {s : Nat × Nat × Nat × Nat} (h : Start a most F s) : ∀ j,a ≤ bx F (bst most s j)
 | 0 => h.2.1
 | j + 1 => Rat.le_trans (bx_ge h j) (Rat.le_of_lt (bx_lt h j))
theorem bx_count {a : Rat} {most : Nat} {F : Int} {s : Nat × Nat × Nat × Nat} (h : Start a most F s) : ∀ j,below_ a (bx F (bst most s j)) most = j
 | 0 => below_first h.2.2
 | j + 1 => by
  have := below_next ((bst_adj h.1 j).adj F) (bx_ge h j)
  rw [show mkRat (F * ((bst most s j).2.1 : Int) + ((bst most s j).1 : Int)) (bst most s j).2.1 = bx F (bst most s j) from rfl,bx_count h j] at this
  exact this
theorem bx_den {a : Rat} {most : Nat} {F : Int} {s : Nat × Nat × Nat × Nat} (h : Start a most F s) (j : Nat) : (bx F (bst most s j)).den ≤ most := by
 obtain ⟨h1,_,h3,_⟩ := bst_adj h.1 j
 refine Nat.le_trans ?_ h3
 unfold bx
 rw [(mkRat_low _ _ h1).2]; exact Nat.div_le_self _ _
theorem bx_end {a b : Rat} {most : Nat} {F : Int} {s : Nat × Nat × Nat × Nat} (h : Start a most F s) (m : Nat) (hb : b < bx F (bst most s m)) (hle : ∀ j,j < m → bx F (bst most s j) ≤ b) : upto_ a b most = m := by
 rw [below_end hb,bx_count h m]
 intro n d h0 h1 g1 g2
 cases m with
 | zero => exact absurd (h.2.2 n d h0 h1 g1 g2) id
 | succ j =>
  refine Rat.le_trans (Rat.not_lt.1 fun q => ?_) (hle j (by omega))
  have hA := (bst_adj h.1 j).adj F
  exact adj_not hA n d h0 h1 ((mkRat_lt _ _ _ _ hA.1 h0).1 q) ((mkRat_lt _ _ _ _ h0 hA.2.1).1 g2)
theorem bx_few {a b : Rat} {most : Nat} {F : Int} {s : Nat × Nat × Nat × Nat} (h : Start a most F s) (hm : most ≤ 8) (hb : b + -a ≤ 20) (m : Nat) (hle : bx F (bst most s m) ≤ b) : m ≤ 720 := by
 have := below_few hm hle hb
 rw [bx_count h m] at this; exact this
theorem bx_sum (F : Int) (n d : Nat) (hd : 0 < d) (t1 t2 : Nat) : (F : Rat) + ((n : Int) : Rat) / ((d : Int) : Rat) = bx F (n,d,t1,t2) := by
 show _ = mkRat (F * (d : Int) + (n : Int)) d
 rw [Rat.mkRat_eq_div,Rat.intCast_add,Rat.intCast_mul]
 have hK : (0 : Rat) < ((d : Int) : Rat) := by rw [Rat.intCast_natCast]; exact ratc_pos d hd
 rw [show ((d : Nat) : Rat) = ((d : Int) : Rat) from (Rat.intCast_natCast d).symm]
 generalize ((d : Int) : Rat) = K at *
 generalize (F : Rat) = f at *
 generalize ((n : Int) : Rat) = m at *
 grind
theorem bx_num {a b : Rat} {most : Nat} {F : Int} {t : Nat × Nat × Nat × Nat} (hA : AdjN most t) (hm : most ≤ 8) (hF : a < (F : Rat) + 1) (hb : b + -a ≤ 20) (hle : bx F t ≤ b) : t.1 ≤ 168 ∧ t.2.2.1 ≤ 1345 := by
 obtain ⟨h1,h2,h3,h4,h5,h6⟩ := hA
 have g1 : mkRat (F * (t.2.1 : Int) + (t.1 : Int)) t.2.1 < mkRat (F + 21) 1 := by
  have : mkRat (F + 21) 1 = (F : Rat) + 21 := by rw [Rat.mkRat_eq_div,Rat.intCast_add]; show ((F : Rat) + 21) / 1 = _; grind
  rw [this]
  have hle' : mkRat (F * (t.2.1 : Int) + (t.1 : Int)) t.2.1 ≤ b := hle
  generalize mkRat (F * (t.2.1 : Int) + (t.1 : Int)) t.2.1 = u at *
  grind
 rw [mkRat_lt _ _ _ _ h1 (by omega)] at g1
 have g2 : t.1 ≤ 168 := by
  have e : (F + 21) * (t.2.1 : Int) = F * (t.2.1 : Int) + 21 * (t.2.1 : Int) := by rw [Int.add_mul]
  rw [e] at g1
  omega
 refine ⟨g2,?_⟩
 have k1 : t.2.2.1 * 1 ≤ t.2.2.1 * t.2.1 := Nat.mul_le_mul_left _ h1
 have k2 : t.1 * t.2.2.2 ≤ 168 * 8 := Nat.mul_le_mul g2 (by omega)
 omega
theorem start_low {a : Rat} {most A C D E : Nat} {F : Int} (h : mkRat (A : Int) C ≤ a - (F : Rat) ∧ a - (F : Rat) < mkRat (D : Int) E ∧ 0 < C ∧ 0 < E ∧ C ≤ most ∧ E ≤ most ∧ D * C = A * E + 1 ∧ most < C + E) (he : ¬ mkRat (A : Int) C < a - (F : Rat)) : Start a most F (A,C,D,E) := by
 obtain ⟨h1,h2,h3,h4,h5,h6,h7,h8⟩ := h
 have e : bx F (A,C,D,E) = a := by
  rw [← bx_sum F A C h3 D E,Rat.intCast_natCast C,← Rat.mkRat_eq_div]
  have := Rat.le_antisymm h1 (Rat.not_lt.1 he)
  rw [this]; grind
 exact ⟨⟨h3,h4,h5,h6,h7,h8⟩,by rw [e]; exact Rat.le_refl,fun n d _ _ g1 g2 => by rw [e] at g2; exact absurd g1 (Rat.not_le.2 g2)⟩
theorem start_high {a : Rat} {most A C D E : Nat} {F : Int} (h : mkRat (A : Int) C ≤ a - (F : Rat) ∧ a - (F : Rat) < mkRat (D : Int) E ∧ 0 < C ∧ 0 < E ∧ C ≤ most ∧ E ≤ most ∧ D * C = A * E + 1 ∧ most < C + E) (he : mkRat (A : Int) C < a - (F : Rat)) : Start a most F (bst most (A,C,D,E) 1) := by
 obtain ⟨h1,h2,h3,h4,h5,h6,h7,h8⟩ := h
 have hA : AdjN most (A,C,D,E) := ⟨h3,h4,h5,h6,h7,h8⟩
 have hI := hA.adj F
 have e1 : bx F (A,C,D,E) < a := by
  rw [← bx_sum F A C h3 D E,Rat.intCast_natCast C,← Rat.mkRat_eq_div]; grind
 have e2 : a < bx F (bst most (A,C,D,E) 1) := by
  show a < bx F (D,E,_,_)
  rw [← bx_sum F D E h4,Rat.intCast_natCast E,← Rat.mkRat_eq_div]; grind
 exact ⟨(bst_step hA).1,Rat.le_of_lt e2,fun n d h0 h1 g1 g2 => adj_not hI n d h0 h1 ((mkRat_lt _ _ _ _ h3 h0).1 (Rat.not_le.1 fun q => absurd (Rat.le_trans g1 q) (Rat.not_le.2 e1))) ((mkRat_lt _ _ _ _ h0 h4).1 g2)⟩
end Go.Proofs.YtpgioggbepdjpaaGreatDoor
