/-
  Texts of mine, joined: what lies beneath the statement.
-/
import Derived.Test.YtnbocjbfieklhaaGreatDoorJ7c7ed501e3
import Derived.Test.YtnbocjbfieklhaaGreatDoorJ33a96b749f
import Derived.Test.YtnbocjbfieklhaaGreatDoorJ58eac0edc9
import Derived.Test.YtnbocjbfieklhaaGreatDoorJb016ad185a
namespace Go.Proofs.YtnbocjbfieklhaaGreatDoor
set_option linter.unusedVariables false
theorem sumq_scale (f : Nat → Rat) (s : Rat) : ∀ n,sumq (fun i => f i * s) n = sumq f n * s
 | 0 => by show (0 : Rat) = 0 * s; grind
 | n + 1 => by show sumq (fun i => f i * s) n + f n * s = (sumq f n + f n) * s; rw [sumq_scale f s n]; grind
theorem sumq_scaleL (f : Nat → Rat) (s : Rat) : ∀ n,sumq (fun i => s * f i) n = s * sumq f n
 | 0 => by show (0 : Rat) = s * 0; grind
 | n + 1 => by show sumq (fun i => s * f i) n + s * f n = s * (sumq f n + f n); rw [sumq_scaleL f s n]; grind
theorem sumq_first (f : Nat → Rat) : ∀ n,sumq f (n + 1) = f 0 + sumq (fun i => f (i + 1)) n
 | 0 => by show (0 : Rat) + f 0 = f 0 + 0; grind
 | n + 1 => by show sumq f (n + 1) + f (n + 1) = f 0 + (sumq (fun i => f (i + 1)) n + f (n + 1)); rw [sumq_first f n]; grind
theorem sumq_rev (f : Nat → Rat) : ∀ n,sumq (fun i => f (n - i)) (n + 1) = sumq f (n + 1)
 | 0 => rfl
 | n + 1 => by
  rw [sumq_first]
  show f (n + 1) + sumq (fun i => f (n + 1 - (i + 1))) (n + 1) = sumq f (n + 1) + f (n + 1)
  rw [sumq_congr (fun i => f (n + 1 - (i + 1))) (fun i => f (n - i)) (n + 1) (fun i _ => by show f (n + 1 - (i + 1)) = f (n - i); rw [show n + 1 - (i + 1) = n - i by omega]),sumq_rev f n]
  grind
theorem sumq_tri (F : Nat → Nat → Rat) : ∀ N,sumq (fun p => sumq (fun i => F i (p - i)) (p + 1)) N = sumq (fun i => sumq (fun k => F i k) (N - i)) N
 | 0 => rfl
 | N + 1 => by
  show sumq (fun p => sumq (fun i => F i (p - i)) (p + 1)) N + (sumq (fun i => F i (N - i)) N + F N (N - N)) = sumq (fun i => sumq (fun k => F i k) (N + 1 - i)) N + sumq (fun k => F N k) (N + 1 - N)
  rw [sumq_tri F N,sumq_congr (fun i => sumq (fun k => F i k) (N + 1 - i)) (fun i => sumq (fun k => F i k) (N - i) + F i (N - i)) N (fun i hi => by show sumq (fun k => F i k) (N + 1 - i) = _; rw [show N + 1 - i = (N - i) + 1 by omega]; rfl),sumq_add,show N + 1 - N = 0 + 1 by omega]
  show _ = _ + (0 + F N 0)
  rw [show N - N = 0 by omega]
  grind
def cmul (f g : Nat → Rat) (p : Nat) : Rat := sumq (fun i => f i * g (p - i)) (p + 1)
theorem conv_cmul (n : Nat) (q : Nat → Rat) (m : Nat) (r : Nat → Rat) (p : Nat) : conv n q m r p = cmul (co n q) (co m r) p := rfl
theorem cmul_congr {f f' g g' : Nat → Rat} (h1 : ∀ i,f i = f' i) (h2 : ∀ i,g i = g' i) (p : Nat) : cmul f g p = cmul f' g' p := sumq_congr _ _ _ (fun i _ => by rw [h1,h2])
theorem cmul_comm (f g : Nat → Rat) (p : Nat) : cmul f g p = cmul g f p := by
 unfold cmul
 rw [← sumq_rev]
 refine sumq_congr _ _ _ (fun i hi => ?_)
 show f (p - i) * g (p - (p - i)) = g i * f (p - i)
 rw [show p - (p - i) = i by omega,Rat.mul_comm]
theorem cmul_assoc (f g h : Nat → Rat) (p : Nat) : cmul (cmul f g) h p = cmul f (cmul g h) p := by
 have t := sumq_tri (fun j k => f j * g k * h (p - (j + k))) (p + 1)
 have l : cmul (cmul f g) h p = sumq (fun i => sumq (fun j => f j * g (i - j) * h (p - (j + (i - j)))) (i + 1)) (p + 1) := by
  refine sumq_congr _ _ _ (fun i hi => ?_)
  show sumq (fun j => f j * g (i - j)) (i + 1) * h (p - i) = _
  rw [← sumq_scale]
  refine sumq_congr _ _ _ (fun j hj => ?_)
  show f j * g (i - j) * h (p - i) = f j * g (i - j) * h (p - (j + (i - j)))
  rw [show j + (i - j) = i by omega]
 rw [l]
 refine t.trans ?_
 refine sumq_congr _ _ _ (fun j hj => ?_)
 show sumq (fun k => f j * g k * h (p - (j + k))) (p + 1 - j) = f j * sumq (fun k => g k * h (p - j - k)) (p - j + 1)
 rw [← sumq_scaleL,show p + 1 - j = p - j + 1 by omega]
 refine sumq_congr _ _ _ (fun k hk => ?_)
 show f j * g k * h (p - (j + k)) = f j * (g k * h (p - j - k))
 rw [show p - (j + k) = p - j - k by omega,Rat.mul_assoc]
def cone (i : Nat) : Rat := if i = 0 then 1 else 0
theorem cmul_one (g : Nat → Rat) (p : Nat) : cmul cone g p = g p := by
 unfold cmul
 rw [sumq_first,sumq_zero _ p (fun i _ => by show cone (i + 1) * _ = 0; unfold cone; rw [if_neg (by omega)]; grind)]
 show cone 0 * g (p - 0) + 0 = g p
 unfold cone
 rw [if_pos rfl,Nat.sub_zero]
 grind
def cpow (f : Nat → Rat) : Nat → Nat → Rat
 | 0 => cone
 | k + 1 => cmul (cpow f k) f
theorem cpow_add (f : Nat → Rat) (a : Nat) : ∀ b p,cmul (cpow f a) (cpow f b) p = cpow f (a + b) p
 | 0,p => by rw [cmul_comm]; exact cmul_one _ p
 | b + 1,p => by
  show cmul (cpow f a) (cmul (cpow f b) f) p = cmul (cpow f (a + b)) f p
  rw [← cmul_assoc]
  exact cmul_congr (cpow_add f a b) (fun _ => rfl) p
theorem evN_sum (q : Nat → Rat) (x : Rat) : ∀ n,evN q x n = sumq (fun i => q i * x ^ i) n
 | 0 => rfl
 | n + 1 => by show evN q x n + q n * x ^ n = sumq (fun i => q i * x ^ i) n + q n * x ^ n; rw [evN_sum q x n]
theorem evN_congr {q r : Nat → Rat} (x : Rat) : ∀ n,(∀ i,i < n → q i = r i) → evN q x n = evN r x n
 | 0,_ => rfl
 | n + 1,h => by show evN q x n + q n * x ^ n = evN r x n + r n * x ^ n; rw [evN_congr x n (fun i hi => h i (by omega)),h n (by omega)]
theorem evN_more (q : Nat → Rat) (x : Rat) (n : Nat) (h : ∀ i,n ≤ i → q i = 0) : ∀ k,evN q x (n + k) = evN q x n
 | 0 => rfl
 | k + 1 => by show evN q x (n + k) + q (n + k) * x ^ (n + k) = _; rw [evN_more q x n h k,h (n + k) (by omega)]; grind
theorem evN_co (n : Nat) (q : Nat → Rat) (x : Rat) : evN (co n q) x n = evN q x n := evN_congr x n (fun i hi => if_pos hi)
theorem evN_any (n : Nat) (q : Nat → Rat) (x : Rat) (N : Nat) (h : n ≤ N) : evN (co n q) x N = evN q x n := by
 rw [show N = n + (N - n) by omega,evN_more (co n q) x n (fun i hi => if_neg (by omega)),evN_co]
theorem pow_add_rat (x : Rat) (a : Nat) : ∀ b,x ^ (a + b) = x ^ a * x ^ b
 | 0 => by rw [Nat.add_zero,Rat.pow_zero,Rat.mul_one]
 | b + 1 => by rw [← Nat.add_assoc,Rat.pow_succ,pow_add_rat x a b,Rat.pow_succ,Rat.mul_assoc]
theorem evN_conv (n : Nat) (q : Nat → Rat) (m : Nat) (r : Nat → Rat) (x : Rat) : evN (conv n q m r) x (n + m) = evN q x n * evN r x m := by
 have t := sumq_tri (fun i k => co n q i * x ^ i * (co m r k * x ^ k)) (n + m)
 rw [evN_sum]
 have l : sumq (fun p => conv n q m r p * x ^ p) (n + m) = sumq (fun p => sumq (fun i => co n q i * x ^ i * (co m r (p - i) * x ^ (p - i))) (p + 1)) (n + m) := by
  refine sumq_congr _ _ _ (fun p hp => ?_)
  show sumq (fun i => co n q i * co m r (p - i)) (p + 1) * x ^ p = _
  rw [← sumq_scale]
  refine sumq_congr _ _ _ (fun i hi => ?_)
  show co n q i * co m r (p - i) * x ^ p = co n q i * x ^ i * (co m r (p - i) * x ^ (p - i))
  rw [show x ^ p = x ^ i * x ^ (p - i) by rw [← pow_add_rat,show i + (p - i) = p by omega]]
  grind
 rw [l]
 refine t.trans ?_
 have e : ∀ i,i < n + m → sumq (fun k => co n q i * x ^ i * (co m r k * x ^ k)) (n + m - i) = co n q i * x ^ i * evN r x m := by
  intro i hi
  rw [sumq_scaleL,← evN_sum (co m r) x]
  by_cases h : i < n
  ·rw [evN_any m r x _ (by omega)]
  ·rw [show co n q i = 0 from if_neg h]; grind
 rw [sumq_congr _ _ _ e,sumq_scale (fun i => co n q i * x ^ i),← evN_sum (co n q) x,evN_any n q x _ (by omega)]

def IForm (n : Nat) (q : Nat → Rat) (h : Nat) : Prop := ∃ (D : Int) (z : Nat → Int),D ≠ 0 ∧ nl W32 D.natAbs ≤ h ∧ ∀ i,i < n → q i * (D : Rat) = (z i : Rat) ∧ nl W32 (z i).natAbs ≤ h
theorem intc_ne {D : Int} (h : D ≠ 0) : (D : Rat) ≠ 0 := fun e => h (by exact_mod_cast e)
theorem IForm.le {n : Nat} {q : Nat → Rat} {h k : Nat} (f : IForm n q h) (hk : h ≤ k) : IForm n q k := by
 obtain ⟨D,z,h1,h2,h3⟩ := f
 exact ⟨D,z,h1,Nat.le_trans h2 hk,fun i hi => ⟨(h3 i hi).1,Nat.le_trans (h3 i hi).2 hk⟩⟩
theorem IForm.less {n m : Nat} {q : Nat → Rat} {h : Nat} (f : IForm n q h) (hm : m ≤ n) : IForm m q h := by
 obtain ⟨D,z,h1,h2,h3⟩ := f
 exact ⟨D,z,h1,h2,fun i hi => h3 i (by omega)⟩
theorem IForm.sz {n : Nat} {q : Nat → Rat} {h : Nat} (f : IForm n q h) (hh : 1 ≤ h) (i : Nat) (hi : i < n) : qsz (q i) ≤ h := by
 obtain ⟨D,z,h1,h2,h3⟩ := f
 obtain ⟨h4,h5⟩ := h3 i hi
 have hD := intc_ne h1
 have key : ∀ d y : Rat,d ≠ 0 → q i * d = y → q i = y / d := fun d y hd h => by rw [← h,Rat.div_def,Rat.mul_assoc,Rat.mul_inv_cancel _ hd,Rat.mul_one]
 rcases Int.natAbs_eq D with hs | hs
 ·have : q i = mkRat (z i) D.natAbs := by
   rw [Rat.mkRat_eq_div,← Rat.intCast_natCast,← hs]
   exact key _ _ hD h4
  rw [this]; exact nl_num_mkRat _ _ _ h5 h2 hh
 ·have hs2 : ((D.natAbs : Int) : Rat) = -(D : Rat) := by
   have : (D.natAbs : Int) = -D := by omega
   rw [this,Rat.intCast_neg]
  have : q i = mkRat (-(z i)) D.natAbs := by
   rw [Rat.mkRat_eq_div,← Rat.intCast_natCast,hs2]
   refine key _ _ (fun e => hD (by grind)) ?_
   rw [Rat.intCast_neg,← h4]
   grind
  rw [this]; exact nl_num_mkRat _ _ _ (nlz_neg h5) h2 hh
theorem IForm.step {m below k H hb : Nat} {R b : Nat → Rat} (fR : IForm m R H) (fb : IForm (below + 1) b hb) (htop : b below ≠ 0) (hk : k + below < m) : IForm m (stepR b below k R) (H + hb + 1) := by
 obtain ⟨E,Z,e1,e2,e3⟩ := fR
 obtain ⟨D,y,d1,d2,d3⟩ := fb
 have hyb := (d3 below (by omega)).1
 have hy0 : y below ≠ 0 := by
  intro e
  rw [e] at hyb
  rcases Rat.mul_eq_zero.1 (hyb.trans rfl) with h | h
  ·exact htop h
  ·exact intc_ne d1 h
 refine ⟨E * y below,fun j => if k ≤ j ∧ j < k + below then Z j * y below - Z (k + below) * y (j - k) else Z j * y below,Int.mul_ne_zero e1 hy0,nlz_mul e2 (d3 below (by omega)).2 (by omega),fun j hj => ?_⟩
 have hRj := (e3 j hj).1
 have hRt := (e3 (k + below) hk).1
 show stepR b below k R j * _ = _ ∧ _
 unfold stepR
 by_cases h : k ≤ j ∧ j < k + below
 ·simp only [if_pos h]
  have hyj := (d3 (j - k) (by omega)).1
  have hc : R (k + below) / b below * b below = R (k + below) := Rat.div_mul_cancel htop
  refine ⟨?_,?_⟩
  ·rw [Rat.intCast_mul,Rat.intCast_sub,Rat.intCast_mul,Rat.intCast_mul,← hyb,← hyj,← hRj,← hRt]
   generalize R (k + below) / b below = c at *
   rw [← hc]
   grind
  ·rw [Int.sub_eq_add_neg]
   exact nlz_add (nlz_mul (e3 j hj).2 (d3 below (by omega)).2 (Nat.le_refl _)) (nlz_neg (nlz_mul (e3 (k + below) hk).2 (d3 (j - k) (by omega)).2 (Nat.le_refl _))) (by omega) (by omega)
 ·simp only [if_neg h]
  refine ⟨?_,nlz_mul (e3 j hj).2 (d3 below (by omega)).2 (by omega)⟩
  rw [Rat.intCast_mul,Rat.intCast_mul,← hRj,Rat.mul_assoc]
theorem IForm.div {m below hb : Nat} {b : Nat → Rat} (fb : IForm (below + 1) b hb) (htop : b below ≠ 0) : ∀ (k H : Nat) (R : Nat → Rat),IForm m R H → k + below ≤ m → IForm m (divR b below k R) (H + k * (hb + 1))
 | 0,H,R,f,_ => f.le (by omega)
 | k + 1,H,R,f,hk => by
  have h := IForm.div fb htop k (H + hb + 1) (stepR b below k R) (f.step fb htop (by omega)) (by omega)
  refine IForm.le (show IForm m (divR b below (k + 1) R) _ from h) ?_
  rw [Nat.succ_mul]; omega
theorem allS_form {m below hb S : Nat} {b : Nat → Rat} (fb : IForm (below + 1) b hb) (htop : b below ≠ 0) : ∀ (k H : Nat) (R : Nat → Rat),IForm m R H → 1 ≤ H → k + below ≤ m → H + k * (hb + 1) ≤ S → allS m b below S k R
 | 0,H,R,f,h1,_,hS => fun i hi => Nat.le_trans (f.sz h1 i hi) (by omega)
 | k + 1,H,R,f,h1,hk,hS => by
  rw [Nat.succ_mul] at hS
  exact ⟨fun i hi => Nat.le_trans (f.sz h1 i hi) (by omega),allS_form fb htop k (H + hb + 1) (stepR b below k R) (f.step fb htop (by omega)) (by omega) (by omega) (by omega)⟩
theorem IForm.monic {n t h : Nat} {q : Nat → Rat} (f : IForm n q h) (ht : t < n) (h0 : q t ≠ 0) : IForm n (fun i => q i * (q t)⁻¹) h := by
 obtain ⟨D,z,h1,h2,h3⟩ := f
 have hz := (h3 t ht).1
 have hz0 : z t ≠ 0 := by
  intro e
  rw [e] at hz
  rcases Rat.mul_eq_zero.1 (hz.trans rfl) with h | h
  ·exact h0 h
  ·exact intc_ne h1 h
 refine ⟨z t,z,hz0,(h3 t ht).2,fun i hi => ⟨?_,(h3 i hi).2⟩⟩
 show q i * (q t)⁻¹ * (z t : Rat) = z i
 rw [← (h3 i hi).1,← hz,Rat.mul_assoc,← Rat.mul_assoc (q t)⁻¹,Rat.inv_mul_cancel _ h0,Rat.one_mul]
theorem IForm.of_sz (L : Nat) (q : Nat → Rat) : ∀ n,(∀ i,i < n → qsz (q i) ≤ L) → IForm n q (n * L + 1)
 | 0,_ => ⟨1,fun _ => 0,by decide,Nat.le_trans nlw_one (by omega),fun i hi => by omega⟩
 | n + 1,h => by
  obtain ⟨D,z,h1,h2,h3⟩ := IForm.of_sz L q n (fun i hi => h i (by omega))
  have hd : nl W32 ((q n).den : Int).natAbs ≤ L := by rw [Int.natAbs_natCast]; exact Nat.le_trans (qsz_den _) (h n (by omega))
  have hn : nl W32 (q n).num.natAbs ≤ L := Nat.le_trans (qsz_num _) (h n (by omega))
  have hq : q n * (((q n).den : Int) : Rat) = ((q n).num : Rat) := by
   have h := mkRat_mul_den (q n).num (q n).den (Nat.pos_of_ne_zero (q n).den_nz)
   rw [Rat.mkRat_self] at h
   rw [Rat.intCast_natCast]; exact h
  refine ⟨D * ((q n).den : Int),fun i => if i < n then z i * ((q n).den : Int) else (q n).num * D,Int.mul_ne_zero h1 (by have := (q n).den_nz; omega),nlz_mul h2 hd (by rw [Nat.succ_mul]; omega),fun i hi => ?_⟩
  by_cases e : i < n
  ·simp only [if_pos e]
   refine ⟨?_,nlz_mul (h3 i e).2 hd (by rw [Nat.succ_mul]; omega)⟩
   rw [Rat.intCast_mul,Rat.intCast_mul,← (h3 i e).1,Rat.mul_assoc]
  ·obtain rfl : i = n := by omega
   simp only [if_neg e]
   refine ⟨?_,nlz_mul hn h2 (by rw [Nat.succ_mul]; omega)⟩
   rw [Rat.intCast_mul,Rat.intCast_mul,← hq]
   grind
theorem sum_form {D : Rat} {f : Nat → Rat} {z : Nat → Int} {L : Nat} : ∀ n,(∀ i,i < n → f i * D = (z i : Rat) ∧ nl W32 (z i).natAbs ≤ L) → ∃ s : Int,sumq f n * D = (s : Rat) ∧ nl W32 s.natAbs ≤ L + n
 | 0,_ => ⟨0,by show (0 : Rat) * D = ((0 : Int) : Rat); rw [Rat.zero_mul]; rfl,Nat.le_trans (by decide) (Nat.zero_le _)⟩
 | n + 1,h => by
  obtain ⟨s,h1,h2⟩ := sum_form n (fun i hi => h i (by omega))
  obtain ⟨h3,h4⟩ := h n (by omega)
  refine ⟨s + z n,?_,nlz_add h2 h4 (by omega) (by omega)⟩
  show (sumq f n + f n) * D = _
  rw [Rat.add_mul,h1,h3,Rat.intCast_add]
theorem IForm.conv {n m h1 h2 N : Nat} {q r : Nat → Rat} (f : IForm n q h1) (g : IForm m r h2) : IForm N (conv n q m r) (h1 + h2 + N) := by
 obtain ⟨D,z,d1,d2,d3⟩ := f
 obtain ⟨E,y,e1,e2,e3⟩ := g
 have hex : ∀ p,p < N → ∃ s : Int,Go.Proofs.YtnbocjbfieklhaaGreatDoor.conv n q m r p * ((D * E : Int) : Rat) = (s : Rat) ∧ nl W32 s.natAbs ≤ h1 + h2 + N := by
  intro p hp
  obtain ⟨s,s1,s2⟩ := sum_form (D := ((D * E : Int) : Rat)) (f := fun i => co n q i * co m r (p - i)) (z := fun i => if i < n ∧ p - i < m then z i * y (p - i) else 0) (L := h1 + h2) (p + 1) (fun i hi => by
   by_cases h : i < n ∧ p - i < m
   ·simp only [if_pos h,co_lt h.1,co_lt h.2]
    refine ⟨?_,nlz_mul (d3 i h.1).2 (e3 _ h.2).2 (Nat.le_refl _)⟩
    rw [Rat.intCast_mul,Rat.intCast_mul,← (d3 i h.1).1,← (e3 _ h.2).1]
    grind
   ·simp only [if_neg h]
    refine ⟨?_,Nat.le_trans (by decide) (Nat.zero_le _)⟩
    have : co n q i * co m r (p - i) = 0 := by
     by_cases a : i < n
     ·rw [co_ge (n := m) (by omega),Rat.mul_zero]
     ·rw [co_ge (n := n) a,Rat.zero_mul]
    rw [this,Rat.zero_mul]; rfl)
  exact ⟨s,s1,Nat.le_trans s2 (by omega)⟩
 exact ⟨D * E,fun p => if h : p < N then Classical.choose (hex p h) else 0,Int.mul_ne_zero d1 e1,nlz_mul d2 e2 (by omega),fun p hp => by
  simp only [dif_pos hp]
  exact Classical.choose_spec (hex p hp)⟩

def Dv (d f : Nat → Rat) : Prop := ∃ (h : Nat → Rat) (N : Nat),(∀ i,N ≤ i → h i = 0) ∧ ∀ i,f i = cmul d h i
theorem cmul_add (f g h : Nat → Rat) (p : Nat) : cmul f (fun i => g i + h i) p = cmul f g p + cmul f h p := by
 unfold cmul
 rw [← sumq_add]
 exact sumq_congr _ _ _ (fun i _ => Rat.mul_add _ _ _)
theorem cmul_scale (f g : Nat → Rat) (s : Rat) (p : Nat) : cmul f (fun i => g i * s) p = cmul f g p * s := by
 unfold cmul
 rw [← sumq_scale]
 exact sumq_congr _ _ _ (fun i _ => by show f i * (g (p - i) * s) = f i * g (p - i) * s; rw [Rat.mul_assoc])
theorem cmul_far {f g : Nat → Rat} {N M : Nat} (hf : ∀ i,N ≤ i → f i = 0) (hg : ∀ i,M ≤ i → g i = 0) (p : Nat) (hp : N + M ≤ p) : cmul f g p = 0 := by
 refine sumq_zero _ _ (fun i hi => ?_)
 by_cases h : N ≤ i
 ·rw [hf i h,Rat.zero_mul]
 ·rw [hg (p - i) (by omega),Rat.mul_zero]
theorem Dv.congr {d f g : Nat → Rat} (h : Dv d f) (e : ∀ i,f i = g i) : Dv d g := by
 obtain ⟨k,N,h1,h2⟩ := h
 exact ⟨k,N,h1,fun i => (e i).symm.trans (h2 i)⟩
theorem Dv.add {d f g : Nat → Rat} (h : Dv d f) (k : Dv d g) : Dv d (fun i => f i + g i) := by
 obtain ⟨a,N,h1,h2⟩ := h
 obtain ⟨b,M,k1,k2⟩ := k
 exact ⟨fun i => a i + b i,max N M,fun i hi => by show a i + b i = 0; rw [h1 i (by omega),k1 i (by omega),Rat.add_zero],fun i => by rw [cmul_add,← h2,← k2]⟩
theorem Dv.scale {d f : Nat → Rat} (h : Dv d f) (s : Rat) : Dv d (fun i => f i * s) := by
 obtain ⟨a,N,h1,h2⟩ := h
 exact ⟨fun i => a i * s,N,fun i hi => by show a i * s = 0; rw [h1 i hi,Rat.zero_mul],fun i => by rw [cmul_scale,← h2]⟩
theorem Dv.mul {d f g : Nat → Rat} {M : Nat} (h : Dv d f) (hg : ∀ i,M ≤ i → g i = 0) : Dv d (cmul g f) := by
 obtain ⟨a,N,h1,h2⟩ := h
 refine ⟨cmul a g,N + M,fun i hi => cmul_far h1 hg i hi,fun i => ?_⟩
 rw [cmul_comm,cmul_congr h2 (fun _ => rfl),cmul_assoc]
theorem Dv.zero (d : Nat → Rat) : Dv d (fun _ => 0) := ⟨fun _ => 0,0,fun _ _ => rfl,fun i => (sumq_zero _ _ (fun j _ => Rat.mul_zero _)).symm⟩
theorem Dv.self (d : Nat → Rat) : Dv d d := ⟨cone,1,fun i hi => by unfold cone; rw [if_neg (by omega)],fun i => by rw [cmul_comm,cmul_one]⟩
theorem Dv.times {d g : Nat → Rat} {M : Nat} (hg : ∀ i,M ≤ i → g i = 0) : Dv d (cmul g d) := (Dv.self d).mul hg
theorem Dv.rest {d a b r q : Nat → Rat} {M : Nat} (hq : ∀ i,M ≤ i → q i = 0) (e : ∀ i,a i = cmul q b i + r i) (hb : Dv d b) : Dv d a ↔ Dv d r := by
 have hm := hb.mul hq
 constructor
 ·intro ha
  exact (ha.add (hm.scale (-1))).congr (fun i => by rw [e i]; grind)
 ·intro hr
  exact (hm.add hr).congr (fun i => (e i).symm)
theorem cmul_top {lg : Nat} {g k : Nat → Rat} {t : Nat} (hlg : 0 < lg) (hk : ∀ i,t < i → k i = 0) : cmul (co lg g) k (lg - 1 + t) = g (lg - 1) * k t := by
 have e : cmul (co lg g) k (lg - 1 + t) = sumq (fun i => if i = lg - 1 then co lg g i * k (lg - 1 + t - i) else 0) (lg - 1 + t + 1) := by
  refine sumq_congr _ _ _ (fun i hi => ?_)
  by_cases h : i = lg - 1
  ·rw [if_pos h]
  ·rw [if_neg h]
   by_cases h2 : i < lg
   ·rw [hk (lg - 1 + t - i) (by omega),Rat.mul_zero]
   ·rw [co_ge h2,Rat.zero_mul]
 rw [e,sumq_single,if_pos (by omega),co_lt (by omega),show lg - 1 + t - (lg - 1) = t by omega]
theorem Dv.short {lg : Nat} {g r : Nat → Rat} (hlg : 0 < lg) (htop : g (lg - 1) ≠ 0) (h : Dv (co lg g) r) (hr : ∀ i,lg - 1 ≤ i → r i = 0) (i : Nat) : r i = 0 := by
 obtain ⟨k,N,h1,h2⟩ := h
 have hz : trimN k N = 0 := by
  rcases Nat.eq_zero_or_pos (trimN k N) with h | h
  ·exact h
  ·have ht := trimN_top k N h
   have hk : ∀ i,trimN k N - 1 < i → k i = 0 := fun i hi => by
    by_cases hin : i < N
    ·exact trimN_zero k N i (by omega) hin
    ·exact h1 i (by omega)
   have e := cmul_top (lg := lg) (g := g) (k := k) hlg hk
   rw [← h2,hr _ (by omega)] at e
   rcases Rat.mul_eq_zero.1 e.symm with h | h
   ·exact absurd h htop
   ·exact absurd h ht
 have hk0 : ∀ i,k i = 0 := fun i => by
  by_cases hin : i < N
  ·exact trimN_zero k N i (by omega) hin
  ·exact h1 i (by omega)
 rw [h2]
 exact sumq_zero _ _ (fun j _ => by rw [hk0,Rat.mul_zero])
end Go.Proofs.YtnbocjbfieklhaaGreatDoor

namespace Go.Proofs.YtnbocjbfieklhaaGreatDoor
open Go.RowKit
set_option linter.unusedVariables false
set_option linter.unusedSimpArgs false
theorem qsz_ps (n : Nat) (q : Nat → Rat) (m : Nat) (r : Nat → Rat) (L M p : Nat) (hq : ∀ i,i < n → qsz (q i) ≤ L) (hr : ∀ i,i < m → qsz (r i) ≤ M) (hL : 1 ≤ L) (hM : 1 ≤ M) : ∀ k,k ≤ p + 1 → qsz (sumq (fun i => co n q i * co m r (p - i)) k) ≤ (k - (p + 1 - m)) * (L + M + 1) + 1
 | 0,_ => Nat.le_trans qsz_nil (by omega)
 | k + 1,hk => by
  have ih := qsz_ps n q m r L M p hq hr hL hM k (by omega)
  show qsz (sumq (fun i => co n q i * co m r (p - i)) k + co n q k * co m r (p - k)) ≤ _
  by_cases h : p - k < m
  ·have hp := qsz_mul _ _ (co_sz hq hL k) (co_sz hr hM (p - k))
   refine Nat.le_trans (qsz_add _ _ ih hp) ?_
   rw [show k + 1 - (p + 1 - m) = (k - (p + 1 - m)) + 1 by omega,Nat.succ_mul]
   omega
  ·rw [co_ge h,Rat.mul_zero,Rat.add_zero]
   exact Nat.le_trans ih (Nat.succ_le_succ (Nat.mul_le_mul_right _ (by omega)))
theorem conv_sz2 {n : Nat} {q : Nat → Rat} {m : Nat} {r : Nat → Rat} {L M : Nat} (hq : ∀ i,i < n → qsz (q i) ≤ L) (hr : ∀ i,i < m → qsz (r i) ≤ M) (hL : 1 ≤ L) (hM : 1 ≤ M) (p : Nat) : qsz (conv n q m r p) ≤ m * (L + M + 1) + 1 :=
 Nat.le_trans (qsz_ps n q m r L M p hq hr hL hM (p + 1) (Nat.le_refl _)) (Nat.succ_le_succ (Nat.mul_le_mul_right _ (by omega)))
set_option maxRecDepth 20000 in
set_option maxHeartbeats 8000000 in
theorem times4_at (u v : Value) (n m : Nat) (q r : Nat → Rat) (L M E : Nat) (w : World) (hu : QRow w u n q L) (hv : QRow w v m r M) (ht : Tab w) (hn : n ≤ 100) (hm : m ≤ 100) (hL : 1 ≤ L) (hM : 1 ≤ M) (hE : m * (L + M + 1) + 1 ≤ E) (hE2 : E + L + M ≤ 100000) :
  Calls Tryz.prog 12 #[u,v] w fun e w' => ∃ x,e = .returned x ∧ FOwn w.heap.size w' x (n + m) (conv n q m r) ∧ Below w.heap.size w w' := by
 have sQ : ∀ i,i < n → qsz (q i) ≤ L := fun i hi => hu.sz hL i hi
 have sR : ∀ i,i < m → qsz (r i) ≤ M := fun i hi => hv.sz hM i hi
 obtain ⟨ua,uc,rfl,_,_,_⟩ := hu.open
 obtain ⟨va,vc,rfl,_,_,_⟩ := hv.open
 obtain ⟨N,hN⟩ : ∃ N,N = n + m := ⟨_,rfl⟩
 have i1 : (n : Int) + (m : Int) = (N : Int) := by omega
 have i2 : IntKind.i64.wrap (N : Int) = (N : Int) := by rw [IntKind.wrap_i64]; omega
 have hN2 : N ≤ 200 := by omega
 have HN : Hid (N = n + m) := hN
 rw [← hN]
 clear hN
 have hu0 := hu
 have hv0 := hv
 have ht0 := ht
 clear hu hv ht
 have BB : Below w.heap.size w w := Below.refl _ _
 go_enter Tryz.func12,Tryz.ntmps12
 go_wp2
 go_loopw [5,6] (fun vo vi wr => ∃ (p : Nat),p ≤ N ∧ vi = .int .i64 (p : Int) ∧ FOwn w.heap.size wr vo p (conv n q m r) ∧ Below w.heap.size w wr) (fun _ vi _ => N - (intOf vi).toNat)
 case atStart => exact ⟨0,by omega,rfl,FOwn.nil _ _ _,BB⟩
 case round =>
  clear BB
  obtain ⟨p,hp,rfl,OC,BB⟩ := hrel
  obtain ⟨oa,oc,rfl⟩ := OC.row.open
  by_cases hlt : p < N
  ·have hli : (p : Int) < (N : Int) := by omega
   have HPS : Hid (∀ k,k ≤ p + 1 → qsz (sumq (fun i => co n q i * co m r (p - i)) k) ≤ E) := fun k hk => Nat.le_trans (qsz_ps n q m r L M p sQ sR hL hM k hk) (Nat.le_trans (Nat.succ_le_succ (Nat.mul_le_mul_right _ (show k - (p + 1 - m) ≤ m by omega))) hE)
   have HT : Hid (∀ i,sumq (fun i => co n q i * co m r (p - i)) (i + 1) = sumq (fun i => co n q i * co m r (p - i)) i + co n q i * co m r (p - i)) := fun _ => rfl
   go_wp2_with fail
   refine (qzero_at _).mono ?_
   rintro e w1 ⟨x1,rfl,hr,b1⟩
   replace OC := OC.below b1
   replace BB := BB.trans (b1.mono BB.size)
   clear b1
   obtain ⟨p3,a3,n3,c3,bo3,m3,d3,rfl⟩ := hr.open
   have hOl := OC.ltH
   have HWS : Hid (w1.heap.size = w1.heap.size) := rfl
   have hZ1 : w.heap.size ≤ w1.heap.size := BB.size
   obtain ⟨W1,hW1,hS1,hL1,VS⟩ := V3.lay w1 35 (.bool p3) (.slice a3 n3 c3) (.slice bo3 m3 d3)
   replace OC := OC.below hL1
   replace hr := hr.below hL1
   replace BB := BB.trans (hL1.mono BB.size)
   clear hL1
   go_wp2
   rw [← hW1]
   generalize w1.heap.size = R1 at *
   clear hW1 hS1
   have HNE : Hid (∀ g,Value.ownBlock (.slice oa p oc) = some g → g ≠ R1) := fun g hg => by have := hOl.out g hg; omega
   clear hOl HWS
   have hRS : Hid (w.heap.size ≤ R1) := hZ1
   clear hZ1
   go_loopw [8] (fun vi wr => ∃ (i : Nat) (p3 : Bool) (a3 : Option Addr) (n3 c3 : Nat) (bo3 : Option Addr) (m3 d3 : Nat),i ≤ p + 1 ∧ vi = .int .i64 (i : Int) ∧ V3 wr R1 (.bool p3) (.slice a3 n3 c3) (.slice bo3 m3 d3) ∧ RepQ wr (.agg #[.bool p3,.slice a3 n3 c3,.slice bo3 m3 d3]) (sumq (fun i => co n q i * co m r (p - i)) i) ∧ FOwn w.heap.size wr (.slice oa p oc) p (conv n q m r) ∧ Below w.heap.size w wr) (fun vi _ => p + 1 - (intOf vi).toNat)
   case atStart => exact ⟨0,p3,a3,n3,c3,bo3,m3,d3,by omega,rfl,VS,hr,OC,BB⟩
   case round =>
    clear VS hr OC BB
    obtain ⟨i,p3,a3,n3,c3,bo3,m3,d3,hi,rfl,VS,hO,OC,BB⟩ := hrel
    by_cases hlt2 : i ≤ p
    ·have hli2 : (i : Int) ≤ (p : Int) := by omega
     obtain ⟨t,ht_⟩ : ∃ t,t = p - i := ⟨_,rfl⟩
     have j1 : (p : Int) - (i : Int) = (t : Int) := by omega
     have j2 : IntKind.i64.wrap (t : Int) = (t : Int) := by rw [IntKind.wrap_i64]; omega
     have ht2 : t ≤ 200 := by omega
     have sO := HPS.out i (by omega)
     have HT2 := HT.out i
     rw [← ht_] at HT2
     have HT3 : Hid (sumq (fun i => co n q i * co m r (p - i)) (i + 1) = sumq (fun i => co n q i * co m r (p - i)) i + co n q i * co m r t) := HT2
     clear HT2 ht_
     have sqi := co_sz sQ hL i
     have srt := co_sz sR hM t
     have hRS2 := hRS.out
     generalize sumq (fun i => co n q i * co m r (p - i)) i = ev at *
     have hu := hu0.below BB
     have hv := hv0.below BB
     have ht := ht0.below BB
     go_wp2
     refine wp_region_until 11 #[true,true,true,true,true,true,true,true,true,true,true,false] (fun aF lsd a' w' => ∃ vu0 vu1 vu2 vu3 vu4 vu5 vu6 vu7 vu8 vu9 vu10 : Value,a' = ((((((((((aF.put (some 24) vu0).put (some 25) vu1).put (some 26) vu2).put (some 27) vu3).put (some 28) vu4).put (some 29) vu5).put (some 30) vu6).put (some 31) vu7).put (some 32) vu8).put (some 33) vu9).put (some 34) vu10 ∧ Below wr.heap.size wr w' ∧ (lsd.getD 0 false = true → vu0 = .agg #[.bool p3,.slice a3 n3 c3,.slice bo3 m3 d3]) ∧ (lsd.getD 1 false = true → vu1 = .slice ua n uc) ∧ (lsd.getD 2 false = true → vu2 = .int .i64 (i : Int)) ∧ (lsd.getD 3 false = true → RatAt w' vu3 (co n q i) L) ∧ (lsd.getD 4 false = true → vu4 = .slice va m vc) ∧ (lsd.getD 5 false = true → vu5 = .int .i64 (p : Int)) ∧ (lsd.getD 6 false = true → vu6 = .int .i64 (i : Int)) ∧ (lsd.getD 7 false = true → vu7 = .int .i64 (t : Int)) ∧ (lsd.getD 8 false = true → RatAt w' vu8 (co m r t) M) ∧ (lsd.getD 9 false = true → RepQ w' vu9 (co n q i * co m r t)) ∧ (lsd.getD 10 false = true → RepQ w' vu10 (ev + co n q i * co m r t))) (by kernel_rfl) (by decide) (by kernel_rfl) (by rfl) (by kernel_rfl) ?_ ?_ ?_
     ·exact ⟨_,_,_,_,_,_,_,_,_,_,_,by simp only [Act.put,xL4,xL5,xL6]; rfl,(Below.refl _ _).drew,fun h => absurd h (fun h => mark_none h),fun h => absurd h (fun h => mark_none h),fun h => absurd h (fun h => mark_none h),fun h => absurd h (fun h => mark_none h),fun h => absurd h (fun h => mark_none h),fun h => absurd h (fun h => mark_none h),fun h => absurd h (fun h => mark_none h),fun h => absurd h (fun h => mark_none h),fun h => absurd h (fun h => mark_none h),fun h => absurd h (fun h => mark_none h),fun h => absurd h (fun h => mark_none h)⟩
     ·rintro lsd au wn iu hszu ⟨vu0,vu1,vu2,vu3,vu4,vu5,vu6,vu7,vu8,vu9,vu10,rfl,hbu,fu0,fu1,fu2,fu3,fu4,fu5,fu6,fu7,fu8,fu9,fu10⟩ himu hru
      rcases (show iu = 0 ∨ iu = 1 ∨ iu = 2 ∨ iu = 3 ∨ iu = 4 ∨ iu = 5 ∨ iu = 6 ∨ iu = 7 ∨ iu = 8 ∨ iu = 9 ∨ iu = 10 by omega) with rfl | rfl | rfl | rfl | rfl | rfl | rfl | rfl | rfl | rfl | rfl
      ·refine wpOp_shut (by rfl) (fun K hK => ?_)
       simp only [Act.put,xL4,xL5,xL6]
       obtain ⟨VS_0,VS_1,VS_2,VS_3,VS_4,VS_5⟩ := VS.below hbu
       go_simp
       exact hK.out _ _ ⟨(.agg #[.bool p3,.slice a3 n3 c3,.slice bo3 m3 d3]),vu1,vu2,vu3,vu4,vu5,vu6,vu7,vu8,vu9,vu10,by simp only [Act.put,xL4,xL5,xL6],hbu,fun _ => rfl,fun h => fu1 (mark_of (by decide) h),fun h => fu2 (mark_of (by decide) h),fun h => fu3 (mark_of (by decide) h),fun h => fu4 (mark_of (by decide) h),fun h => fu5 (mark_of (by decide) h),fun h => fu6 (mark_of (by decide) h),fun h => fu7 (mark_of (by decide) h),fun h => fu8 (mark_of (by decide) h),fun h => fu9 (mark_of (by decide) h),fun h => fu10 (mark_of (by decide) h)⟩
      ·refine wpOp_shut (by rfl) (fun K hK => ?_)
       simp only [Act.put,xL4,xL5,xL6]
       go_simp
       exact hK.out _ _ ⟨vu0,(.slice ua n uc),vu2,vu3,vu4,vu5,vu6,vu7,vu8,vu9,vu10,by simp only [Act.put,xL4,xL5,xL6],hbu,fun h => fu0 (mark_of (by decide) h),fun _ => rfl,fun h => fu2 (mark_of (by decide) h),fun h => fu3 (mark_of (by decide) h),fun h => fu4 (mark_of (by decide) h),fun h => fu5 (mark_of (by decide) h),fun h => fu6 (mark_of (by decide) h),fun h => fu7 (mark_of (by decide) h),fun h => fu8 (mark_of (by decide) h),fun h => fu9 (mark_of (by decide) h),fun h => fu10 (mark_of (by decide) h)⟩
      ·refine wpOp_shut (by rfl) (fun K hK => ?_)
       simp only [Act.put,xL4,xL5,xL6]
       go_simp
       exact hK.out _ _ ⟨vu0,vu1,(.int .i64 (i : Int)),vu3,vu4,vu5,vu6,vu7,vu8,vu9,vu10,by simp only [Act.put,xL4,xL5,xL6],hbu,fun h => fu0 (mark_of (by decide) h),fun h => fu1 (mark_of (by decide) h),fun _ => rfl,fun h => fu3 (mark_of (by decide) h),fun h => fu4 (mark_of (by decide) h),fun h => fu5 (mark_of (by decide) h),fun h => fu6 (mark_of (by decide) h),fun h => fu7 (mark_of (by decide) h),fun h => fu8 (mark_of (by decide) h),fun h => fu9 (mark_of (by decide) h),fun h => fu10 (mark_of (by decide) h)⟩
      ·have eu1 := fu1 (dep_of 1 hru rfl (by kernel_rfl))
       have eu2 := fu2 (dep_of 2 hru rfl (by kernel_rfl))
       replace eu1 := eu1.symm
       subst eu1
       replace eu2 := eu2.symm
       subst eu2
       refine wpOp_shut (by rfl) (fun K hK => ?_)
       simp only [Act.put,xL4,xL5,xL6]
       go_simp
       refine (at4_at _ n i q L _ (hu.below hbu) (by omega) (by omega) hL).mono ?_
       rintro eu wx ⟨x1,rfl,h3,bu⟩
       go_wp2_with fail
       have hbu2 := hbu.trans (bu.mono hbu.size)
       exact hK.out _ _ ⟨vu0,(.slice ua n uc),(.int .i64 (i : Int)),_,vu4,vu5,vu6,vu7,vu8,vu9,vu10,by simp only [Act.put,xL4,xL5,xL6],hbu2,fun h => fu0 (mark_of (by decide) h),fun _ => rfl,fun _ => rfl,fun _ => h3,fun h => fu4 (mark_of (by decide) h),fun h => fu5 (mark_of (by decide) h),fun h => fu6 (mark_of (by decide) h),fun h => fu7 (mark_of (by decide) h),fun h => (fu8 (mark_of (by decide) h)).below bu,fun h => (fu9 (mark_of (by decide) h)).below bu,fun h => (fu10 (mark_of (by decide) h)).below bu⟩
      ·refine wpOp_shut (by rfl) (fun K hK => ?_)
       simp only [Act.put,xL4,xL5,xL6]
       go_simp
       exact hK.out _ _ ⟨vu0,vu1,vu2,vu3,(.slice va m vc),vu5,vu6,vu7,vu8,vu9,vu10,by simp only [Act.put,xL4,xL5,xL6],hbu,fun h => fu0 (mark_of (by decide) h),fun h => fu1 (mark_of (by decide) h),fun h => fu2 (mark_of (by decide) h),fun h => fu3 (mark_of (by decide) h),fun _ => rfl,fun h => fu5 (mark_of (by decide) h),fun h => fu6 (mark_of (by decide) h),fun h => fu7 (mark_of (by decide) h),fun h => fu8 (mark_of (by decide) h),fun h => fu9 (mark_of (by decide) h),fun h => fu10 (mark_of (by decide) h)⟩
      ·refine wpOp_shut (by rfl) (fun K hK => ?_)
       simp only [Act.put,xL4,xL5,xL6]
       go_simp
       exact hK.out _ _ ⟨vu0,vu1,vu2,vu3,vu4,(.int .i64 (p : Int)),vu6,vu7,vu8,vu9,vu10,by simp only [Act.put,xL4,xL5,xL6],hbu,fun h => fu0 (mark_of (by decide) h),fun h => fu1 (mark_of (by decide) h),fun h => fu2 (mark_of (by decide) h),fun h => fu3 (mark_of (by decide) h),fun h => fu4 (mark_of (by decide) h),fun _ => rfl,fun h => fu6 (mark_of (by decide) h),fun h => fu7 (mark_of (by decide) h),fun h => fu8 (mark_of (by decide) h),fun h => fu9 (mark_of (by decide) h),fun h => fu10 (mark_of (by decide) h)⟩
      ·refine wpOp_shut (by rfl) (fun K hK => ?_)
       simp only [Act.put,xL4,xL5,xL6]
       go_simp
       exact hK.out _ _ ⟨vu0,vu1,vu2,vu3,vu4,vu5,(.int .i64 (i : Int)),vu7,vu8,vu9,vu10,by simp only [Act.put,xL4,xL5,xL6],hbu,fun h => fu0 (mark_of (by decide) h),fun h => fu1 (mark_of (by decide) h),fun h => fu2 (mark_of (by decide) h),fun h => fu3 (mark_of (by decide) h),fun h => fu4 (mark_of (by decide) h),fun h => fu5 (mark_of (by decide) h),fun _ => rfl,fun h => fu7 (mark_of (by decide) h),fun h => fu8 (mark_of (by decide) h),fun h => fu9 (mark_of (by decide) h),fun h => fu10 (mark_of (by decide) h)⟩
      ·have eu5 := fu5 (dep_of 5 hru rfl (by kernel_rfl))
       have eu6 := fu6 (dep_of 6 hru rfl (by kernel_rfl))
       replace eu5 := eu5.symm
       subst eu5
       replace eu6 := eu6.symm
       subst eu6
       refine wpOp_shut (by rfl) (fun K hK => ?_)
       simp only [Act.put,xL4,xL5,xL6]
       go_simp
       exact hK.out _ _ ⟨vu0,vu1,vu2,vu3,vu4,(.int .i64 (p : Int)),(.int .i64 (i : Int)),(.int .i64 (t : Int)),vu8,vu9,vu10,by simp only [Act.put,xL4,xL5,xL6],hbu,fun h => fu0 (mark_of (by decide) h),fun h => fu1 (mark_of (by decide) h),fun h => fu2 (mark_of (by decide) h),fun h => fu3 (mark_of (by decide) h),fun h => fu4 (mark_of (by decide) h),fun _ => rfl,fun _ => rfl,fun _ => rfl,fun h => fu8 (mark_of (by decide) h),fun h => fu9 (mark_of (by decide) h),fun h => fu10 (mark_of (by decide) h)⟩
      ·have eu4 := fu4 (dep_of 4 hru rfl (by kernel_rfl))
       have eu7 := fu7 (dep_of 7 hru rfl (by kernel_rfl))
       replace eu4 := eu4.symm
       subst eu4
       replace eu7 := eu7.symm
       subst eu7
       have h3 := fu3 (dep_of 3 hru rfl (by kernel_rfl))
       refine wpOp_shut (by rfl) (fun K hK => ?_)
       simp only [Act.put,xL4,xL5,xL6]
       go_simp
       refine (at4_at _ m t r M _ (hv.below hbu) (by omega) (by omega) hM).mono ?_
       rintro eu wx ⟨x2,rfl,h8,bu⟩
       go_wp2_with fail
       have hbu2 := hbu.trans (bu.mono hbu.size)
       exact hK.out _ _ ⟨vu0,vu1,vu2,vu3,(.slice va m vc),vu5,vu6,(.int .i64 (t : Int)),_,vu9,vu10,by simp only [Act.put,xL4,xL5,xL6],hbu2,fun h => fu0 (mark_of (by decide) h),fun h => fu1 (mark_of (by decide) h),fun h => fu2 (mark_of (by decide) h),fun h => (fu3 (mark_of (by decide) h)).below bu,fun _ => rfl,fun h => fu5 (mark_of (by decide) h),fun h => fu6 (mark_of (by decide) h),fun _ => rfl,fun _ => h8,fun h => (fu9 (mark_of (by decide) h)).below bu,fun h => (fu10 (mark_of (by decide) h)).below bu⟩
      ·have h3 := fu3 (dep_of 3 hru rfl (by kernel_rfl))
       have h8 := fu8 (dep_of 8 hru rfl (by kernel_rfl))
       refine wpOp_shut (by rfl) (fun K hK => ?_)
       simp only [Act.put,xL4,xL5,xL6]
       go_simp
       refine (qmul_at _ _ (co n q i) (co m r t) (L + M) _ (h3.le (by omega)) (h8.le (by omega)) (by omega) (by omega) (ht.below hbu)).mono ?_
       rintro eu wx ⟨x3,rfl,h9,bu⟩
       go_wp2_with fail
       have hbu2 := hbu.trans (bu.mono hbu.size)
       exact hK.out _ _ ⟨vu0,vu1,vu2,vu3,vu4,vu5,vu6,vu7,vu8,_,vu10,by simp only [Act.put,xL4,xL5,xL6],hbu2,fun h => fu0 (mark_of (by decide) h),fun h => fu1 (mark_of (by decide) h),fun h => fu2 (mark_of (by decide) h),fun h => (fu3 (mark_of (by decide) h)).below bu,fun h => fu4 (mark_of (by decide) h),fun h => fu5 (mark_of (by decide) h),fun h => fu6 (mark_of (by decide) h),fun h => fu7 (mark_of (by decide) h),fun h => (fu8 (mark_of (by decide) h)).below bu,fun _ => h9,fun h => (fu10 (mark_of (by decide) h)).below bu⟩
      ·have eu0 := fu0 (dep_of 0 hru rfl (by kernel_rfl))
       replace eu0 := eu0.symm
       subst eu0
       have h9 := fu9 (dep_of 9 hru rfl (by kernel_rfl))
       refine wpOp_shut (by rfl) (fun K hK => ?_)
       simp only [Act.put,xL4,xL5,xL6]
       have hO := hO.below hbu
       go_simp
       refine (qadd_at _ _ ev (co n q i * co m r t) (E + L + M) _ (hO.at _ (by omega)) (h9.at _ (Nat.le_trans (qsz_mul _ _ sqi srt) (by omega))) (by omega) (by omega) (ht.below hbu)).mono ?_
       rintro eu wx ⟨x4,rfl,hr,bu⟩
       go_wp2_with fail
       have hbu2 := hbu.trans (bu.mono hbu.size)
       exact hK.out _ _ ⟨(.agg #[.bool p3,.slice a3 n3 c3,.slice bo3 m3 d3]),vu1,vu2,vu3,vu4,vu5,vu6,vu7,vu8,vu9,_,by simp only [Act.put,xL4,xL5,xL6],hbu2,fun _ => rfl,fun h => fu1 (mark_of (by decide) h),fun h => fu2 (mark_of (by decide) h),fun h => (fu3 (mark_of (by decide) h)).below bu,fun h => fu4 (mark_of (by decide) h),fun h => fu5 (mark_of (by decide) h),fun h => fu6 (mark_of (by decide) h),fun h => fu7 (mark_of (by decide) h),fun h => (fu8 (mark_of (by decide) h)).below bu,fun h => (fu9 (mark_of (by decide) h)).below bu,fun _ => hr⟩
     rintro au Wu1 ⟨vu0,vu1,vu2,vu3,vu4,vu5,vu6,vu7,vu8,vu9,vu10,rfl,hbu,fu0,fu1,fu2,fu3,fu4,fu5,fu6,fu7,fu8,fu9,fu10⟩
     have eu0 := (fu0 rfl).symm
     subst eu0
     have eu1 := (fu1 rfl).symm
     subst eu1
     have eu2 := (fu2 rfl).symm
     subst eu2
     have h3 := fu3 rfl
     have eu4 := (fu4 rfl).symm
     subst eu4
     have eu5 := (fu5 rfl).symm
     subst eu5
     have eu6 := (fu6 rfl).symm
     subst eu6
     have eu7 := (fu7 rfl).symm
     subst eu7
     have h8 := fu8 rfl
     have h9 := fu9 rfl
     have hr := fu10 rfl
     clear fu0 fu1 fu2 fu3 fu4 fu5 fu6 fu7 fu8 fu9 fu10
     have hlVS : R1 < wr.heap.size := VS.lt
     replace hO := hO.below hbu
     replace OC := OC.below hbu
     replace VS := VS.below hbu
     replace BB := BB.trans (hbu.mono BB.size)
     clear hbu
     obtain ⟨p5,a5,n5,c5,bo5,m5,d5,rfl⟩ := hr.open
     simp only [Act.put,xL4,xL5,xL6]
     refine xR [11] (h := ?_)
     refine AllReadyH.cons (by rfl) (fun K hK => ?_) AllReadyH.nil
     have hKp := VS.keepJ (.bool p5) (.slice a5 n5 c5) (.slice bo5 m5 d5)
     have VS_n := VS.same (.bool p5) (.slice a5 n5 c5) (.slice bo5 m5 d5)
     have hO_n := hO.keep hKp
     have OC_n := OC.far (grown_set3 Wu1 (R1) (.bool p5) (.slice a5 n5 c5) (.slice bo5 m5 d5)) hKp HNE.out
     have h3_n := h3.keep hKp
     have h8_n := h8.keep hKp
     have h9_n := h9.keep hKp
     have hr_n := hr.keep hKp
     have BB_n := below_store3 (R := R1) BB (by omega) (.bool p5) (.slice a5 n5 c5) (.slice bo5 m5 d5)
     clear hKp
     obtain ⟨VS_0,VS_1,VS_2,VS_3,VS_4,VS_5⟩ := id VS
     go_simp
     clear VS_0 VS_1 VS_2 VS_3 VS_4 VS_5
     clear BB hO OC h3 h8 h9 hr VS
     generalize ((Wu1.setCell ⟨R1,0,none⟩ (.bool p5)).setCell ⟨R1,1,none⟩ (.slice a5 n5 c5)).setCell ⟨R1,2,none⟩ (.slice bo5 m5 d5) = W2 at *
     have BB := BB_n
     have hO := hO_n
     have OC := OC_n
     have h3 := h3_n
     have h8 := h8_n
     have h9 := h9_n
     have hr := hr_n
     have VS := VS_n
     clear BB_n hO_n OC_n h3_n h8_n h9_n hr_n VS_n
     refine hK.out _ _ trivial (fun _ => ?_)
     clear hK K
     simp only [Act.put,xL4,xL5,xL6]
     refine wpAnyH_done (by kernel_rfl) ?_ _
     go_wp2
     go_roundw
     case rel => exact ⟨i + 1,p5,a5,n5,c5,bo5,m5,d5,by omega,by go_num,VS,by rw [HT3.out]; exact hr,OC,BB⟩
     case measure => simp [intOf]; omega
    ·obtain rfl : i = p + 1 := by omega
     have hli2 : ¬ ((p + 1 : Nat) : Int) ≤ (p : Int) := by omega
     have hr : RepQ wr (.agg #[.bool p3,.slice a3 n3 c3,.slice bo3 m3 d3]) (conv n q m r p) := hO
     clear hO
     obtain ⟨VS_0,VS_1,VS_2,VS_3,VS_4,VS_5⟩ := id VS
     obtain ⟨us,el',o1,o2,o3,o4⟩ := id OC
     have hul : us.length = (p) * 3 := o1.1
     have HO3 : Hid (∀ i',i' < p → ∀ j,j < 3 → us[i' * 3 + j]? = some (el' i' j)) := o3
     have HO4 : Hid (∀ i',i' < p → RepQ wr (.agg #[el' i' 0,el' i' 1,el' i' 2]) ((conv n q m r) i')) := o4
     have hPO : Hid (∀ g0,Value.ownBlock (.slice oa p oc) = some g0 → PureB IsNum wr g0) := o2
     have hOb : Hid (∀ g0,Value.ownBlock (.slice oa p oc) = some g0 → w.heap.size ≤ g0) := fun g0 hg0 => (o1.lt g0 hg0).1
     clear o2 o3 o4
     have A9 : Below wr.heap.size wr (wr.alloc (.cells #[.bool p3,.slice a3 n3 c3,.slice bo3 m3 d3] 35)) := (Below.refl _ _).alloc (Nat.le_refl _) _
     go_wp2_with (at_builtin; refine wpList_append_pure (Q' := IsNum) rfl _ _ _ rfl w.heap.size 35 (.agg #[.bool false,.slice none 0 0,.slice none 0 0]) 3 56 Tryz.underlying22 info_wrat rfl (by omega) (.slice oa p oc) rfl (p) us (o1.alloc _) (fun g0 hg0 => (hPO.out g0 hg0).below A9 (o1.lt g0 hg0).2) ⟨wr.heap.size,0,none⟩ 1 rfl [.bool p3,.slice a3 n3 c3,.slice bo3 m3 d3] rfl (news_block (heap_alloc_new _ _)) (by simp [Value.oneCell']) (by simp [num_slice,num_bool]) (by simp [Value.cells,num_slice,num_bool]) (by omega) (by omega) (by have := BB.size; simp; omega) ?_)
     intro gz capz wz ho5 hg5 hat5 hp5 hk5
     replace hat5 : Value.ownBlock (.slice oa p oc) = some gz ∨ gz = (wr.alloc (.cells #[.bool p3,.slice a3 n3 c3,.slice bo3 m3 d3] 35)).heap.size := by rw [World.size_alloc]; exact hat5
     have X_n : FOwn w.heap.size wz (.slice (some ⟨gz,0,none⟩) (p + 1) capz) (p + 1) (conv n q m r) := FOwn.more ho5 hp5 hul HO3.out (fun i' hi' => (HO4.out i' hi').below A9) (hr.below A9) hk5
     have BB_n : Below w.heap.size w wz := below_grownB (BB.trans (A9.mono BB.size)) hg5 (by have := BB.size; have := A9.size; omega) (fun g0 hg0 => hOb.out g0 hg0)
     clear OC
     have OC := X_n
     clear BB
     have BB := BB_n
     clear X_n BB_n A9 o1 hPO HO3 HO4 hOb hul ho5 hg5 hat5 hp5 hk5 hr
     clear VS VS_0 VS_1 VS_2 VS_3 VS_4 VS_5
     go_wp2
     go_roundw
     case rel => exact ⟨p + 1,by omega,by go_num,OC,BB⟩
     case measure => simp [intOf]; omega
  ·obtain rfl : p = N := by omega
   have hli : ¬ (p : Int) < (p : Int) := by omega
   go_wp2
   go_ret
   exact ⟨_,rfl,OC,BB⟩
end Go.Proofs.YtnbocjbfieklhaaGreatDoor
