/-
  Texts of mine, joined: what lies beneath the statement.
-/
import Derived.Test.YtnbocjbfieklhaaGreatDoorJ3c12b2c2a0
import Derived.Test.YtnbocjbfieklhaaGreatDoorJfec7ad940f
import Derived.Test.YtnbocjbfieklhaaGreatDoorJb016ad185a
namespace Go.Proofs.YtnbocjbfieklhaaGreatDoor
set_option linter.unusedVariables false
theorem sumq_scale (f : Nat → Rat) (s : Rat) : ∀ n,sumq (fun i => f i * s) n = sumq f n * s
 | 0 => by show (0 : Rat) = 0 * s; grind
 | n + 1 => by show sumq (fun i => f i * s) n + f n * s = (sumq f n + f n) * s; rw [sumq_scale f s n]; grind
theorem sumq_scaleL (f : Nat → Rat) (s : Rat) : ∀ n,sumq (fun i => s * f i) n = s * sumq f n
 | 0 => by show (0 : Rat) = s * 0; grind
 | n + 1 => by show sumq (fun i => s * f i) n + s * f n = s * (sumq f n + f n); rw [sumq_scaleL f s n]; grind
theorem sumq_first (f : Nat → Rat) : ∀ n,sumq f (n + 1) = f 0 + sumq (fun i => f (i + 1)) n
 | 0 => by show (0 : Rat) + f 0 = f 0 + 0; grind
 | n + 1 => by show sumq f (n + 1) + f (n + 1) = f 0 + (sumq (fun i => f (i + 1)) n + f (n + 1)); rw [sumq_first f n]; grind
theorem sumq_rev (f : Nat → Rat) : ∀ n,sumq (fun i => f (n - i)) (n + 1) = sumq f (n + 1)
 | 0 => rfl
 | n + 1 => by
  rw [sumq_first]
  show f (n + 1) + sumq (fun i => f (n + 1 - (i + 1))) (n + 1) = sumq f (n + 1) + f (n + 1)
  rw [sumq_congr (fun i => f (n + 1 - (i + 1))) (fun i => f (n - i)) (n + 1) (fun i _ => by show f (n + 1 - (i + 1)) = f (n - i); rw [show n + 1 - (i + 1) = n - i by omega]),sumq_rev f n]
  grind
theorem sumq_tri (F : Nat → Nat → Rat) : ∀ N,sumq (fun p => sumq (fun i => F i (p - i)) (p + 1)) N = sumq (fun i => sumq (fun k => F i k) (N - i)) N
 | 0 => rfl
 | N + 1 => by
  show sumq (fun p => sumq (fun i => F i (p - i)) (p + 1)) N + (sumq (fun i => F i (N - i)) N + F N (N - N)) = sumq (fun i => sumq (fun k => F i k) (N + 1 - i)) N + sumq (fun k => F N k) (N + 1 - N)
  rw [sumq_tri F N,sumq_congr (fun i => sumq (fun k => F i k) (N + 1 - i)) (fun i => sumq (fun k => F i k) (N - i) + F i (N - i)) N (fun i hi => by show sumq (fun k => F i k) (N + 1 - i) = _; rw [show N + 1 - i = (N - i) + 1 by omega]; rfl),sumq_add,show N + 1 - N = 0 + 1 by omega]
  show _ = _ + (0 + F N 0)
  rw [show N - N = 0 by omega]
  grind
def cmul (f g : Nat → Rat) (p : Nat) : Rat := sumq (fun i => f i * g (p - i)) (p + 1)
theorem conv_cmul (n : Nat) (q : Nat → Rat) (m : Nat) (r : Nat → Rat) (p : Nat) : conv n q m r p = cmul (co n q) (co m r) p := rfl
theorem cmul_congr {f f' g g' : Nat → Rat} (h1 : ∀ i,f i = f' i) (h2 : ∀ i,g i = g' i) (p : Nat) : cmul f g p = cmul f' g' p := sumq_congr _ _ _ (fun i _ => by rw [h1,h2])
theorem cmul_comm (f g : Nat → Rat) (p : Nat) : cmul f g p = cmul g f p := by
 unfold cmul
 rw [← sumq_rev]
 refine sumq_congr _ _ _ (fun i hi => ?_)
 show f (p - i) * g (p - (p - i)) = g i * f (p - i)
 rw [show p - (p - i) = i by omega,Rat.mul_comm]
theorem cmul_assoc (f g h : Nat → Rat) (p : Nat) : cmul (cmul f g) h p = cmul f (cmul g h) p := by
 have t := sumq_tri (fun j k => f j * g k * h (p - (j + k))) (p + 1)
 have l : cmul (cmul f g) h p = sumq (fun i => sumq (fun j => f j * g (i - j) * h (p - (j + (i - j)))) (i + 1)) (p + 1) := by
  refine sumq_congr _ _ _ (fun i hi => ?_)
  show sumq (fun j => f j * g (i - j)) (i + 1) * h (p - i) = _
  rw [← sumq_scale]
  refine sumq_congr _ _ _ (fun j hj => ?_)
  show f j * g (i - j) * h (p - i) = f j * g (i - j) * h (p - (j + (i - j)))
  rw [show j + (i - j) = i by omega]
 rw [l]
 refine t.trans ?_
 refine sumq_congr _ _ _ (fun j hj => ?_)
 show sumq (fun k => f j * g k * h (p - (j + k))) (p + 1 - j) = f j * sumq (fun k => g k * h (p - j - k)) (p - j + 1)
 rw [← sumq_scaleL,show p + 1 - j = p - j + 1 by omega]
 refine sumq_congr _ _ _ (fun k hk => ?_)
 show f j * g k * h (p - (j + k)) = f j * (g k * h (p - j - k))
 rw [show p - (j + k) = p - j - k by omega,Rat.mul_assoc]
def cone (i : Nat) : Rat := if i = 0 then 1 else 0
theorem cmul_one (g : Nat → Rat) (p : Nat) : cmul cone g p = g p := by
 unfold cmul
 rw [sumq_first,sumq_zero _ p (fun i _ => by show cone (i + 1) * _ = 0; unfold cone; rw [if_neg (by omega)]; grind)]
 show cone 0 * g (p - 0) + 0 = g p
 unfold cone
 rw [if_pos rfl,Nat.sub_zero]
 grind
def cpow (f : Nat → Rat) : Nat → Nat → Rat
 | 0 => cone
 | k + 1 => cmul (cpow f k) f
theorem cpow_add (f : Nat → Rat) (a : Nat) : ∀ b p,cmul (cpow f a) (cpow f b) p = cpow f (a + b) p
 | 0,p => by rw [cmul_comm]; exact cmul_one _ p
 | b + 1,p => by
  show cmul (cpow f a) (cmul (cpow f b) f) p = cmul (cpow f (a + b)) f p
  rw [← cmul_assoc]
  exact cmul_congr (cpow_add f a b) (fun _ => rfl) p
theorem evN_sum (q : Nat → Rat) (x : Rat) : ∀ n,evN q x n = sumq (fun i => q i * x ^ i) n
 | 0 => rfl
 | n + 1 => by show evN q x n + q n * x ^ n = sumq (fun i => q i * x ^ i) n + q n * x ^ n; rw [evN_sum q x n]
theorem evN_congr {q r : Nat → Rat} (x : Rat) : ∀ n,(∀ i,i < n → q i = r i) → evN q x n = evN r x n
 | 0,_ => rfl
 | n + 1,h => by show evN q x n + q n * x ^ n = evN r x n + r n * x ^ n; rw [evN_congr x n (fun i hi => h i (by omega)),h n (by omega)]
theorem evN_more (q : Nat → Rat) (x : Rat) (n : Nat) (h : ∀ i,n ≤ i → q i = 0) : ∀ k,evN q x (n + k) = evN q x n
 | 0 => rfl
 | k + 1 => by show evN q x (n + k) + q (n + k) * x ^ (n + k) = _; rw [evN_more q x n h k,h (n + k) (by omega)]; grind
theorem evN_co (n : Nat) (q : Nat → Rat) (x : Rat) : evN (co n q) x n = evN q x n := evN_congr x n (fun i hi => if_pos hi)
theorem evN_any (n : Nat) (q : Nat → Rat) (x : Rat) (N : Nat) (h : n ≤ N) : evN (co n q) x N = evN q x n := by
 rw [show N = n + (N - n) by omega,evN_more (co n q) x n (fun i hi => if_neg (by omega)),evN_co]
theorem pow_add_rat (x : Rat) (a : Nat) : ∀ b,x ^ (a + b) = x ^ a * x ^ b
 | 0 => by rw [Nat.add_zero,Rat.pow_zero,Rat.mul_one]
 | b + 1 => by rw [← Nat.add_assoc,Rat.pow_succ,pow_add_rat x a b,Rat.pow_succ,Rat.mul_assoc]
theorem evN_conv (n : Nat) (q : Nat → Rat) (m : Nat) (r : Nat → Rat) (x : Rat) : evN (conv n q m r) x (n + m) = evN q x n * evN r x m := by
 have t := sumq_tri (fun i k => co n q i * x ^ i * (co m r k * x ^ k)) (n + m)
 rw [evN_sum]
 have l : sumq (fun p => conv n q m r p * x ^ p) (n + m) = sumq (fun p => sumq (fun i => co n q i * x ^ i * (co m r (p - i) * x ^ (p - i))) (p + 1)) (n + m) := by
  refine sumq_congr _ _ _ (fun p hp => ?_)
  show sumq (fun i => co n q i * co m r (p - i)) (p + 1) * x ^ p = _
  rw [← sumq_scale]
  refine sumq_congr _ _ _ (fun i hi => ?_)
  show co n q i * co m r (p - i) * x ^ p = co n q i * x ^ i * (co m r (p - i) * x ^ (p - i))
  rw [show x ^ p = x ^ i * x ^ (p - i) by rw [← pow_add_rat,show i + (p - i) = p by omega]]
  grind
 rw [l]
 refine t.trans ?_
 have e : ∀ i,i < n + m → sumq (fun k => co n q i * x ^ i * (co m r k * x ^ k)) (n + m - i) = co n q i * x ^ i * evN r x m := by
  intro i hi
  rw [sumq_scaleL,← evN_sum (co m r) x]
  by_cases h : i < n
  ·rw [evN_any m r x _ (by omega)]
  ·rw [show co n q i = 0 from if_neg h]; grind
 rw [sumq_congr _ _ _ e,sumq_scale (fun i => co n q i * x ^ i),← evN_sum (co n q) x,evN_any n q x _ (by omega)]
end Go.Proofs.YtnbocjbfieklhaaGreatDoor

namespace Go.Proofs.YtnbocjbfieklhaaGreatDoor
open Go.RowKit
set_option linter.unusedVariables false
set_option linter.unusedSimpArgs false
theorem qsz_ps (n : Nat) (q : Nat → Rat) (m : Nat) (r : Nat → Rat) (L M p : Nat) (hq : ∀ i,i < n → qsz (q i) ≤ L) (hr : ∀ i,i < m → qsz (r i) ≤ M) (hL : 1 ≤ L) (hM : 1 ≤ M) : ∀ k,k ≤ p + 1 → qsz (sumq (fun i => co n q i * co m r (p - i)) k) ≤ (k - (p + 1 - m)) * (L + M + 1) + 1
 | 0,_ => Nat.le_trans qsz_nil (by omega)
 | k + 1,hk => by
  have ih := qsz_ps n q m r L M p hq hr hL hM k (by omega)
  show qsz (sumq (fun i => co n q i * co m r (p - i)) k + co n q k * co m r (p - k)) ≤ _
  by_cases h : p - k < m
  ·have hp := qsz_mul _ _ (co_sz hq hL k) (co_sz hr hM (p - k))
   refine Nat.le_trans (qsz_add _ _ ih hp) ?_
   rw [show k + 1 - (p + 1 - m) = (k - (p + 1 - m)) + 1 by omega,Nat.succ_mul]
   omega
  ·rw [co_ge h,Rat.mul_zero,Rat.add_zero]
   exact Nat.le_trans ih (Nat.succ_le_succ (Nat.mul_le_mul_right _ (by omega)))
theorem conv_sz2 {n : Nat} {q : Nat → Rat} {m : Nat} {r : Nat → Rat} {L M : Nat} (hq : ∀ i,i < n → qsz (q i) ≤ L) (hr : ∀ i,i < m → qsz (r i) ≤ M) (hL : 1 ≤ L) (hM : 1 ≤ M) (p : Nat) : qsz (conv n q m r p) ≤ m * (L + M + 1) + 1 :=
 Nat.le_trans (qsz_ps n q m r L M p hq hr hL hM (p + 1) (Nat.le_refl _)) (Nat.succ_le_succ (Nat.mul_le_mul_right _ (by omega)))
set_option maxRecDepth 20000 in
set_option maxHeartbeats 8000000 in
theorem times4_at (u v : Value) (n m : Nat) (q r : Nat → Rat) (L M E : Nat) (w : World) (hu : QRow w u n q L) (hv : QRow w v m r M) (ht : Tab w) (hn : n ≤ 100) (hm : m ≤ 100) (hL : 1 ≤ L) (hM : 1 ≤ M) (hE : m * (L + M + 1) + 1 ≤ E) (hE2 : E + L + M ≤ 100000) :
  Calls Tryz.prog 12 #[u,v] w fun e w' => ∃ x,e = .returned x ∧ FOwn w.heap.size w' x (n + m) (conv n q m r) ∧ Below w.heap.size w w' := by
 have sQ : ∀ i,i < n → qsz (q i) ≤ L := fun i hi => hu.sz hL i hi
 have sR : ∀ i,i < m → qsz (r i) ≤ M := fun i hi => hv.sz hM i hi
 obtain ⟨ua,uc,rfl,_,_,_⟩ := hu.open
 obtain ⟨va,vc,rfl,_,_,_⟩ := hv.open
 obtain ⟨N,hN⟩ : ∃ N,N = n + m := ⟨_,rfl⟩
 have i1 : (n : Int) + (m : Int) = (N : Int) := by omega
 have i2 : IntKind.i64.wrap (N : Int) = (N : Int) := by rw [IntKind.wrap_i64]; omega
 have hN2 : N ≤ 200 := by omega
 have HN : Hid (N = n + m) := hN
 rw [← hN]
 clear hN
 have hu0 := hu
 have hv0 := hv
 have ht0 := ht
 clear hu hv ht
 have BB : Below w.heap.size w w := Below.refl _ _
 go_enter Tryz.func12,Tryz.ntmps12
 go_wp2
 go_loopw [5,6] (fun vo vi wr => ∃ (p : Nat),p ≤ N ∧ vi = .int .i64 (p : Int) ∧ FOwn w.heap.size wr vo p (conv n q m r) ∧ Below w.heap.size w wr) (fun _ vi _ => N - (intOf vi).toNat)
 case atStart => exact ⟨0,by omega,rfl,FOwn.nil _ _ _,BB⟩
 case round =>
  clear BB
  obtain ⟨p,hp,rfl,OC,BB⟩ := hrel
  obtain ⟨oa,oc,rfl⟩ := OC.row.open
  by_cases hlt : p < N
  ·have hli : (p : Int) < (N : Int) := by omega
   have HPS : Hid (∀ k,k ≤ p + 1 → qsz (sumq (fun i => co n q i * co m r (p - i)) k) ≤ E) := fun k hk => Nat.le_trans (qsz_ps n q m r L M p sQ sR hL hM k hk) (Nat.le_trans (Nat.succ_le_succ (Nat.mul_le_mul_right _ (show k - (p + 1 - m) ≤ m by omega))) hE)
   have HT : Hid (∀ i,sumq (fun i => co n q i * co m r (p - i)) (i + 1) = sumq (fun i => co n q i * co m r (p - i)) i + co n q i * co m r (p - i)) := fun _ => rfl
   go_wp2_with fail
   refine (qzero_at _).mono ?_
   rintro e w1 ⟨x1,rfl,hr,b1⟩
   replace OC := OC.below b1
   replace BB := BB.trans (b1.mono BB.size)
   clear b1
   obtain ⟨p3,a3,n3,c3,bo3,m3,d3,rfl⟩ := hr.open
   have hOl := OC.ltH
   have HWS : Hid (w1.heap.size = w1.heap.size) := rfl
   have hZ1 : w.heap.size ≤ w1.heap.size := BB.size
   obtain ⟨W1,hW1,hS1,hL1,VS⟩ := V3.lay w1 35 (.bool p3) (.slice a3 n3 c3) (.slice bo3 m3 d3)
   replace OC := OC.below hL1
   replace hr := hr.below hL1
   replace BB := BB.trans (hL1.mono BB.size)
   clear hL1
   go_wp2
   rw [← hW1]
   generalize w1.heap.size = R1 at *
   clear hW1 hS1
   have HNE : Hid (∀ g,Value.ownBlock (.slice oa p oc) = some g → g ≠ R1) := fun g hg => by have := hOl.out g hg; omega
   clear hOl HWS
   have hRS : Hid (w.heap.size ≤ R1) := hZ1
   clear hZ1
   go_loopw [8] (fun vi wr => ∃ (i : Nat) (p3 : Bool) (a3 : Option Addr) (n3 c3 : Nat) (bo3 : Option Addr) (m3 d3 : Nat),i ≤ p + 1 ∧ vi = .int .i64 (i : Int) ∧ V3 wr R1 (.bool p3) (.slice a3 n3 c3) (.slice bo3 m3 d3) ∧ RepQ wr (.agg #[.bool p3,.slice a3 n3 c3,.slice bo3 m3 d3]) (sumq (fun i => co n q i * co m r (p - i)) i) ∧ FOwn w.heap.size wr (.slice oa p oc) p (conv n q m r) ∧ Below w.heap.size w wr) (fun vi _ => p + 1 - (intOf vi).toNat)
   case atStart => exact ⟨0,p3,a3,n3,c3,bo3,m3,d3,by omega,rfl,VS,hr,OC,BB⟩
   case round =>
    clear VS hr OC BB
    obtain ⟨i,p3,a3,n3,c3,bo3,m3,d3,hi,rfl,VS,hO,OC,BB⟩ := hrel
    by_cases hlt2 : i ≤ p
    ·have hli2 : (i : Int) ≤ (p : Int) := by omega
     obtain ⟨t,ht_⟩ : ∃ t,t = p - i := ⟨_,rfl⟩
     have j1 : (p : Int) - (i : Int) = (t : Int) := by omega
     have j2 : IntKind.i64.wrap (t : Int) = (t : Int) := by rw [IntKind.wrap_i64]; omega
     have ht2 : t ≤ 200 := by omega
     have sO := HPS.out i (by omega)
     have HT2 := HT.out i
     rw [← ht_] at HT2
     have HT3 : Hid (sumq (fun i => co n q i * co m r (p - i)) (i + 1) = sumq (fun i => co n q i * co m r (p - i)) i + co n q i * co m r t) := HT2
     clear HT2 ht_
     have sqi := co_sz sQ hL i
     have srt := co_sz sR hM t
     have hRS2 := hRS.out
     generalize sumq (fun i => co n q i * co m r (p - i)) i = ev at *
     have hu := hu0.below BB
     have hv := hv0.below BB
     have ht := ht0.below BB
     go_wp2
     refine wp_region_until 11 #[true,true,true,true,true,true,true,true,true,true,true,false] (fun aF lsd a' w' => ∃ vu0 vu1 vu2 vu3 vu4 vu5 vu6 vu7 vu8 vu9 vu10 : Value,a' = ((((((((((aF.put (some 24) vu0).put (some 25) vu1).put (some 26) vu2).put (some 27) vu3).put (some 28) vu4).put (some 29) vu5).put (some 30) vu6).put (some 31) vu7).put (some 32) vu8).put (some 33) vu9).put (some 34) vu10 ∧ Below wr.heap.size wr w' ∧ (lsd.getD 0 false = true → vu0 = .agg #[.bool p3,.slice a3 n3 c3,.slice bo3 m3 d3]) ∧ (lsd.getD 1 false = true → vu1 = .slice ua n uc) ∧ (lsd.getD 2 false = true → vu2 = .int .i64 (i : Int)) ∧ (lsd.getD 3 false = true → RatAt w' vu3 (co n q i) L) ∧ (lsd.getD 4 false = true → vu4 = .slice va m vc) ∧ (lsd.getD 5 false = true → vu5 = .int .i64 (p : Int)) ∧ (lsd.getD 6 false = true → vu6 = .int .i64 (i : Int)) ∧ (lsd.getD 7 false = true → vu7 = .int .i64 (t : Int)) ∧ (lsd.getD 8 false = true → RatAt w' vu8 (co m r t) M) ∧ (lsd.getD 9 false = true → RepQ w' vu9 (co n q i * co m r t)) ∧ (lsd.getD 10 false = true → RepQ w' vu10 (ev + co n q i * co m r t))) (by kernel_rfl) (by decide) (by kernel_rfl) (by rfl) (by kernel_rfl) ?_ ?_ ?_
     ·exact ⟨_,_,_,_,_,_,_,_,_,_,_,by simp only [Act.put,xL4,xL5,xL6]; rfl,(Below.refl _ _).drew,fun h => absurd h (fun h => mark_none h),fun h => absurd h (fun h => mark_none h),fun h => absurd h (fun h => mark_none h),fun h => absurd h (fun h => mark_none h),fun h => absurd h (fun h => mark_none h),fun h => absurd h (fun h => mark_none h),fun h => absurd h (fun h => mark_none h),fun h => absurd h (fun h => mark_none h),fun h => absurd h (fun h => mark_none h),fun h => absurd h (fun h => mark_none h),fun h => absurd h (fun h => mark_none h)⟩
     ·rintro lsd au wn iu hszu ⟨vu0,vu1,vu2,vu3,vu4,vu5,vu6,vu7,vu8,vu9,vu10,rfl,hbu,fu0,fu1,fu2,fu3,fu4,fu5,fu6,fu7,fu8,fu9,fu10⟩ himu hru
      rcases (show iu = 0 ∨ iu = 1 ∨ iu = 2 ∨ iu = 3 ∨ iu = 4 ∨ iu = 5 ∨ iu = 6 ∨ iu = 7 ∨ iu = 8 ∨ iu = 9 ∨ iu = 10 by omega) with rfl | rfl | rfl | rfl | rfl | rfl | rfl | rfl | rfl | rfl | rfl
      ·refine wpOp_shut (by rfl) (fun K hK => ?_)
       simp only [Act.put,xL4,xL5,xL6]
       obtain ⟨VS_0,VS_1,VS_2,VS_3,VS_4,VS_5⟩ := VS.below hbu
       go_simp
       exact hK.out _ _ ⟨(.agg #[.bool p3,.slice a3 n3 c3,.slice bo3 m3 d3]),vu1,vu2,vu3,vu4,vu5,vu6,vu7,vu8,vu9,vu10,by simp only [Act.put,xL4,xL5,xL6],hbu,fun _ => rfl,fun h => fu1 (mark_of (by decide) h),fun h => fu2 (mark_of (by decide) h),fun h => fu3 (mark_of (by decide) h),fun h => fu4 (mark_of (by decide) h),fun h => fu5 (mark_of (by decide) h),fun h => fu6 (mark_of (by decide) h),fun h => fu7 (mark_of (by decide) h),fun h => fu8 (mark_of (by decide) h),fun h => fu9 (mark_of (by decide) h),fun h => fu10 (mark_of (by decide) h)⟩
      ·refine wpOp_shut (by rfl) (fun K hK => ?_)
       simp only [Act.put,xL4,xL5,xL6]
       go_simp
       exact hK.out _ _ ⟨vu0,(.slice ua n uc),vu2,vu3,vu4,vu5,vu6,vu7,vu8,vu9,vu10,by simp only [Act.put,xL4,xL5,xL6],hbu,fun h => fu0 (mark_of (by decide) h),fun _ => rfl,fun h => fu2 (mark_of (by decide) h),fun h => fu3 (mark_of (by decide) h),fun h => fu4 (mark_of (by decide) h),fun h => fu5 (mark_of (by decide) h),fun h => fu6 (mark_of (by decide) h),fun h => fu7 (mark_of (by decide) h),fun h => fu8 (mark_of (by decide) h),fun h => fu9 (mark_of (by decide) h),fun h => fu10 (mark_of (by decide) h)⟩
      ·refine wpOp_shut (by rfl) (fun K hK => ?_)
       simp only [Act.put,xL4,xL5,xL6]
       go_simp
       exact hK.out _ _ ⟨vu0,vu1,(.int .i64 (i : Int)),vu3,vu4,vu5,vu6,vu7,vu8,vu9,vu10,by simp only [Act.put,xL4,xL5,xL6],hbu,fun h => fu0 (mark_of (by decide) h),fun h => fu1 (mark_of (by decide) h),fun _ => rfl,fun h => fu3 (mark_of (by decide) h),fun h => fu4 (mark_of (by decide) h),fun h => fu5 (mark_of (by decide) h),fun h => fu6 (mark_of (by decide) h),fun h => fu7 (mark_of (by decide) h),fun h => fu8 (mark_of (by decide) h),fun h => fu9 (mark_of (by decide) h),fun h => fu10 (mark_of (by decide) h)⟩
      ·have eu1 := fu1 (dep_of 1 hru rfl (by kernel_rfl))
       have eu2 := fu2 (dep_of 2 hru rfl (by kernel_rfl))
       replace eu1 := eu1.symm
       subst eu1
       replace eu2 := eu2.symm
       subst eu2
       refine wpOp_shut (by rfl) (fun K hK => ?_)
       simp only [Act.put,xL4,xL5,xL6]
       go_simp
       refine (at4_at _ n i q L _ (hu.below hbu) (by omega) (by omega) hL).mono ?_
       rintro eu wx ⟨x1,rfl,h3,bu⟩
       go_wp2_with fail
       have hbu2 := hbu.trans (bu.mono hbu.size)
       exact hK.out _ _ ⟨vu0,(.slice ua n uc),(.int .i64 (i : Int)),_,vu4,vu5,vu6,vu7,vu8,vu9,vu10,by simp only [Act.put,xL4,xL5,xL6],hbu2,fun h => fu0 (mark_of (by decide) h),fun _ => rfl,fun _ => rfl,fun _ => h3,fun h => fu4 (mark_of (by decide) h),fun h => fu5 (mark_of (by decide) h),fun h => fu6 (mark_of (by decide) h),fun h => fu7 (mark_of (by decide) h),fun h => (fu8 (mark_of (by decide) h)).below bu,fun h => (fu9 (mark_of (by decide) h)).below bu,fun h => (fu10 (mark_of (by decide) h)).below bu⟩
      ·refine wpOp_shut (by rfl) (fun K hK => ?_)
       simp only [Act.put,xL4,xL5,xL6]
       go_simp
       exact hK.out _ _ ⟨vu0,vu1,vu2,vu3,(.slice va m vc),vu5,vu6,vu7,vu8,vu9,vu10,by simp only [Act.put,xL4,xL5,xL6],hbu,fun h => fu0 (mark_of (by decide) h),fun h => fu1 (mark_of (by decide) h),fun h => fu2 (mark_of (by decide) h),fun h => fu3 (mark_of (by decide) h),fun _ => rfl,fun h => fu5 (mark_of (by decide) h),fun h => fu6 (mark_of (by decide) h),fun h => fu7 (mark_of (by decide) h),fun h => fu8 (mark_of (by decide) h),fun h => fu9 (mark_of (by decide) h),fun h => fu10 (mark_of (by decide) h)⟩
      ·refine wpOp_shut (by rfl) (fun K hK => ?_)
       simp only [Act.put,xL4,xL5,xL6]
       go_simp
       exact hK.out _ _ ⟨vu0,vu1,vu2,vu3,vu4,(.int .i64 (p : Int)),vu6,vu7,vu8,vu9,vu10,by simp only [Act.put,xL4,xL5,xL6],hbu,fun h => fu0 (mark_of (by decide) h),fun h => fu1 (mark_of (by decide) h),fun h => fu2 (mark_of (by decide) h),fun h => fu3 (mark_of (by decide) h),fun h => fu4 (mark_of (by decide) h),fun _ => rfl,fun h => fu6 (mark_of (by decide) h),fun h => fu7 (mark_of (by decide) h),fun h => fu8 (mark_of (by decide) h),fun h => fu9 (mark_of (by decide) h),fun h => fu10 (mark_of (by decide) h)⟩
      ·refine wpOp_shut (by rfl) (fun K hK => ?_)
       simp only [Act.put,xL4,xL5,xL6]
       go_simp
       exact hK.out _ _ ⟨vu0,vu1,vu2,vu3,vu4,vu5,(.int .i64 (i : Int)),vu7,vu8,vu9,vu10,by simp only [Act.put,xL4,xL5,xL6],hbu,fun h => fu0 (mark_of (by decide) h),fun h => fu1 (mark_of (by decide) h),fun h => fu2 (mark_of (by decide) h),fun h => fu3 (mark_of (by decide) h),fun h => fu4 (mark_of (by decide) h),fun h => fu5 (mark_of (by decide) h),fun _ => rfl,fun h => fu7 (mark_of (by decide) h),fun h => fu8 (mark_of (by decide) h),fun h => fu9 (mark_of (by decide) h),fun h => fu10 (mark_of (by decide) h)⟩
      ·have eu5 := fu5 (dep_of 5 hru rfl (by kernel_rfl))
       have eu6 := fu6 (dep_of 6 hru rfl (by kernel_rfl))
       replace eu5 := eu5.symm
       subst eu5
       replace eu6 := eu6.symm
       subst eu6
       refine wpOp_shut (by rfl) (fun K hK => ?_)
       simp only [Act.put,xL4,xL5,xL6]
       go_simp
       exact hK.out _ _ ⟨vu0,vu1,vu2,vu3,vu4,(.int .i64 (p : Int)),(.int .i64 (i : Int)),(.int .i64 (t : Int)),vu8,vu9,vu10,by simp only [Act.put,xL4,xL5,xL6],hbu,fun h => fu0 (mark_of (by decide) h),fun h => fu1 (mark_of (by decide) h),fun h => fu2 (mark_of (by decide) h),fun h => fu3 (mark_of (by decide) h),fun h => fu4 (mark_of (by decide) h),fun _ => rfl,fun _ => rfl,fun _ => rfl,fun h => fu8 (mark_of (by decide) h),fun h => fu9 (mark_of (by decide) h),fun h => fu10 (mark_of (by decide) h)⟩
      ·have eu4 := fu4 (dep_of 4 hru rfl (by kernel_rfl))
       have eu7 := fu7 (dep_of 7 hru rfl (by kernel_rfl))
       replace eu4 := eu4.symm
       subst eu4
       replace eu7 := eu7.symm
       subst eu7
       have h3 := fu3 (dep_of 3 hru rfl (by kernel_rfl))
       refine wpOp_shut (by rfl) (fun K hK => ?_)
       simp only [Act.put,xL4,xL5,xL6]
       go_simp
       refine (at4_at _ m t r M _ (hv.below hbu) (by omega) (by omega) hM).mono ?_
       rintro eu wx ⟨x2,rfl,h8,bu⟩
       go_wp2_with fail
       have hbu2 := hbu.trans (bu.mono hbu.size)
       exact hK.out _ _ ⟨vu0,vu1,vu2,vu3,(.slice va m vc),vu5,vu6,(.int .i64 (t : Int)),_,vu9,vu10,by simp only [Act.put,xL4,xL5,xL6],hbu2,fun h => fu0 (mark_of (by decide) h),fun h => fu1 (mark_of (by decide) h),fun h => fu2 (mark_of (by decide) h),fun h => (fu3 (mark_of (by decide) h)).below bu,fun _ => rfl,fun h => fu5 (mark_of (by decide) h),fun h => fu6 (mark_of (by decide) h),fun _ => rfl,fun _ => h8,fun h => (fu9 (mark_of (by decide) h)).below bu,fun h => (fu10 (mark_of (by decide) h)).below bu⟩
      ·have h3 := fu3 (dep_of 3 hru rfl (by kernel_rfl))
       have h8 := fu8 (dep_of 8 hru rfl (by kernel_rfl))
       refine wpOp_shut (by rfl) (fun K hK => ?_)
       simp only [Act.put,xL4,xL5,xL6]
       go_simp
       refine (qmul_at _ _ (co n q i) (co m r t) (L + M) _ (h3.le (by omega)) (h8.le (by omega)) (by omega) (by omega) (ht.below hbu)).mono ?_
       rintro eu wx ⟨x3,rfl,h9,bu⟩
       go_wp2_with fail
       have hbu2 := hbu.trans (bu.mono hbu.size)
       exact hK.out _ _ ⟨vu0,vu1,vu2,vu3,vu4,vu5,vu6,vu7,vu8,_,vu10,by simp only [Act.put,xL4,xL5,xL6],hbu2,fun h => fu0 (mark_of (by decide) h),fun h => fu1 (mark_of (by decide) h),fun h => fu2 (mark_of (by decide) h),fun h => (fu3 (mark_of (by decide) h)).below bu,fun h => fu4 (mark_of (by decide) h),fun h => fu5 (mark_of (by decide) h),fun h => fu6 (mark_of (by decide) h),fun h => fu7 (mark_of (by decide) h),fun h => (fu8 (mark_of (by decide) h)).below bu,fun _ => h9,fun h => (fu10 (mark_of (by decide) h)).below bu⟩
      ·have eu0 := fu0 (dep_of 0 hru rfl (by kernel_rfl))
       replace eu0 := eu0.symm
       subst eu0
       have h9 := fu9 (dep_of 9 hru rfl (by kernel_rfl))
       refine wpOp_shut (by rfl) (fun K hK => ?_)
       simp only [Act.put,xL4,xL5,xL6]
       have hO := hO.below hbu
       go_simp
       refine (qadd_at _ _ ev (co n q i * co m r t) (E + L + M) _ (hO.at _ (by omega)) (h9.at _ (Nat.le_trans (qsz_mul _ _ sqi srt) (by omega))) (by omega) (by omega) (ht.below hbu)).mono ?_
       rintro eu wx ⟨x4,rfl,hr,bu⟩
       go_wp2_with fail
       have hbu2 := hbu.trans (bu.mono hbu.size)
       exact hK.out _ _ ⟨(.agg #[.bool p3,.slice a3 n3 c3,.slice bo3 m3 d3]),vu1,vu2,vu3,vu4,vu5,vu6,vu7,vu8,vu9,_,by simp only [Act.put,xL4,xL5,xL6],hbu2,fun _ => rfl,fun h => fu1 (mark_of (by decide) h),fun h => fu2 (mark_of (by decide) h),fun h => (fu3 (mark_of (by decide) h)).below bu,fun h => fu4 (mark_of (by decide) h),fun h => fu5 (mark_of (by decide) h),fun h => fu6 (mark_of (by decide) h),fun h => fu7 (mark_of (by decide) h),fun h => (fu8 (mark_of (by decide) h)).below bu,fun h => (fu9 (mark_of (by decide) h)).below bu,fun _ => hr⟩
     rintro au Wu1 ⟨vu0,vu1,vu2,vu3,vu4,vu5,vu6,vu7,vu8,vu9,vu10,rfl,hbu,fu0,fu1,fu2,fu3,fu4,fu5,fu6,fu7,fu8,fu9,fu10⟩
     have eu0 := (fu0 rfl).symm
     subst eu0
     have eu1 := (fu1 rfl).symm
     subst eu1
     have eu2 := (fu2 rfl).symm
     subst eu2
     have h3 := fu3 rfl
     have eu4 := (fu4 rfl).symm
     subst eu4
     have eu5 := (fu5 rfl).symm
     subst eu5
     have eu6 := (fu6 rfl).symm
     subst eu6
     have eu7 := (fu7 rfl).symm
     subst eu7
     have h8 := fu8 rfl
     have h9 := fu9 rfl
     have hr := fu10 rfl
     clear fu0 fu1 fu2 fu3 fu4 fu5 fu6 fu7 fu8 fu9 fu10
     have hlVS : R1 < wr.heap.size := VS.lt
     replace hO := hO.below hbu
     replace OC := OC.below hbu
     replace VS := VS.below hbu
     replace BB := BB.trans (hbu.mono BB.size)
     clear hbu
     obtain ⟨p5,a5,n5,c5,bo5,m5,d5,rfl⟩ := hr.open
     simp only [Act.put,xL4,xL5,xL6]
     refine xR [11] (h := ?_)
     refine AllReadyH.cons (by rfl) (fun K hK => ?_) AllReadyH.nil
     have hKp := VS.keepJ (.bool p5) (.slice a5 n5 c5) (.slice bo5 m5 d5)
     have VS_n := VS.same (.bool p5) (.slice a5 n5 c5) (.slice bo5 m5 d5)
     have hO_n := hO.keep hKp
     have OC_n := OC.far (grown_set3 Wu1 (R1) (.bool p5) (.slice a5 n5 c5) (.slice bo5 m5 d5)) hKp HNE.out
     have h3_n := h3.keep hKp
     have h8_n := h8.keep hKp
     have h9_n := h9.keep hKp
     have hr_n := hr.keep hKp
     have BB_n := below_store3 (R := R1) BB (by omega) (.bool p5) (.slice a5 n5 c5) (.slice bo5 m5 d5)
     clear hKp
     obtain ⟨VS_0,VS_1,VS_2,VS_3,VS_4,VS_5⟩ := id VS
     go_simp
     clear VS_0 VS_1 VS_2 VS_3 VS_4 VS_5
     clear BB hO OC h3 h8 h9 hr VS
     generalize ((Wu1.setCell ⟨R1,0,none⟩ (.bool p5)).setCell ⟨R1,1,none⟩ (.slice a5 n5 c5)).setCell ⟨R1,2,none⟩ (.slice bo5 m5 d5) = W2 at *
     have BB := BB_n
     have hO := hO_n
     have OC := OC_n
     have h3 := h3_n
     have h8 := h8_n
     have h9 := h9_n
     have hr := hr_n
     have VS := VS_n
     clear BB_n hO_n OC_n h3_n h8_n h9_n hr_n VS_n
     refine hK.out _ _ trivial (fun _ => ?_)
     clear hK K
     simp only [Act.put,xL4,xL5,xL6]
     refine wpAnyH_done (by kernel_rfl) ?_ _
     go_wp2
     go_roundw
     case rel => exact ⟨i + 1,p5,a5,n5,c5,bo5,m5,d5,by omega,by go_num,VS,by rw [HT3.out]; exact hr,OC,BB⟩
     case measure => simp [intOf]; omega
    ·obtain rfl : i = p + 1 := by omega
     have hli2 : ¬ ((p + 1 : Nat) : Int) ≤ (p : Int) := by omega
     have hr : RepQ wr (.agg #[.bool p3,.slice a3 n3 c3,.slice bo3 m3 d3]) (conv n q m r p) := hO
     clear hO
     obtain ⟨VS_0,VS_1,VS_2,VS_3,VS_4,VS_5⟩ := id VS
     obtain ⟨us,el',o1,o2,o3,o4⟩ := id OC
     have hul : us.length = (p) * 3 := o1.1
     have HO3 : Hid (∀ i',i' < p → ∀ j,j < 3 → us[i' * 3 + j]? = some (el' i' j)) := o3
     have HO4 : Hid (∀ i',i' < p → RepQ wr (.agg #[el' i' 0,el' i' 1,el' i' 2]) ((conv n q m r) i')) := o4
     have hPO : Hid (∀ g0,Value.ownBlock (.slice oa p oc) = some g0 → PureB IsNum wr g0) := o2
     have hOb : Hid (∀ g0,Value.ownBlock (.slice oa p oc) = some g0 → w.heap.size ≤ g0) := fun g0 hg0 => (o1.lt g0 hg0).1
     clear o2 o3 o4
     have A9 : Below wr.heap.size wr (wr.alloc (.cells #[.bool p3,.slice a3 n3 c3,.slice bo3 m3 d3] 35)) := (Below.refl _ _).alloc (Nat.le_refl _) _
     go_wp2_with (at_builtin; refine wpList_append_pure (Q' := IsNum) rfl _ _ _ rfl w.heap.size 35 (.agg #[.bool false,.slice none 0 0,.slice none 0 0]) 3 56 Tryz.underlying22 info_wrat rfl (by omega) (.slice oa p oc) rfl (p) us (o1.alloc _) (fun g0 hg0 => (hPO.out g0 hg0).below A9 (o1.lt g0 hg0).2) ⟨wr.heap.size,0,none⟩ 1 rfl [.bool p3,.slice a3 n3 c3,.slice bo3 m3 d3] rfl (news_block (heap_alloc_new _ _)) (by simp [Value.oneCell']) (by simp [num_slice,num_bool]) (by simp [Value.cells,num_slice,num_bool]) (by omega) (by omega) (by have := BB.size; simp; omega) ?_)
     intro gz capz wz ho5 hg5 hat5 hp5 hk5
     replace hat5 : Value.ownBlock (.slice oa p oc) = some gz ∨ gz = (wr.alloc (.cells #[.bool p3,.slice a3 n3 c3,.slice bo3 m3 d3] 35)).heap.size := by rw [World.size_alloc]; exact hat5
     have X_n : FOwn w.heap.size wz (.slice (some ⟨gz,0,none⟩) (p + 1) capz) (p + 1) (conv n q m r) := FOwn.more ho5 hp5 hul HO3.out (fun i' hi' => (HO4.out i' hi').below A9) (hr.below A9) hk5
     have BB_n : Below w.heap.size w wz := below_grownB (BB.trans (A9.mono BB.size)) hg5 (by have := BB.size; have := A9.size; omega) (fun g0 hg0 => hOb.out g0 hg0)
     clear OC
     have OC := X_n
     clear BB
     have BB := BB_n
     clear X_n BB_n A9 o1 hPO HO3 HO4 hOb hul ho5 hg5 hat5 hp5 hk5 hr
     clear VS VS_0 VS_1 VS_2 VS_3 VS_4 VS_5
     go_wp2
     go_roundw
     case rel => exact ⟨p + 1,by omega,by go_num,OC,BB⟩
     case measure => simp [intOf]; omega
  ·obtain rfl : p = N := by omega
   have hli : ¬ (p : Int) < (p : Int) := by omega
   go_wp2
   go_ret
   exact ⟨_,rfl,OC,BB⟩
end Go.Proofs.YtnbocjbfieklhaaGreatDoor

namespace Go.Proofs.YtnbocjbfieklhaaGreatDoor
set_option linter.unusedVariables false
theorem evN_same {q r : Nat → Rat} {n m : Nat} (x : Rat) (h : ∀ i,co n q i = co m r i) : evN q x n = evN r x m := by
 rw [← evN_any n q x (max n m) (by omega),← evN_any m r x (max n m) (by omega)]
 exact evN_congr x _ (fun i _ => h i)
theorem evN_mul (n : Nat) (q : Nat → Rat) (m : Nat) (r : Nat → Rat) (x : Rat) : evN (conv n q m r) x (MulLen n q m r) = evN q x n * evN r x m := by
 rw [← evN_conv]
 refine evN_same x (fun i => ?_)
 rw [mul_co]
 by_cases h : i < n + m
 ·rw [co_lt h]
 ·rw [co_ge h,conv_far _ _ _ _ _ (by omega)]
theorem evN_plus (f g : Nat → Rat) (x : Rat) : ∀ n,evN (fun i => f i + g i) x n = evN f x n + evN g x n
 | 0 => by show (0 : Rat) = 0 + 0; grind
 | n + 1 => by show evN (fun i => f i + g i) x n + (f n + g n) * x ^ n = (evN f x n + f n * x ^ n) + (evN g x n + g n * x ^ n); rw [evN_plus f g x n]; grind
theorem evN_add (n : Nat) (q : Nat → Rat) (m : Nat) (r : Nat → Rat) (x : Rat) : evN (fun i => co n q i + co m r i) x (trimN (fun i => co n q i + co m r i) (max n m)) = evN q x n + evN r x m := by
 rw [show evN (fun i => co n q i + co m r i) x (trimN (fun i => co n q i + co m r i) (max n m)) = evN (fun i => co n q i + co m r i) x (max n m) from evN_same x (fun i => co_trim _ _ i),evN_plus,evN_any n q x _ (by omega),evN_any m r x _ (by omega)]
theorem evN_first (f : Nat → Rat) (x : Rat) : evN f x 1 = f 0 := by
 show 0 + f 0 * x ^ 0 = f 0
 rw [Rat.pow_zero]; grind
end Go.Proofs.YtnbocjbfieklhaaGreatDoor

namespace Go.Proofs.YtnbocjbfieklhaaGreatDoor
open Go.RowKit
set_option linter.unusedVariables false
set_option linter.unusedSimpArgs false
def areaQ (q : Nat → Rat) (i : Nat) : Rat := if i = 0 then 0 else q (i - 1) * (((1 : Int) : Rat) / ((i : Int) : Rat))
theorem qsz_one_over (i : Nat) (h : i ≤ 1000000) : qsz (((1 : Int) : Rat) / ((i : Int) : Rat)) ≤ 4 :=
 qsz_div _ _ (L := 2) (M := 2) (qsz_int _ (Nat.le_trans ((nl_two _).2 (by omega)) (by omega)) (by omega)) (qsz_int _ (Nat.le_trans ((nl_two _).2 (by omega)) (by omega)) (by omega))
set_option maxRecDepth 20000 in
set_option maxHeartbeats 4000000 in
theorem parea1_some (i n : Nat) (q : Nat → Rat) (L RA : Nat) (u : Value) (w : World) (VP : V1 w RA u) (hu : QRow w u n q L) (ht : Tab w) (hn : n ≤ 100000) (hL2 : 4 ≤ L) (hM : L ≤ 100000) (hi : i ≤ n) (hi0 : 0 < i) :
  Calls Tryz.prog 75 #[.int .i64 (i : Int),.pointer (some ⟨RA,0,none⟩)] w fun e w' => ∃ x,e = .returned x ∧ RepQ w' x (areaQ q i) ∧ Below w.heap.size w w' := by
 have i0 : ((i : Int) == 0) = false := by simp; omega
 have i0n : ¬ (i : Int) = 0 := by omega
 obtain ⟨i1,hi1⟩ : ∃ i1,i1 = i - 1 := ⟨_,rfl⟩
 have hii : i1 < n := by omega
 rw [show areaQ q i = q i1 * (((1 : Int) : Rat) / ((i : Int) : Rat)) by unfold areaQ; rw [if_neg (by omega),hi1]]
 obtain ⟨b,off,cc,p1,ao1,m1,d1,bo1,k1,e1,hvv,hcc,XC,Hi⟩ := (hu).at i1 hii
 cases hvv
 have dd1 : (i : Int) - 1 = (i1 : Int) := by omega
 have dd2 : (i1 : Int) < (n : Int) := by omega
 have dd3 : (0 : Int) ≤ (i1 : Int) := by omega
 have dd4 : IntKind.i64.wrap (i1 : Int) = (i1 : Int) := by rw [IntKind.wrap_i64]; omega
 have hRA := VP.lt
 have hRX := XC.lt
 have s1 := qsz_one_over i (by omega)
 clear hi1
 have BB : Below w.heap.size w w := Below.refl _ _
 obtain ⟨Wb0,hW0,hS0,hL0,VR⟩ := V3.lay w 35 (.bool false) (.slice none 0 0) (.slice none 0 0)
 replace VP := VP.below hL0
 replace XC := XC.below hL0
 replace BB := BB.trans (hL0.mono BB.size)
 clear hL0
 go_enter Tryz.func75,Tryz.ntmps75
 go_wp2
 rw [← hW0]
 clear hW0 hS0
 refine wp_region_until 8 #[true,true,true,true,true,true,true,true,false] (fun aF lsd a' w' => ∃ vu0 vu1 vu2 vu3 vu4 vu5 vu6 vu7 : Value,a' = (((((((aF.put (some 7) vu0).put (some 8) vu1).put (some 9) vu2).put (some 10) vu3).put (some 11) vu4).put (some 12) vu5).put (some 13) vu6).put (some 14) vu7 ∧ Below Wb0.heap.size Wb0 w' ∧ (lsd.getD 0 false = true → vu0 = .slice (some ⟨b,off,none⟩) n cc) ∧ (lsd.getD 1 false = true → vu1 = .int .i64 (i : Int)) ∧ (lsd.getD 2 false = true → vu2 = .int .i64 (i1 : Int)) ∧ (lsd.getD 3 false = true → vu3 = .pointer (some ⟨b,off + i1 * 3,none⟩)) ∧ (lsd.getD 4 false = true → vu4 = .agg #[.bool p1,.slice ao1 m1 d1,.slice bo1 k1 e1]) ∧ (lsd.getD 5 false = true → vu5 = .int .i64 (i : Int)) ∧ (lsd.getD 6 false = true → RepQ w' vu6 (((1 : Int) : Rat) / ((i : Int) : Rat))) ∧ (lsd.getD 7 false = true → RepQ w' vu7 (q i1 * (((1 : Int) : Rat) / ((i : Int) : Rat))))) (by kernel_rfl) (by decide) (by kernel_rfl) (by rfl) (by kernel_rfl) ?_ ?_ ?_
 ·exact ⟨_,_,_,_,_,_,_,_,by simp only [Act.put,xL4,xL5,xL6]; rfl,(Below.refl _ _).drew,fun h => absurd h (fun h => mark_none h),fun h => absurd h (fun h => mark_none h),fun h => absurd h (fun h => mark_none h),fun h => absurd h (fun h => mark_none h),fun h => absurd h (fun h => mark_none h),fun h => absurd h (fun h => mark_none h),fun h => absurd h (fun h => mark_none h),fun h => absurd h (fun h => mark_none h)⟩
 ·rintro lsd au wn iu hszu ⟨vu0,vu1,vu2,vu3,vu4,vu5,vu6,vu7,rfl,hbu,fu0,fu1,fu2,fu3,fu4,fu5,fu6,fu7⟩ himu hru
  rcases (show iu = 0 ∨ iu = 1 ∨ iu = 2 ∨ iu = 3 ∨ iu = 4 ∨ iu = 5 ∨ iu = 6 ∨ iu = 7 by omega) with rfl | rfl | rfl | rfl | rfl | rfl | rfl | rfl
  ·refine wpOp_shut (by rfl) (fun K hK => ?_)
   simp only [Act.put,xL4,xL5,xL6]
   obtain ⟨VP_0,VP_1⟩ := VP.below hbu
   go_simp
   exact hK.out _ _ ⟨(.slice (some ⟨b,off,none⟩) n cc),vu1,vu2,vu3,vu4,vu5,vu6,vu7,by simp only [Act.put,xL4,xL5,xL6],hbu,fun _ => rfl,fun h => fu1 (mark_of (by decide) h),fun h => fu2 (mark_of (by decide) h),fun h => fu3 (mark_of (by decide) h),fun h => fu4 (mark_of (by decide) h),fun h => fu5 (mark_of (by decide) h),fun h => fu6 (mark_of (by decide) h),fun h => fu7 (mark_of (by decide) h)⟩
  ·refine wpOp_shut (by rfl) (fun K hK => ?_)
   simp only [Act.put,xL4,xL5,xL6]
   go_simp
   exact hK.out _ _ ⟨vu0,(.int .i64 (i : Int)),vu2,vu3,vu4,vu5,vu6,vu7,by simp only [Act.put,xL4,xL5,xL6],hbu,fun h => fu0 (mark_of (by decide) h),fun _ => rfl,fun h => fu2 (mark_of (by decide) h),fun h => fu3 (mark_of (by decide) h),fun h => fu4 (mark_of (by decide) h),fun h => fu5 (mark_of (by decide) h),fun h => fu6 (mark_of (by decide) h),fun h => fu7 (mark_of (by decide) h)⟩
  ·have eu1 := fu1 (dep_of 1 hru rfl (by kernel_rfl))
   replace eu1 := eu1.symm
   subst eu1
   refine wpOp_shut (by rfl) (fun K hK => ?_)
   simp only [Act.put,xL4,xL5,xL6]
   go_simp
   exact hK.out _ _ ⟨vu0,(.int .i64 (i : Int)),(.int .i64 (i1 : Int)),vu3,vu4,vu5,vu6,vu7,by simp only [Act.put,xL4,xL5,xL6],hbu,fun h => fu0 (mark_of (by decide) h),fun _ => rfl,fun _ => rfl,fun h => fu3 (mark_of (by decide) h),fun h => fu4 (mark_of (by decide) h),fun h => fu5 (mark_of (by decide) h),fun h => fu6 (mark_of (by decide) h),fun h => fu7 (mark_of (by decide) h)⟩
  ·have eu0 := fu0 (dep_of 0 hru rfl (by kernel_rfl))
   have eu2 := fu2 (dep_of 2 hru rfl (by kernel_rfl))
   replace eu0 := eu0.symm
   subst eu0
   replace eu2 := eu2.symm
   subst eu2
   refine wpOp_shut (by rfl) (fun K hK => ?_)
   simp only [Act.put,xL4,xL5,xL6]
   go_simp
   exact hK.out _ _ ⟨(.slice (some ⟨b,off,none⟩) n cc),vu1,(.int .i64 (i1 : Int)),(.pointer (some ⟨b,off + i1 * 3,none⟩)),vu4,vu5,vu6,vu7,by simp only [Act.put,xL4,xL5,xL6],hbu,fun _ => rfl,fun h => fu1 (mark_of (by decide) h),fun _ => rfl,fun _ => rfl,fun h => fu4 (mark_of (by decide) h),fun h => fu5 (mark_of (by decide) h),fun h => fu6 (mark_of (by decide) h),fun h => fu7 (mark_of (by decide) h)⟩
  ·have eu3 := fu3 (dep_of 3 hru rfl (by kernel_rfl))
   replace eu3 := eu3.symm
   subst eu3
   refine wpOp_shut (by rfl) (fun K hK => ?_)
   simp only [Act.put,xL4,xL5,xL6]
   obtain ⟨XC_0,XC_1,XC_2⟩ := XC.below hbu
   go_simp
   exact hK.out _ _ ⟨vu0,vu1,vu2,(.pointer (some ⟨b,off + i1 * 3,none⟩)),(.agg #[.bool p1,.slice ao1 m1 d1,.slice bo1 k1 e1]),vu5,vu6,vu7,by simp only [Act.put,xL4,xL5,xL6],hbu,fun h => fu0 (mark_of (by decide) h),fun h => fu1 (mark_of (by decide) h),fun h => fu2 (mark_of (by decide) h),fun _ => rfl,fun _ => rfl,fun h => fu5 (mark_of (by decide) h),fun h => fu6 (mark_of (by decide) h),fun h => fu7 (mark_of (by decide) h)⟩
  ·refine wpOp_shut (by rfl) (fun K hK => ?_)
   simp only [Act.put,xL4,xL5,xL6]
   go_simp
   exact hK.out _ _ ⟨vu0,vu1,vu2,vu3,vu4,(.int .i64 (i : Int)),vu6,vu7,by simp only [Act.put,xL4,xL5,xL6],hbu,fun h => fu0 (mark_of (by decide) h),fun h => fu1 (mark_of (by decide) h),fun h => fu2 (mark_of (by decide) h),fun h => fu3 (mark_of (by decide) h),fun h => fu4 (mark_of (by decide) h),fun _ => rfl,fun h => fu6 (mark_of (by decide) h),fun h => fu7 (mark_of (by decide) h)⟩
  ·have eu5 := fu5 (dep_of 5 hru rfl (by kernel_rfl))
   replace eu5 := eu5.symm
   subst eu5
   refine wpOp_shut (by rfl) (fun K hK => ?_)
   simp only [Act.put,xL4,xL5,xL6]
   go_simp
   refine (qfrac_at 1 (i : Int) _ (by omega) (by omega) (by omega) (by omega) ((ht.below BB).below hbu)).mono ?_
   rintro eu wx ⟨r1,rfl,h1,bu⟩
   go_wp2_with fail
   have hbu2 := hbu.trans (bu.mono hbu.size)
   exact hK.out _ _ ⟨vu0,vu1,vu2,vu3,vu4,(.int .i64 (i : Int)),_,vu7,by simp only [Act.put,xL4,xL5,xL6],hbu2,fun h => fu0 (mark_of (by decide) h),fun h => fu1 (mark_of (by decide) h),fun h => fu2 (mark_of (by decide) h),fun h => fu3 (mark_of (by decide) h),fun h => fu4 (mark_of (by decide) h),fun _ => rfl,fun _ => h1,fun h => (fu7 (mark_of (by decide) h)).below bu⟩
  ·have eu4 := fu4 (dep_of 4 hru rfl (by kernel_rfl))
   replace eu4 := eu4.symm
   subst eu4
   have h1 := fu6 (dep_of 6 hru rfl (by kernel_rfl))
   refine wpOp_shut (by rfl) (fun K hK => ?_)
   simp only [Act.put,xL4,xL5,xL6]
   go_simp
   refine (qmul_at _ _ (q i1) (((1 : Int) : Rat) / ((i : Int) : Rat)) L _ ((Hi.below BB).below hbu) (h1.at _ (Nat.le_trans s1 hL2)) (by omega) hM ((ht.below BB).below hbu)).mono ?_
   rintro eu wx ⟨r3,rfl,hr,bu⟩
   go_wp2_with fail
   have hbu2 := hbu.trans (bu.mono hbu.size)
   exact hK.out _ _ ⟨vu0,vu1,vu2,vu3,(.agg #[.bool p1,.slice ao1 m1 d1,.slice bo1 k1 e1]),vu5,vu6,_,by simp only [Act.put,xL4,xL5,xL6],hbu2,fun h => fu0 (mark_of (by decide) h),fun h => fu1 (mark_of (by decide) h),fun h => fu2 (mark_of (by decide) h),fun h => fu3 (mark_of (by decide) h),fun _ => rfl,fun h => fu5 (mark_of (by decide) h),fun h => (fu6 (mark_of (by decide) h)).below bu,fun _ => hr⟩
 rintro au Wu1 ⟨vu0,vu1,vu2,vu3,vu4,vu5,vu6,vu7,rfl,hbu,fu0,fu1,fu2,fu3,fu4,fu5,fu6,fu7⟩
 have eu0 := (fu0 rfl).symm
 subst eu0
 have eu1 := (fu1 rfl).symm
 subst eu1
 have eu2 := (fu2 rfl).symm
 subst eu2
 have eu3 := (fu3 rfl).symm
 subst eu3
 have eu4 := (fu4 rfl).symm
 subst eu4
 have eu5 := (fu5 rfl).symm
 subst eu5
 have h1 := fu6 rfl
 have hr := fu7 rfl
 clear fu0 fu1 fu2 fu3 fu4 fu5 fu6 fu7
 have hlVP : RA < Wb0.heap.size := VP.lt
 have hlXC : b < Wb0.heap.size := XC.lt
 have hlVR : w.heap.size < Wb0.heap.size := VR.lt
 replace VP := VP.below hbu
 replace XC := XC.below hbu
 replace VR := VR.below hbu
 replace BB := BB.trans (hbu.mono BB.size)
 clear hbu
 obtain ⟨p3,a3,n3,c3,bo3,m3,d3,rfl⟩ := hr.open
 simp only [Act.put,xL4,xL5,xL6]
 refine xR [8] (h := ?_)
 refine AllReadyH.cons (by rfl) (fun K hK => ?_) AllReadyH.nil
 have hKp := VR.keepJ (.bool p3) (.slice a3 n3 c3) (.slice bo3 m3 d3)
 have VP_n := VP.other3 (R := w.heap.size) (by omega) (.bool p3) (.slice a3 n3 c3) (.slice bo3 m3 d3)
 have XC_n := XC.other3 (R := w.heap.size) (by omega) (.bool p3) (.slice a3 n3 c3) (.slice bo3 m3 d3)
 have VR_n := VR.same (.bool p3) (.slice a3 n3 c3) (.slice bo3 m3 d3)
 have h1_n := h1.keep hKp
 have hr_n := hr.keep hKp
 have BB_n := below_store3 (R := w.heap.size) BB (by omega) (.bool p3) (.slice a3 n3 c3) (.slice bo3 m3 d3)
 clear hKp
 obtain ⟨VR_0,VR_1,VR_2,VR_3,VR_4,VR_5⟩ := id VR
 go_simp
 clear VR_0 VR_1 VR_2 VR_3 VR_4 VR_5
 clear BB h1 hr VP XC VR
 generalize ((Wu1.setCell ⟨w.heap.size,0,none⟩ (.bool p3)).setCell ⟨w.heap.size,1,none⟩ (.slice a3 n3 c3)).setCell ⟨w.heap.size,2,none⟩ (.slice bo3 m3 d3) = W2 at *
 have BB := BB_n
 have h1 := h1_n
 have hr := hr_n
 have VP := VP_n
 have XC := XC_n
 have VR := VR_n
 clear BB_n h1_n hr_n VP_n XC_n VR_n
 refine hK.out _ _ trivial (fun _ => ?_)
 clear hK K
 simp only [Act.put,xL4,xL5,xL6]
 refine wpAnyH_done (by kernel_rfl) ?_ _
 obtain ⟨q1,q2,q3,q4,q5,q6⟩ := id VR
 go_wp2
 (try simp only [Exit.inBlock,Exit.then])
 refine bodyPost_ret (v := .agg #[.bool p3,.slice a3 n3 c3,.slice bo3 m3 d3]) (by simp [results,go_sem,q1,q2,q3]) rfl ?_
 exact ⟨_,rfl,hr,BB⟩
set_option maxRecDepth 20000 in
set_option maxHeartbeats 4000000 in
theorem parea1_zero (i n : Nat) (q : Nat → Rat) (L RA : Nat) (u : Value) (w : World) (VP : V1 w RA u) (hu : QRow w u n q L) (ht : Tab w) (hn : n ≤ 100000) (hL2 : 4 ≤ L) (hM : L ≤ 100000) (hi0 : i = 0) :
  Calls Tryz.prog 75 #[.int .i64 (i : Int),.pointer (some ⟨RA,0,none⟩)] w fun e w' => ∃ x,e = .returned x ∧ RepQ w' x (areaQ q i) ∧ Below w.heap.size w w' := by
 obtain rfl : i = 0 := by omega
 rw [show areaQ q 0 = 0 from rfl]
 have BB : Below w.heap.size w w := Below.refl _ _
 obtain ⟨Wb0,hW0,hS0,hL0,VR⟩ := V3.lay w 35 (.bool false) (.slice none 0 0) (.slice none 0 0)
 replace BB := BB.trans (hL0.mono BB.size)
 clear hL0
 go_enter Tryz.func75,Tryz.ntmps75
 go_wp2_with fail
 rw [← hW0]
 clear hW0 hS0
 refine (qzero_at _).mono ?_
 rintro e w1 ⟨x1,rfl,hr,b1⟩
 replace VR := VR.below b1
 replace BB := BB.trans (b1.mono BB.size)
 clear b1
 obtain ⟨p3,a3,n3,c3,bo3,m3,d3,rfl⟩ := hr.open
 have hKp := VR.keepJ (.bool p3) (.slice a3 n3 c3) (.slice bo3 m3 d3)
 have hr_n := hr.keep hKp
 have BB_n := below_store3 (R := w.heap.size) BB (by omega) (.bool p3) (.slice a3 n3 c3) (.slice bo3 m3 d3)
 clear hKp
 obtain ⟨q1,q2,q3,q4,q5,q6⟩ := id VR
 go_wp2
 (try simp only [Exit.inBlock,Exit.then])
 refine bodyPost_ret (v := .agg #[.bool p3,.slice a3 n3 c3,.slice bo3 m3 d3]) (by simp [results,go_sem,q1,q2,q3]) rfl ?_
 exact ⟨_,rfl,hr_n,BB_n⟩
theorem parea1_at (i n : Nat) (q : Nat → Rat) (L RA : Nat) (u : Value) (w : World) (VP : V1 w RA u) (hu : QRow w u n q L) (ht : Tab w) (hn : n ≤ 100000) (hL2 : 4 ≤ L) (hM : L ≤ 100000) (hi : i ≤ n) :
  Calls Tryz.prog 75 #[.int .i64 (i : Int),.pointer (some ⟨RA,0,none⟩)] w fun e w' => ∃ x,e = .returned x ∧ RepQ w' x (areaQ q i) ∧ Below w.heap.size w w' := by
 by_cases h : i = 0
 ·exact parea1_zero i n q L RA u w VP hu ht hn hL2 hM h
 ·exact parea1_some i n q L RA u w VP hu ht hn hL2 hM hi (by omega)
set_option maxRecDepth 20000 in
set_option maxHeartbeats 2000000 in
theorem parea_at (u : Value) (n : Nat) (q : Nat → Rat) (L : Nat) (w : World) (hu : QRow w u n q L) (ht : Tab w) (hn : n ≤ 99999) (hL2 : 4 ≤ L) (hM : L ≤ 40000) :
  Calls Tryz.prog 35 #[u] w fun e w' => ∃ x,e = .returned x ∧ FNew w.heap.size w' x (trimN (areaQ q) (n + 1)) (areaQ q) ∧ Below w.heap.size w w' := by
 obtain ⟨ao,c,rfl,hnc,hc63,hsome⟩ := hu.open
 have hsz : ∀ i,i < n + 1 → qsz (areaQ q i) ≤ L + 4 := by
  intro i hi
  unfold areaQ
  split
  ·exact Nat.le_trans (show qsz 0 ≤ 1 by decide +kernel) (by omega)
  ·exact qsz_mul _ _ (hu.sz (by omega) _ (by omega)) (qsz_one_over i (by omega))
 obtain ⟨N1,hN1⟩ : ∃ N1,N1 = n + 1 := ⟨_,rfl⟩
 have hN2 : N1 ≤ 100000 := by omega
 have hN3 : ∀ i,i < N1 → i ≤ n := fun i hi => by omega
 have j1 : (n : Int) + 1 = (N1 : Int) := by omega
 rw [← hN1] at hsz ⊢
 clear hN1
 have BB : Below w.heap.size w w := Below.refl _ _
 obtain ⟨Wb0,hW0,hS0,hL0,VP⟩ := V1.lay w 22 (.slice ao n c)
 replace BB := BB.trans (hL0.mono BB.size)
 clear hL0
 go_enter Tryz.func35,Tryz.ntmps35
 go_wp2_with fail
 rw [← hW0]
 clear hW0 hS0
 have HH : Hid (∀ i : Nat,i < N1 → ∀ w1,Below Wb0.heap.size Wb0 w1 → Calls Tryz.prog 75 (#[.int .i64 (i : Int)] ++ #[.pointer (some ⟨w.heap.size,0,none⟩)]) w1 fun e w2 => ∃ x,e = .returned x ∧ RepQ w2 x (areaQ q i) ∧ Below w1.heap.size w1 w2) := fun i hi w1 hb1 => parea1_at i n q L _ _ w1 (VP.below hb1) ((hu.below BB).below hb1) ((ht.below BB).below hb1) (by omega) hL2 (by omega) (hN3 i hi)
 have hWs : Hid (w.heap.size ≤ Wb0.heap.size) := BB.size
 refine (pmade_at N1 75 #[.pointer (some ⟨w.heap.size,0,none⟩)] (areaQ q) (L + 4) _ (by omega) hsz (by omega) (by omega) (ht.below BB) (enters_own Tryz.func75 (by kernel_rfl) rfl) HH).mono ?_
 rintro e w1 ⟨x,rfl,FR,b1⟩
 replace VP := VP.below b1
 replace BB := BB.trans (b1.mono BB.size)
 clear b1
 go_wp2
 go_ret
 exact ⟨_,rfl,FR.le hWs.out,BB⟩

theorem qsz_pw (q : Rat) (L : Nat) (h : qsz q ≤ L) : ∀ k,qsz (q ^ k) ≤ L * k + 1
 | 0 => by rw [Rat.pow_zero]; exact Nat.le_trans (show qsz 1 ≤ 1 by decide +kernel) (by omega)
 | k + 1 => by
  rw [Rat.pow_succ,Nat.mul_succ]
  exact Nat.le_trans (qsz_mul _ _ (qsz_pw q L h k) h) (by omega)
theorem qsz_evN (q : Nat → Rat) (x : Rat) (L X : Nat) (hx : qsz x ≤ X) : ∀ n,(∀ i,i < n → qsz (q i) ≤ L) → qsz (evN q x n) ≤ n * (L + X * n + 2) + 1
 | 0,_ => Nat.le_trans (show qsz 0 ≤ 1 by decide +kernel) (by omega)
 | n + 1,h => by
  have ih := qsz_evN q x L X hx n (fun i hi => h i (by omega))
  have hp := qsz_mul _ _ (h n (by omega)) (qsz_pw x X hx n)
  have hm : X * n ≤ X * (n + 1) := Nat.mul_le_mul_left _ (by omega)
  have h1 : n * (L + X * n + 2) ≤ n * (L + X * (n + 1) + 2) := Nat.mul_le_mul_left _ (by omega)
  show qsz (evN q x n + q n * x ^ n) ≤ _
  refine Nat.le_trans (qsz_add _ _ ih hp) ?_
  rw [Nat.succ_mul]
  omega
set_option maxRecDepth 20000 in
set_option maxHeartbeats 4000000 in
theorem power4_at (v : Value) (x : Rat) (n L : Nat) (w : World) (hx : RatAt w v x L) (ht : Tab w) (hL : 1 ≤ L) (hn : n ≤ 1000) (hM : L * n + 1 ≤ 90000) :
  Calls Tryz.prog 61 #[v,.int .i64 (n : Int)] w fun e w' => ∃ r,e = .returned r ∧ RepQ w' r (x ^ n) ∧ Below w.heap.size w w' := by
 obtain ⟨px,ax,nx,cx,bx,mx,dx,rfl⟩ := hx.open
 have sx := hx.qsz hL
 have HSP : Hid (∀ k,k ≤ n → qsz (x ^ k) ≤ L * n + 1) := fun k hk => Nat.le_trans (qsz_pw x L sx k) (Nat.succ_le_succ (Nat.mul_le_mul_left _ hk))
 have HM : Hid (L * n + 1 ≤ 90000) := hM
 clear hM
 have BB : Below w.heap.size w w := Below.refl _ _
 obtain ⟨Wb0,hW0,hS0,hL0,VX⟩ := V3.lay w 35 (.bool px) (.slice ax nx cx) (.slice bx mx dx)
 replace hx := hx.below hL0
 replace ht := ht.below hL0
 replace BB := BB.trans (hL0.mono BB.size)
 clear hL0
 obtain ⟨Wb1,hW1,hS1,hL1,VR⟩ := V3.lay Wb0 35 (.bool false) (.slice none 0 0) (.slice none 0 0)
 rw [hS0] at VR hS1
 replace hx := hx.below hL1
 replace ht := ht.below hL1
 replace VX := VX.below hL1
 replace BB := BB.trans (hL1.mono BB.size)
 clear hL1
 go_enter Tryz.func61,Tryz.ntmps61
 go_wp2_with fail
 rw [← hW0]
 rw [← hW1]
 clear hW0 hW1 hS0 hS1
 refine (qone_at _).mono ?_
 rintro e w1 ⟨x1,rfl,hr,b1⟩
 replace hx := hx.below b1
 replace ht := ht.below b1
 replace VX := VX.below b1
 replace VR := VR.below b1
 replace BB := BB.trans (b1.mono BB.size)
 clear b1
 obtain ⟨p3,a3,n3,c3,bo3,m3,d3,rfl⟩ := hr.open
 have hZ1 : w.heap.size ≤ w1.heap.size := BB.size
 have hN1VX : w.heap.size ≠ w1.heap.size := Nat.ne_of_lt VX.lt
 have hN1VR : w.heap.size + 1 ≠ w1.heap.size := Nat.ne_of_lt VR.lt
 obtain ⟨W1,hW1,hS1,hL1,VO⟩ := V3.lay w1 35 (.bool p3) (.slice a3 n3 c3) (.slice bo3 m3 d3)
 replace hx := hx.below hL1
 replace ht := ht.below hL1
 replace hr := hr.below hL1
 replace VX := VX.below hL1
 replace VR := VR.below hL1
 replace BB := BB.trans (hL1.mono BB.size)
 clear hL1
 go_wp2
 rw [← hW1]
 generalize w1.heap.size = R1 at *
 clear hW1 hS1
 have hRO : Hid (w.heap.size + 1 < R1) := by have := VR.lt; show _ < _; omega
 go_loopw [6] (fun vi wr => ∃ (i : Nat) (p : Bool) (a : Option Addr) (n_ c : Nat) (b : Option Addr) (m d : Nat),i ≤ n ∧ vi = .int .i64 (i : Int) ∧ V3 wr R1 (.bool p) (.slice a n_ c) (.slice b m d) ∧ RepQ wr (.agg #[.bool p,.slice a n_ c,.slice b m d]) (x ^ i) ∧ V3 wr w.heap.size (.bool px) (.slice ax nx cx) (.slice bx mx dx) ∧ V3 wr (w.heap.size + 1) (.bool false) (.slice none 0 0) (.slice none 0 0) ∧ RatAt wr (.agg #[.bool px,.slice ax nx cx,.slice bx mx dx]) x L ∧ Tab wr ∧ Below w.heap.size w wr) (fun vi _ => n - (intOf vi).toNat)
 case atStart => exact ⟨0,p3,a3,n3,c3,bo3,m3,d3,by omega,rfl,VO,by rw [Rat.pow_zero]; exact hr,VX,VR,hx,ht,BB⟩
 case round =>
  clear VO hr VX VR hx ht BB
  obtain ⟨i,p,a,n_,c,b,m,d,hi,rfl,VO,hO,VX,VR,hx,ht,BB⟩ := hrel
  by_cases hlt : i < n
  ·have hli : (i : Int) < (n : Int) := by omega
   have sO := HSP.out i hi
   have hMM := HM.out
   have hR2 := hRO.out
   obtain ⟨VO_0,VO_1,VO_2,VO_3,VO_4,VO_5⟩ := id VO
   obtain ⟨VX_0,VX_1,VX_2,VX_3,VX_4,VX_5⟩ := id VX
   go_wp2_with fail
   clear VO_0 VO_1 VO_2 VO_3 VO_4 VO_5 VX_0 VX_1 VX_2 VX_3 VX_4 VX_5
   refine (qmul_at _ _ (x ^ i) x (L * n + 1) _ (hO.at _ sO) (hx.le (by have : L ≤ L * n := Nat.le_mul_of_pos_right L (by omega); omega)) (by omega) (by omega) ht).mono ?_
   rintro e w1 ⟨x1,rfl,hr,b1⟩
   replace hO := hO.below b1
   replace hx := hx.below b1
   replace ht := ht.below b1
   replace VO := VO.below b1
   replace VX := VX.below b1
   replace VR := VR.below b1
   replace BB := BB.trans (b1.mono BB.size)
   clear b1
   obtain ⟨p3,a3,n3,c3,bo3,m3,d3,rfl⟩ := hr.open
   clear hO
   have hKp := VO.keepJ (.bool p3) (.slice a3 n3 c3) (.slice bo3 m3 d3)
   have VX_n := VX.other3 (R := R1) (by omega) (.bool p3) (.slice a3 n3 c3) (.slice bo3 m3 d3)
   have VR_n := VR.other3 (R := R1) (by omega) (.bool p3) (.slice a3 n3 c3) (.slice bo3 m3 d3)
   have VO_n := VO.same (.bool p3) (.slice a3 n3 c3) (.slice bo3 m3 d3)
   have hx_n := hx.keep hKp
   have ht_n := ht.keep hKp
   have hr_n := hr.keep hKp
   have BB_n := below_store3 (R := R1) BB (by omega) (.bool p3) (.slice a3 n3 c3) (.slice bo3 m3 d3)
   clear hKp
   obtain ⟨VO_0,VO_1,VO_2,VO_3,VO_4,VO_5⟩ := id VO
   go_wp2
   clear VO_0 VO_1 VO_2 VO_3 VO_4 VO_5
   clear BB hx ht hr VO VX VR
   generalize ((w1.setCell ⟨R1,0,none⟩ (.bool p3)).setCell ⟨R1,1,none⟩ (.slice a3 n3 c3)).setCell ⟨R1,2,none⟩ (.slice bo3 m3 d3) = W1 at *
   have BB := BB_n
   have hx := hx_n
   have ht := ht_n
   have hr := hr_n
   have VO := VO_n
   have VX := VX_n
   have VR := VR_n
   clear BB_n hx_n ht_n hr_n VO_n VX_n VR_n
   go_roundw
   case rel => exact ⟨i + 1,p3,a3,n3,c3,bo3,m3,d3,by omega,by go_num,VO,by rw [Rat.pow_succ]; exact hr,VX,VR,hx,ht,BB⟩
   case measure => simp [intOf]; omega
  ·obtain rfl : i = n := by omega
   have hli : ¬ (i : Int) < (i : Int) := by omega
   have hR2 := hRO.out
   have hKp := VR.keepJ (.bool p) (.slice a n_ c) (.slice b m d)
   have hO_n := hO.keep hKp
   have BB_n := below_store3 (R := w.heap.size + 1) BB (by omega) (.bool p) (.slice a n_ c) (.slice b m d)
   clear hKp
   obtain ⟨VO_0,VO_1,VO_2,VO_3,VO_4,VO_5⟩ := id VO
   obtain ⟨q1,q2,q3,q4,q5,q6⟩ := id VR
   go_wp2
   (try simp only [Exit.inBlock,Exit.then])
   refine bodyPost_ret (v := .agg #[.bool p,.slice a n_ c,.slice b m d]) (by simp [results,go_sem,q1,q2,q3]) rfl ?_
   exact ⟨_,rfl,hO_n,BB_n⟩
set_option maxRecDepth 20000 in
set_option maxHeartbeats 8000000 in
theorem value4_at (v X_ : Value) (n : Nat) (q : Nat → Rat) (x : Rat) (L X : Nat) (w : World) (hv : QRow w v n q L) (hx : RatAt w X_ x X) (ht : Tab w) (hL : 1 ≤ L) (hX : 1 ≤ X) (hn : n ≤ 1000) (hM : n * (L + X * n + 2) + L + X * n + 3 ≤ 90000) :
  Calls Tryz.prog 28 #[v,X_] w fun e w' => ∃ r,e = .returned r ∧ RepQ w' r (evN q x n) ∧ Below w.heap.size w w' := by
 obtain ⟨px,ax,nx,cx,bx,mx,dx,rfl⟩ := hx.open
 obtain ⟨ao,c,rfl,hnc,hc63,_⟩ := hv.open
 have sx := hx.qsz hX
 have HSE : Hid (∀ k,k ≤ n → qsz (evN q x k) ≤ n * (L + X * n + 2) + 1) := fun k hk => Nat.le_trans (qsz_evN q x L X sx k (fun i hi => hv.sz hL i (by omega))) (Nat.succ_le_succ (Nat.mul_le_mul hk (by have := Nat.mul_le_mul_left X hk; omega)))
 have HSP : Hid (∀ k,k ≤ n → qsz (x ^ k) ≤ X * n + 1) := fun k hk => Nat.le_trans (qsz_pw x X sx k) (Nat.succ_le_succ (Nat.mul_le_mul_left _ hk))
 have hXi : ∀ i,i ≤ n → X * i + 1 ≤ X * n + 1 := fun i hi => Nat.succ_le_succ (Nat.mul_le_mul_left _ hi)
 have hM2 : (n * (L + X * n + 2) + 1) + L + (X * n + 1) + 1 ≤ 90000 := by omega
 generalize n * (L + X * n + 2) + 1 = E_ at *
 generalize X * n + 1 = P_ at *
 have HXI : Hid (∀ i,i ≤ n → X * i + 1 ≤ P_) := hXi
 have HM : Hid (E_ + L + P_ + 1 ≤ 90000) := hM2
 clear hM hM2 hXi
 have hv0 := hv
 have hx0 := hx
 have ht0 := ht
 have BB : Below w.heap.size w w := Below.refl _ _
 obtain ⟨Wb0,hW0,hS0,hL0,VX⟩ := V3.lay w 35 (.bool px) (.slice ax nx cx) (.slice bx mx dx)
 replace hv := hv.below hL0
 replace hx := hx.below hL0
 replace ht := ht.below hL0
 replace BB := BB.trans (hL0.mono BB.size)
 clear hL0
 obtain ⟨Wb1,hW1,hS1,hL1,VR⟩ := V3.lay Wb0 35 (.bool false) (.slice none 0 0) (.slice none 0 0)
 rw [hS0] at VR hS1
 replace hv := hv.below hL1
 replace hx := hx.below hL1
 replace ht := ht.below hL1
 replace VX := VX.below hL1
 replace BB := BB.trans (hL1.mono BB.size)
 clear hL1
 go_enter Tryz.func28,Tryz.ntmps28
 go_wp2_with fail
 rw [← hW0]
 rw [← hW1]
 clear hW0 hW1 hS0 hS1
 refine (qzero_at _).mono ?_
 rintro e w1 ⟨x1,rfl,hr,b1⟩
 replace hv := hv.below b1
 replace hx := hx.below b1
 replace ht := ht.below b1
 replace VX := VX.below b1
 replace VR := VR.below b1
 replace BB := BB.trans (b1.mono BB.size)
 clear b1
 obtain ⟨p3,a3,n3,c3,bo3,m3,d3,rfl⟩ := hr.open
 have hZ1 : w.heap.size ≤ w1.heap.size := BB.size
 have hN1VX : w.heap.size ≠ w1.heap.size := Nat.ne_of_lt VX.lt
 have hN1VR : w.heap.size + 1 ≠ w1.heap.size := Nat.ne_of_lt VR.lt
 obtain ⟨W1,hW1,hS1,hL1,VO⟩ := V3.lay w1 35 (.bool p3) (.slice a3 n3 c3) (.slice bo3 m3 d3)
 replace hv := hv.below hL1
 replace hx := hx.below hL1
 replace ht := ht.below hL1
 replace hr := hr.below hL1
 replace VX := VX.below hL1
 replace VR := VR.below hL1
 replace BB := BB.trans (hL1.mono BB.size)
 clear hL1
 go_wp2
 rw [← hW1]
 generalize w1.heap.size = R1 at *
 clear hW1 hS1
 have hRO : Hid (w.heap.size + 1 < R1) := by have := VR.lt; show _ < _; omega
 go_loopw [6] (fun vi wr => ∃ (i : Nat) (pO : Bool) (aO : Option Addr) (nO cO : Nat) (bO : Option Addr) (mO dO : Nat),i ≤ n ∧ vi = .int .i64 (i : Int) ∧ V3 wr R1 (.bool pO) (.slice aO nO cO) (.slice bO mO dO) ∧ RepQ wr (.agg #[.bool pO,.slice aO nO cO,.slice bO mO dO]) (evN q x i) ∧ V3 wr w.heap.size (.bool px) (.slice ax nx cx) (.slice bx mx dx) ∧ V3 wr (w.heap.size + 1) (.bool false) (.slice none 0 0) (.slice none 0 0) ∧ Below w.heap.size w wr) (fun vi _ => n - (intOf vi).toNat)
 case atStart => exact ⟨0,p3,a3,n3,c3,bo3,m3,d3,by omega,rfl,VO,hr,VX,VR,BB⟩
 case round =>
  clear VO hr VX VR BB hv hx ht
  obtain ⟨i,pO,aO,nO,cO,bO,mO,dO,hi,rfl,VO,hO,VX,VR,BB⟩ := hrel
  have hx := hx0.below BB
  have ht := ht0.below BB
  by_cases hlt : i < n
  ·have hli : (i : Int) < (n : Int) := by omega
   have hl0 : (0 : Int) ≤ (i : Int) := by omega
   have sO := HSE.out i hi
   have sP := HSP.out i hi
   have sqi : qsz (q i) ≤ L := hv0.sz hL i hlt
   have hMM := HM.out
   have hR2 := hRO.out
   have hXn : Hid (X * i + 1 ≤ 90000) := Nat.le_trans (HXI.out i hi) (by omega)
   obtain ⟨b,off,cc,p1,ao1,m1,d1,bo1,k1,e1,hvv,hcc,XC,Hi⟩ := (hv0).at i hlt
   cases hvv
   have hbl : b < w.heap.size := XC.lt
   replace XC := XC.below BB
   replace Hi := Hi.below BB
   have HEV : Hid (evN q x (i + 1) = evN q x i + q i * x ^ i) := rfl
   have hP0 : ∃ pw,x ^ i = pw := ⟨_,rfl⟩
   obtain ⟨pw,hpw⟩ := hP0
   have HPW : Hid (x ^ i = pw) := hpw
   rw [hpw] at sP HEV
   clear hpw
   generalize evN q x i = ev at *
   generalize q i = qi at *
   go_wp2
   refine wp_region_until 10 #[true,true,true,true,true,true,true,true,true,true,false] (fun aF lsd a' w' => ∃ vu0 vu1 vu2 vu3 vu4 vu5 vu6 vu7 vu8 vu9 : Value,a' = (((((((((aF.put (some 14) vu0).put (some 15) vu1).put (some 16) vu2).put (some 17) vu3).put (some 18) vu4).put (some 19) vu5).put (some 20) vu6).put (some 21) vu7).put (some 22) vu8).put (some 23) vu9 ∧ Below wr.heap.size wr w' ∧ (lsd.getD 0 false = true → vu0 = .agg #[.bool pO,.slice aO nO cO,.slice bO mO dO]) ∧ (lsd.getD 1 false = true → vu1 = .slice (some ⟨b,off,none⟩) n c) ∧ (lsd.getD 2 false = true → vu2 = .int .i64 (i : Int)) ∧ (lsd.getD 3 false = true → vu3 = .pointer (some ⟨b,off + i * 3,none⟩)) ∧ (lsd.getD 4 false = true → vu4 = .agg #[.bool p1,.slice ao1 m1 d1,.slice bo1 k1 e1]) ∧ (lsd.getD 5 false = true → vu5 = .agg #[.bool px,.slice ax nx cx,.slice bx mx dx]) ∧ (lsd.getD 6 false = true → vu6 = .int .i64 (i : Int)) ∧ (lsd.getD 7 false = true → RepQ w' vu7 pw) ∧ (lsd.getD 8 false = true → RepQ w' vu8 (qi * pw)) ∧ (lsd.getD 9 false = true → RepQ w' vu9 (ev + qi * pw))) (by kernel_rfl) (by decide) (by kernel_rfl) (by rfl) (by kernel_rfl) ?_ ?_ ?_
   ·exact ⟨_,_,_,_,_,_,_,_,_,_,by simp only [Act.put,xL4,xL5,xL6]; rfl,(Below.refl _ _).drew,fun h => absurd h (fun h => mark_none h),fun h => absurd h (fun h => mark_none h),fun h => absurd h (fun h => mark_none h),fun h => absurd h (fun h => mark_none h),fun h => absurd h (fun h => mark_none h),fun h => absurd h (fun h => mark_none h),fun h => absurd h (fun h => mark_none h),fun h => absurd h (fun h => mark_none h),fun h => absurd h (fun h => mark_none h),fun h => absurd h (fun h => mark_none h)⟩
   ·rintro lsd au wn iu hszu ⟨vu0,vu1,vu2,vu3,vu4,vu5,vu6,vu7,vu8,vu9,rfl,hbu,fu0,fu1,fu2,fu3,fu4,fu5,fu6,fu7,fu8,fu9⟩ himu hru
    rcases (show iu = 0 ∨ iu = 1 ∨ iu = 2 ∨ iu = 3 ∨ iu = 4 ∨ iu = 5 ∨ iu = 6 ∨ iu = 7 ∨ iu = 8 ∨ iu = 9 by omega) with rfl | rfl | rfl | rfl | rfl | rfl | rfl | rfl | rfl | rfl
    ·refine wpOp_shut (by rfl) (fun K hK => ?_)
     simp only [Act.put,xL4,xL5,xL6]
     obtain ⟨VO_0,VO_1,VO_2,VO_3,VO_4,VO_5⟩ := VO.below hbu
     go_simp
     exact hK.out _ _ ⟨(.agg #[.bool pO,.slice aO nO cO,.slice bO mO dO]),vu1,vu2,vu3,vu4,vu5,vu6,vu7,vu8,vu9,by simp only [Act.put,xL4,xL5,xL6],hbu,fun _ => rfl,fun h => fu1 (mark_of (by decide) h),fun h => fu2 (mark_of (by decide) h),fun h => fu3 (mark_of (by decide) h),fun h => fu4 (mark_of (by decide) h),fun h => fu5 (mark_of (by decide) h),fun h => fu6 (mark_of (by decide) h),fun h => fu7 (mark_of (by decide) h),fun h => fu8 (mark_of (by decide) h),fun h => fu9 (mark_of (by decide) h)⟩
    ·refine wpOp_shut (by rfl) (fun K hK => ?_)
     simp only [Act.put,xL4,xL5,xL6]
     go_simp
     exact hK.out _ _ ⟨vu0,(.slice (some ⟨b,off,none⟩) n c),vu2,vu3,vu4,vu5,vu6,vu7,vu8,vu9,by simp only [Act.put,xL4,xL5,xL6],hbu,fun h => fu0 (mark_of (by decide) h),fun _ => rfl,fun h => fu2 (mark_of (by decide) h),fun h => fu3 (mark_of (by decide) h),fun h => fu4 (mark_of (by decide) h),fun h => fu5 (mark_of (by decide) h),fun h => fu6 (mark_of (by decide) h),fun h => fu7 (mark_of (by decide) h),fun h => fu8 (mark_of (by decide) h),fun h => fu9 (mark_of (by decide) h)⟩
    ·refine wpOp_shut (by rfl) (fun K hK => ?_)
     simp only [Act.put,xL4,xL5,xL6]
     go_simp
     exact hK.out _ _ ⟨vu0,vu1,(.int .i64 (i : Int)),vu3,vu4,vu5,vu6,vu7,vu8,vu9,by simp only [Act.put,xL4,xL5,xL6],hbu,fun h => fu0 (mark_of (by decide) h),fun h => fu1 (mark_of (by decide) h),fun _ => rfl,fun h => fu3 (mark_of (by decide) h),fun h => fu4 (mark_of (by decide) h),fun h => fu5 (mark_of (by decide) h),fun h => fu6 (mark_of (by decide) h),fun h => fu7 (mark_of (by decide) h),fun h => fu8 (mark_of (by decide) h),fun h => fu9 (mark_of (by decide) h)⟩
    ·have eu1 := fu1 (dep_of 1 hru rfl (by kernel_rfl))
     have eu2 := fu2 (dep_of 2 hru rfl (by kernel_rfl))
     replace eu1 := eu1.symm
     subst eu1
     replace eu2 := eu2.symm
     subst eu2
     refine wpOp_shut (by rfl) (fun K hK => ?_)
     simp only [Act.put,xL4,xL5,xL6]
     go_simp
     exact hK.out _ _ ⟨vu0,(.slice (some ⟨b,off,none⟩) n c),(.int .i64 (i : Int)),(.pointer (some ⟨b,off + i * 3,none⟩)),vu4,vu5,vu6,vu7,vu8,vu9,by simp only [Act.put,xL4,xL5,xL6],hbu,fun h => fu0 (mark_of (by decide) h),fun _ => rfl,fun _ => rfl,fun _ => rfl,fun h => fu4 (mark_of (by decide) h),fun h => fu5 (mark_of (by decide) h),fun h => fu6 (mark_of (by decide) h),fun h => fu7 (mark_of (by decide) h),fun h => fu8 (mark_of (by decide) h),fun h => fu9 (mark_of (by decide) h)⟩
    ·have eu3 := fu3 (dep_of 3 hru rfl (by kernel_rfl))
     replace eu3 := eu3.symm
     subst eu3
     refine wpOp_shut (by rfl) (fun K hK => ?_)
     simp only [Act.put,xL4,xL5,xL6]
     obtain ⟨XC_0,XC_1,XC_2⟩ := XC.below hbu
     go_simp
     exact hK.out _ _ ⟨vu0,vu1,vu2,(.pointer (some ⟨b,off + i * 3,none⟩)),(.agg #[.bool p1,.slice ao1 m1 d1,.slice bo1 k1 e1]),vu5,vu6,vu7,vu8,vu9,by simp only [Act.put,xL4,xL5,xL6],hbu,fun h => fu0 (mark_of (by decide) h),fun h => fu1 (mark_of (by decide) h),fun h => fu2 (mark_of (by decide) h),fun _ => rfl,fun _ => rfl,fun h => fu5 (mark_of (by decide) h),fun h => fu6 (mark_of (by decide) h),fun h => fu7 (mark_of (by decide) h),fun h => fu8 (mark_of (by decide) h),fun h => fu9 (mark_of (by decide) h)⟩
    ·refine wpOp_shut (by rfl) (fun K hK => ?_)
     simp only [Act.put,xL4,xL5,xL6]
     obtain ⟨VX_0,VX_1,VX_2,VX_3,VX_4,VX_5⟩ := VX.below hbu
     go_simp
     exact hK.out _ _ ⟨vu0,vu1,vu2,vu3,vu4,(.agg #[.bool px,.slice ax nx cx,.slice bx mx dx]),vu6,vu7,vu8,vu9,by simp only [Act.put,xL4,xL5,xL6],hbu,fun h => fu0 (mark_of (by decide) h),fun h => fu1 (mark_of (by decide) h),fun h => fu2 (mark_of (by decide) h),fun h => fu3 (mark_of (by decide) h),fun h => fu4 (mark_of (by decide) h),fun _ => rfl,fun h => fu6 (mark_of (by decide) h),fun h => fu7 (mark_of (by decide) h),fun h => fu8 (mark_of (by decide) h),fun h => fu9 (mark_of (by decide) h)⟩
    ·refine wpOp_shut (by rfl) (fun K hK => ?_)
     simp only [Act.put,xL4,xL5,xL6]
     go_simp
     exact hK.out _ _ ⟨vu0,vu1,vu2,vu3,vu4,vu5,(.int .i64 (i : Int)),vu7,vu8,vu9,by simp only [Act.put,xL4,xL5,xL6],hbu,fun h => fu0 (mark_of (by decide) h),fun h => fu1 (mark_of (by decide) h),fun h => fu2 (mark_of (by decide) h),fun h => fu3 (mark_of (by decide) h),fun h => fu4 (mark_of (by decide) h),fun h => fu5 (mark_of (by decide) h),fun _ => rfl,fun h => fu7 (mark_of (by decide) h),fun h => fu8 (mark_of (by decide) h),fun h => fu9 (mark_of (by decide) h)⟩
    ·have eu5 := fu5 (dep_of 5 hru rfl (by kernel_rfl))
     have eu6 := fu6 (dep_of 6 hru rfl (by kernel_rfl))
     replace eu5 := eu5.symm
     subst eu5
     replace eu6 := eu6.symm
     subst eu6
     refine wpOp_shut (by rfl) (fun K hK => ?_)
     simp only [Act.put,xL4,xL5,xL6]
     have hx := hx.below hbu
     have ht := ht.below hbu
     go_simp
     refine (power4_at _ x i X _ hx ht hX (by omega) hXn.out).mono ?_
     rintro eu wx ⟨x1,rfl,h1,bu⟩
     rw [HPW.out] at h1
     go_wp2_with fail
     have hbu2 := hbu.trans (bu.mono hbu.size)
     exact hK.out _ _ ⟨vu0,vu1,vu2,vu3,vu4,(.agg #[.bool px,.slice ax nx cx,.slice bx mx dx]),(.int .i64 (i : Int)),_,vu8,vu9,by simp only [Act.put,xL4,xL5,xL6],hbu2,fun h => fu0 (mark_of (by decide) h),fun h => fu1 (mark_of (by decide) h),fun h => fu2 (mark_of (by decide) h),fun h => fu3 (mark_of (by decide) h),fun h => fu4 (mark_of (by decide) h),fun _ => rfl,fun _ => rfl,fun _ => h1,fun h => (fu8 (mark_of (by decide) h)).below bu,fun h => (fu9 (mark_of (by decide) h)).below bu⟩
    ·have eu4 := fu4 (dep_of 4 hru rfl (by kernel_rfl))
     replace eu4 := eu4.symm
     subst eu4
     have h1 := fu7 (dep_of 7 hru rfl (by kernel_rfl))
     refine wpOp_shut (by rfl) (fun K hK => ?_)
     simp only [Act.put,xL4,xL5,xL6]
     have ht := ht.below hbu
     have Hi := Hi.below hbu
     go_simp
     refine (qmul_at _ _ qi pw (L + P_) _ (Hi.le (by omega)) (h1.at _ (by omega)) (by omega) (by omega) ht).mono ?_
     rintro eu wx ⟨x2,rfl,h2,bu⟩
     go_wp2_with fail
     have hbu2 := hbu.trans (bu.mono hbu.size)
     exact hK.out _ _ ⟨vu0,vu1,vu2,vu3,(.agg #[.bool p1,.slice ao1 m1 d1,.slice bo1 k1 e1]),vu5,vu6,vu7,_,vu9,by simp only [Act.put,xL4,xL5,xL6],hbu2,fun h => fu0 (mark_of (by decide) h),fun h => fu1 (mark_of (by decide) h),fun h => fu2 (mark_of (by decide) h),fun h => fu3 (mark_of (by decide) h),fun _ => rfl,fun h => fu5 (mark_of (by decide) h),fun h => fu6 (mark_of (by decide) h),fun h => (fu7 (mark_of (by decide) h)).below bu,fun _ => h2,fun h => (fu9 (mark_of (by decide) h)).below bu⟩
    ·have eu0 := fu0 (dep_of 0 hru rfl (by kernel_rfl))
     replace eu0 := eu0.symm
     subst eu0
     have h2 := fu8 (dep_of 8 hru rfl (by kernel_rfl))
     refine wpOp_shut (by rfl) (fun K hK => ?_)
     simp only [Act.put,xL4,xL5,xL6]
     have hO := hO.below hbu
     have ht := ht.below hbu
     go_simp
     refine (qadd_at _ _ ev (qi * pw) (E_ + L + P_) _ (hO.at _ (by omega)) (h2.at _ (Nat.le_trans (qsz_mul _ _ sqi sP) (by omega))) (by omega) (by omega) ht).mono ?_
     rintro eu wx ⟨x3,rfl,hr,bu⟩
     go_wp2_with fail
     have hbu2 := hbu.trans (bu.mono hbu.size)
     exact hK.out _ _ ⟨(.agg #[.bool pO,.slice aO nO cO,.slice bO mO dO]),vu1,vu2,vu3,vu4,vu5,vu6,vu7,vu8,_,by simp only [Act.put,xL4,xL5,xL6],hbu2,fun _ => rfl,fun h => fu1 (mark_of (by decide) h),fun h => fu2 (mark_of (by decide) h),fun h => fu3 (mark_of (by decide) h),fun h => fu4 (mark_of (by decide) h),fun h => fu5 (mark_of (by decide) h),fun h => fu6 (mark_of (by decide) h),fun h => (fu7 (mark_of (by decide) h)).below bu,fun h => (fu8 (mark_of (by decide) h)).below bu,fun _ => hr⟩
   rintro au Wu1 ⟨vu0,vu1,vu2,vu3,vu4,vu5,vu6,vu7,vu8,vu9,rfl,hbu,fu0,fu1,fu2,fu3,fu4,fu5,fu6,fu7,fu8,fu9⟩
   have eu0 := (fu0 rfl).symm
   subst eu0
   have eu1 := (fu1 rfl).symm
   subst eu1
   have eu2 := (fu2 rfl).symm
   subst eu2
   have eu3 := (fu3 rfl).symm
   subst eu3
   have eu4 := (fu4 rfl).symm
   subst eu4
   have eu5 := (fu5 rfl).symm
   subst eu5
   have eu6 := (fu6 rfl).symm
   subst eu6
   have h1 := fu7 rfl
   have h2 := fu8 rfl
   have hr := fu9 rfl
   clear fu0 fu1 fu2 fu3 fu4 fu5 fu6 fu7 fu8 fu9
   have hlVO : R1 < wr.heap.size := VO.lt
   have hlVX : w.heap.size < wr.heap.size := VX.lt
   have hlVR : w.heap.size + 1 < wr.heap.size := VR.lt
   have hlXC : b < wr.heap.size := XC.lt
   replace hO := hO.below hbu
   replace hx := hx.below hbu
   replace ht := ht.below hbu
   replace Hi := Hi.below hbu
   replace VO := VO.below hbu
   replace VX := VX.below hbu
   replace VR := VR.below hbu
   replace XC := XC.below hbu
   replace BB := BB.trans (hbu.mono BB.size)
   clear hbu
   obtain ⟨p3,a3,n3,c3,bo3,m3,d3,rfl⟩ := hr.open
   simp only [Act.put,xL4,xL5,xL6]
   refine xR [10] (h := ?_)
   refine AllReadyH.cons (by rfl) (fun K hK => ?_) AllReadyH.nil
   have hKp := VO.keepJ (.bool p3) (.slice a3 n3 c3) (.slice bo3 m3 d3)
   have VX_n := VX.other3 (R := R1) (by omega) (.bool p3) (.slice a3 n3 c3) (.slice bo3 m3 d3)
   have VR_n := VR.other3 (R := R1) (by omega) (.bool p3) (.slice a3 n3 c3) (.slice bo3 m3 d3)
   have XC_n := XC.other3 (R := R1) (by omega) (.bool p3) (.slice a3 n3 c3) (.slice bo3 m3 d3)
   have VO_n := VO.same (.bool p3) (.slice a3 n3 c3) (.slice bo3 m3 d3)
   have hO_n := hO.keep hKp
   have hx_n := hx.keep hKp
   have ht_n := ht.keep hKp
   have Hi_n := Hi.keep hKp
   have h1_n := h1.keep hKp
   have h2_n := h2.keep hKp
   have hr_n := hr.keep hKp
   have BB_n := below_store3 (R := R1) BB (by omega) (.bool p3) (.slice a3 n3 c3) (.slice bo3 m3 d3)
   clear hKp
   obtain ⟨VO_0,VO_1,VO_2,VO_3,VO_4,VO_5⟩ := id VO
   go_simp
   clear VO_0 VO_1 VO_2 VO_3 VO_4 VO_5
   clear BB hO hx ht Hi h1 h2 hr VO VX VR XC
   generalize ((Wu1.setCell ⟨R1,0,none⟩ (.bool p3)).setCell ⟨R1,1,none⟩ (.slice a3 n3 c3)).setCell ⟨R1,2,none⟩ (.slice bo3 m3 d3) = W2 at *
   have BB := BB_n
   have hO := hO_n
   have hx := hx_n
   have ht := ht_n
   have Hi := Hi_n
   have h1 := h1_n
   have h2 := h2_n
   have hr := hr_n
   have VO := VO_n
   have VX := VX_n
   have VR := VR_n
   have XC := XC_n
   clear BB_n hO_n hx_n ht_n Hi_n h1_n h2_n hr_n VO_n VX_n VR_n XC_n
   refine hK.out _ _ trivial (fun _ => ?_)
   clear hK K
   simp only [Act.put,xL4,xL5,xL6]
   refine wpAnyH_done (by kernel_rfl) ?_ _
   go_wp2
   go_roundw
   case rel => exact ⟨i + 1,p3,a3,n3,c3,bo3,m3,d3,by omega,by go_num,VO,by rw [HEV.out]; exact hr,VX,VR,BB⟩
   case measure => simp [intOf]; omega
  ·obtain rfl : i = n := by omega
   have hli : ¬ (i : Int) < (i : Int) := by omega
   have hR2 := hRO.out
   have hKp := VR.keepJ (.bool pO) (.slice aO nO cO) (.slice bO mO dO)
   have hO_n := hO.keep hKp
   have BB_n := below_store3 (R := w.heap.size + 1) BB (by omega) (.bool pO) (.slice aO nO cO) (.slice bO mO dO)
   clear hKp
   obtain ⟨VO_0,VO_1,VO_2,VO_3,VO_4,VO_5⟩ := id VO
   obtain ⟨q1,q2,q3,q4,q5,q6⟩ := id VR
   go_wp2
   (try simp only [Exit.inBlock,Exit.then])
   refine bodyPost_ret (v := .agg #[.bool pO,.slice aO nO cO,.slice bO mO dO]) (by simp [results,go_sem,q1,q2,q3]) rfl ?_
   exact ⟨_,rfl,hO_n,BB_n⟩
end Go.Proofs.YtnbocjbfieklhaaGreatDoor
