/-
  Texts of mine, joined: what lies beneath the statement.
-/
import Derived.Test.YtieeneaebjihlaaGreatDoorJ3234f0f596
import Derived.Test.YtieeneaebjihlaaGreatDoorJ19e5911ad6
namespace Go.Proofs.YtieeneaebjihlaaGreatDoor
open Go.RowKit
set_option linter.unusedVariables false
set_option linter.unusedSimpArgs false


set_option maxRecDepth 20000 in
set_option maxHeartbeats 1000000 in
theorem number4_at (p : Bool) (s t : Value) (n m : Nat) (f g : Nat → Int) (w : World) (h : Raw w s n f) (k : Raw w t m g) :
  Calls Tryz.prog 5 #[.agg #[.bool p,s,t]] w fun e w' => FewOut p (min n 2) (min m 2) f g w e w' := by
 have hA : ∀ o o',Below w.heap.size w ((w.alloc o).alloc o') := fun o o' => ((Below.refl _ _).alloc (Nat.le_refl _) _).alloc (by simp) _
 obtain ⟨ao,c,rfl,hnil,hnc,hcm,hu,h4⟩ := h
 obtain ⟨bo,d,rfl,knil,knc,kcm,ku,k4⟩ := k
 unfold maxLen at hcm kcm
 by_cases hlt : 2 < n
 ·obtain ⟨b1,off1,rfl,hc⟩ := h4 (by omega)
  have hN : Nums .u64 w (.slice (some ⟨b1,off1,none⟩) 2 c) 2 f := ⟨_,_,rfl,by omega,by unfold LIM; omega,fun _ => ⟨_,_,rfl,hc.mono (by omega)⟩⟩
  have hi : (n : Int) > 2 := by omega
  rw [show min n 2 = 2 by omega]
  by_cases klt : 2 < m
  ·obtain ⟨b2,off2,rfl,kc⟩ := k4 (by omega)
   have kN : Nums .u64 w (.slice (some ⟨b2,off2,none⟩) 2 d) 2 g := ⟨_,_,rfl,by omega,by unfold LIM; omega,fun _ => ⟨_,_,rfl,kc.mono (by omega)⟩⟩
   have ki : (m : Int) > 2 := by omega
   rw [show min m 2 = 2 by omega]
   go_enter Tryz.func5,Tryz.ntmps5
   go_wp2
   refine bodyPost_ret (v := .agg #[.bool p,.slice (some ⟨b1,off1,none⟩) 2 c,.slice (some ⟨b2,off2,none⟩) 2 d]) (by simp [results,go_sem]) rfl ?_
   exact ⟨_,_,_,_,rfl,hN.below (hA _ _),fun i hi => hu i (by omega),kN.below (hA _ _),fun i hi => ku i (by omega),hA _ _⟩
  ·have kN : Nums .u64 w (.slice bo m d) m g := ⟨_,_,rfl,knc,by unfold LIM; omega,k4⟩
   have ki : ¬ (m : Int) > 2 := by omega
   rw [show min m 2 = m by omega]
   go_enter Tryz.func5,Tryz.ntmps5
   go_wp2
   refine bodyPost_ret (v := .agg #[.bool p,.slice (some ⟨b1,off1,none⟩) 2 c,.slice bo m d]) (by simp [results,go_sem]) rfl ?_
   exact ⟨_,_,_,_,rfl,hN.below (hA _ _),fun i hi => hu i (by omega),kN.below (hA _ _),fun i hi => ku i (by omega),hA _ _⟩
 ·have hN : Nums .u64 w (.slice ao n c) n f := ⟨_,_,rfl,hnc,by unfold LIM; omega,h4⟩
  have hi : ¬ (n : Int) > 2 := by omega
  rw [show min n 2 = n by omega]
  by_cases klt : 2 < m
  ·obtain ⟨b2,off2,rfl,kc⟩ := k4 (by omega)
   have kN : Nums .u64 w (.slice (some ⟨b2,off2,none⟩) 2 d) 2 g := ⟨_,_,rfl,by omega,by unfold LIM; omega,fun _ => ⟨_,_,rfl,kc.mono (by omega)⟩⟩
   have ki : (m : Int) > 2 := by omega
   rw [show min m 2 = 2 by omega]
   go_enter Tryz.func5,Tryz.ntmps5
   go_wp2
   refine bodyPost_ret (v := .agg #[.bool p,.slice ao n c,.slice (some ⟨b2,off2,none⟩) 2 d]) (by simp [results,go_sem]) rfl ?_
   exact ⟨_,_,_,_,rfl,hN.below (hA _ _),fun i hi => hu i (by omega),kN.below (hA _ _),fun i hi => ku i (by omega),hA _ _⟩
  ·have kN : Nums .u64 w (.slice bo m d) m g := ⟨_,_,rfl,knc,by unfold LIM; omega,k4⟩
   have ki : ¬ (m : Int) > 2 := by omega
   rw [show min m 2 = m by omega]
   go_enter Tryz.func5,Tryz.ntmps5
   go_wp2
   refine bodyPost_ret (v := .agg #[.bool p,.slice ao n c,.slice bo m d]) (by simp [results,go_sem]) rfl ?_
   exact ⟨_,_,_,_,rfl,hN.below (hA _ _),fun i hi => hu i (by omega),kN.below (hA _ _),fun i hi => ku i (by omega),hA _ _⟩



set_option maxRecDepth 20000 in
set_option maxHeartbeats 4000000 in
theorem few4_at (v : Value) (n K : Nat) (q : Nat → Rat) (w : World) (hv : RawQ w v n q 2) (hK : K ≤ 100) :
  Calls Tryz.prog 4 #[v,.int .i64 (K : Int)] w fun e w' => ∃ r,e = .returned r ∧ QOwn w.heap.size w' r (min n K) q 2 ∧ Below w.heap.size w w' := by
 have HV : Hid (RawQ w v n q 2) := hv
 obtain ⟨el,⟨a,c,rfl,hnc,hcm,_⟩,_⟩ := hv
 go_enter Tryz.func4,Tryz.ntmps4
 go_wp2
 go_loopw [5,6] (fun vm vi wr => ∃ i : Nat,i ≤ n ∧ i ≤ K ∧ vi = .int .i64 (i : Int) ∧ QOwn w.heap.size wr vm i q 2 ∧ Below w.heap.size w wr) (fun _ vi _ => K - (intOf vi).toNat)
 case atStart => exact ⟨0,by omega,by omega,rfl,QOwn.nil _ _ _ _,Below.refl _ _⟩
 case round =>
  obtain ⟨i,hin,hi12,rfl,O,B⟩ := hrel
  by_cases hgo : i < n ∧ i < K
  ·have j1 : (i : Int) < (n : Int) := by omega
   have j2 : (i : Int) < (K : Int) := by omega
   have i0 : (0 : Int) ≤ (i : Int) := by omega
   obtain ⟨b,off,cc,s,ao1,l,d1,bo1,k1,e1,f,g,hvv,hcc,x0,x1,x2,hraw,hraw2,hz⟩ := HV.out.at i hgo.1
   cases hvv
   have HC : E3 w b (off + i * 3) (.bool s) (.slice ao1 l d1) (.slice bo1 k1 e1) := ⟨x0,x1,x2⟩
   clear x0 x1 x2
   have HZ : Hid (q i = mkRat (zof s (num f (min l 2))) (num g (min k1 2))) := hz
   clear hz
   have r1 := hraw.below B
   have r2 := hraw2.below B
   obtain ⟨x0,x1,x2⟩ := HC.below B
   go_wp2_with fail
   clear x0 x1 x2
   refine (number4_at _ _ _ _ _ _ _ _ r1 r2).mono ?_
   rintro e w4 ⟨ao4,c4,bo4,d4,rfl,hu4,uf4,hv4,vf4,b4⟩
   have X4 : RatAt w4 (.agg #[.bool s,.slice ao4 (min l 2) c4,.slice bo4 (min k1 2) d4]) (q i) 2 := by rw [HZ.out]; exact RatAt.raw hu4 uf4 hv4 vf4 (Nat.min_le_right _ _) (Nat.min_le_right _ _)
   clear hu4 uf4 hv4 vf4
   generalize min l 2 = l4 at X4 ⊢
   generalize min k1 2 = k4 at X4 ⊢
   obtain ⟨us,el',o1,o2,o3,o4⟩ := O
   have hul : us.length = i * 3 := o1.1
   have HO3 : Hid (∀ i',i' < i → ∀ j,j < 3 → us[i' * 3 + j]? = some (el' i' j)) := o3
   have HO4 : Hid (∀ i',i' < i → RatAt wr (.agg #[el' i' 0,el' i' 1,el' i' 2]) (q i') 2) := o4
   have b4' : Below wr.heap.size wr (w4.alloc (.cells #[.bool s,.slice ao4 l4 c4,.slice bo4 k4 d4] 28)) := b4.alloc b4.size _
   have hPO : Hid (∀ g0,Value.ownBlock u5 = some g0 → PureB IsNum (w4.alloc (.cells #[.bool s,.slice ao4 l4 c4,.slice bo4 k4 d4] 28)) g0) := fun g0 hg0 => (o2 g0 hg0).below b4' (o1.lt g0 hg0).2
   have hlt : Hid (∀ g0,Value.ownBlock u5 = some g0 → w.heap.size ≤ g0) := fun g0 hg0 => (o1.lt g0 hg0).1
   clear o2 o3 o4 r1 r2
   go_wp2_with (at_builtin; refine wpList_append_pure (Q' := IsNum) rfl _ _ _ rfl w.heap.size 28 (.agg #[.bool false,.slice none 0 0,.slice none 0 0]) 3 56 Tryz.underlying22 info_wrat rfl (by omega) u5 rfl i us ((owns_later o1 b4).alloc _) hPO.out ⟨w4.heap.size,0,none⟩ 1 rfl [.bool s,.slice ao4 l4 c4,.slice bo4 k4 d4] rfl (news_block (heap_alloc_new _ _)) (by simp [Value.oneCell']) (by simp [num_slice,num_bool]) (by simp [Value.cells,num_slice,num_bool]) (by omega) (by omega) (by have := B.size; have := b4'.size; simp at this ⊢; omega) ?_)
   intro g5 cap5 w5 ho5 hg5 hat5 hp5 hk5
   have E : QOwn w.heap.size w5 (.slice (some ⟨g5,0,none⟩) (i + 1) cap5) (i + 1) q 2 := QOwn.more ho5 hp5 hul HO3.out (fun i' hi' => (HO4.out i' hi').below b4') (X4.below ((Below.refl _ _).alloc (Nat.le_refl _) _)) hk5
   have B4 := B.trans (b4'.mono B.size)
   have BB : Below w.heap.size w w5 := below_grownB B4 hg5 (by have := B4.size; omega) (fun g0 hg0 => by have := hlt.out g0 hg0; omega)
   clear o1 hPO hlt HO3 HO4 b4 b4' X4 ho5 hg5 hat5 hp5 hk5 B B4 hul HC hraw hraw2
   go_wp2
   go_roundw
   case rel => exact ⟨i + 1,by omega,by omega,by go_num,E,BB⟩
   case measure => simp [intOf]; omega
  ·have hmn : min n K = i := by omega
   by_cases h1 : i < n
   ·have j1 : (i : Int) < (n : Int) := by omega
    have j2 : ¬ (i : Int) < (K : Int) := by omega
    have j3 : decide ((i : Int) < (K : Int)) = false := decide_eq_false j2
    have j4 : decide (i < K) = false := decide_eq_false (by omega)
    go_wp2
    go_ret
    exact ⟨_,rfl,O,B⟩
   ·have j1 : ¬ (i : Int) < (n : Int) := by omega
    have j3 : decide ((i : Int) < (n : Int)) = false := decide_eq_false j1
    have j4 : decide (i < n) = false := decide_eq_false h1
    go_wp2
    go_ret
    exact ⟨_,rfl,O,B⟩





/-- Two rows lie in two blocks. -/
def Aside (v1 v2 : Value) : Prop := ∀ g,v1.ownBlock = some g → v2.ownBlock ≠ some g
theorem Aside.symm {v1 v2 : Value} (h : Aside v1 v2) : Aside v2 v1 := fun g h1 h2 => h g h2 h1
theorem FOwn.stay {B : Nat} {w w' : World} {v x : Value} {n : Nat} {q : Nat → Rat} (h : FOwn B w v n q) (hg : w.grownBy w' x.ownBlock) (hk : KeepQ IsNum w w') (ha : Aside v x) : FOwn B w' v n q := by
 obtain ⟨us,el,h1,h2,h3,h4⟩ := h
 have hv : ∀ g,v.ownBlock = some g → some g ≠ x.ownBlock := fun g hg e => ha g hg e.symm
 refine ⟨us,el,h1.kept hg ?_,fun g hgg o u hu => h2 g hgg o u ?_,h3,fun i hi => (h4 i hi).keep hk⟩
 ·cases hb : v.ownBlock with
  | none => exact .inl rfl
  | some g => exact .inr (hv g hb)
 ·rw [← World.cell?_of_block (w := w) (hg.block g (h1.lt g hgg).2 (hv g hgg))]; exact hu
theorem co_beyond (n : Nat) (q : Nat → Rat) (i : Nat) (h : n ≤ i) : co n q i = 0 := by unfold co; rw [if_neg (by omega)]
end Go.Proofs.YtieeneaebjihlaaGreatDoor

namespace Go.Proofs.YtieeneaebjihlaaGreatDoor
set_option linter.unusedVariables false

theorem sumq_scale (f : Nat → Rat) (s : Rat) : ∀ n,sumq (fun i => f i * s) n = sumq f n * s
 | 0 => by show (0 : Rat) = 0 * s; grind
 | n + 1 => by show sumq (fun i => f i * s) n + f n * s = (sumq f n + f n) * s; rw [sumq_scale f s n]; grind
theorem sumq_scaleL (f : Nat → Rat) (s : Rat) : ∀ n,sumq (fun i => s * f i) n = s * sumq f n
 | 0 => by show (0 : Rat) = s * 0; grind
 | n + 1 => by show sumq (fun i => s * f i) n + s * f n = s * (sumq f n + f n); rw [sumq_scaleL f s n]; grind
theorem sumq_first (f : Nat → Rat) : ∀ n,sumq f (n + 1) = f 0 + sumq (fun i => f (i + 1)) n
 | 0 => by show (0 : Rat) + f 0 = f 0 + 0; grind
 | n + 1 => by show sumq f (n + 1) + f (n + 1) = f 0 + (sumq (fun i => f (i + 1)) n + f (n + 1)); rw [sumq_first f n]; grind
theorem sumq_rev (f : Nat → Rat) : ∀ n,sumq (fun i => f (n - i)) (n + 1) = sumq f (n + 1)
 | 0 => rfl
 | n + 1 => by
  rw [sumq_first]
  show f (n + 1) + sumq (fun i => f (n + 1 - (i + 1))) (n + 1) = sumq f (n + 1) + f (n + 1)
  rw [sumq_congr (fun i => f (n + 1 - (i + 1))) (fun i => f (n - i)) (n + 1) (fun i _ => by show f (n + 1 - (i + 1)) = f (n - i); rw [show n + 1 - (i + 1) = n - i by omega]),sumq_rev f n]
  grind
/-- A sum over a triangle, by its diagonals and by its rows. -/
theorem sumq_tri (F : Nat → Nat → Rat) : ∀ N,sumq (fun p => sumq (fun i => F i (p - i)) (p + 1)) N = sumq (fun i => sumq (fun k => F i k) (N - i)) N
 | 0 => rfl
 | N + 1 => by
  show sumq (fun p => sumq (fun i => F i (p - i)) (p + 1)) N + (sumq (fun i => F i (N - i)) N + F N (N - N)) = sumq (fun i => sumq (fun k => F i k) (N + 1 - i)) N + sumq (fun k => F N k) (N + 1 - N)
  rw [sumq_tri F N,sumq_congr (fun i => sumq (fun k => F i k) (N + 1 - i)) (fun i => sumq (fun k => F i k) (N - i) + F i (N - i)) N (fun i hi => by show sumq (fun k => F i k) (N + 1 - i) = _; rw [show N + 1 - i = (N - i) + 1 by omega]; rfl),sumq_add,show N + 1 - N = 0 + 1 by omega]
  show _ = _ + (0 + F N 0)
  rw [show N - N = 0 by omega]
  grind
/-- The product of two rows of coefficients without an end. -/
def cmul (f g : Nat → Rat) (p : Nat) : Rat := sumq (fun i => f i * g (p - i)) (p + 1)
theorem conv_cmul (n : Nat) (q : Nat → Rat) (m : Nat) (r : Nat → Rat) (p : Nat) : conv n q m r p = cmul (co n q) (co m r) p := rfl
theorem cmul_congr {f f' g g' : Nat → Rat} (h1 : ∀ i,f i = f' i) (h2 : ∀ i,g i = g' i) (p : Nat) : cmul f g p = cmul f' g' p := sumq_congr _ _ _ (fun i _ => by rw [h1,h2])
theorem cmul_comm (f g : Nat → Rat) (p : Nat) : cmul f g p = cmul g f p := by
 unfold cmul
 rw [← sumq_rev]
 refine sumq_congr _ _ _ (fun i hi => ?_)
 show f (p - i) * g (p - (p - i)) = g i * f (p - i)
 rw [show p - (p - i) = i by omega,Rat.mul_comm]
theorem cmul_assoc (f g h : Nat → Rat) (p : Nat) : cmul (cmul f g) h p = cmul f (cmul g h) p := by
 have t := sumq_tri (fun j k => f j * g k * h (p - (j + k))) (p + 1)
 have l : cmul (cmul f g) h p = sumq (fun i => sumq (fun j => f j * g (i - j) * h (p - (j + (i - j)))) (i + 1)) (p + 1) := by
  refine sumq_congr _ _ _ (fun i hi => ?_)
  show sumq (fun j => f j * g (i - j)) (i + 1) * h (p - i) = _
  rw [← sumq_scale]
  refine sumq_congr _ _ _ (fun j hj => ?_)
  show f j * g (i - j) * h (p - i) = f j * g (i - j) * h (p - (j + (i - j)))
  rw [show j + (i - j) = i by omega]
 rw [l]
 refine t.trans ?_
 refine sumq_congr _ _ _ (fun j hj => ?_)
 show sumq (fun k => f j * g k * h (p - (j + k))) (p + 1 - j) = f j * sumq (fun k => g k * h (p - j - k)) (p - j + 1)
 rw [← sumq_scaleL,show p + 1 - j = p - j + 1 by omega]
 refine sumq_congr _ _ _ (fun k hk => ?_)
 show f j * g k * h (p - (j + k)) = f j * (g k * h (p - j - k))
 rw [show p - (j + k) = p - j - k by omega,Rat.mul_assoc]
def cone (i : Nat) : Rat := if i = 0 then 1 else 0
theorem cmul_one (g : Nat → Rat) (p : Nat) : cmul cone g p = g p := by
 unfold cmul
 rw [sumq_first,sumq_zero _ p (fun i _ => by show cone (i + 1) * _ = 0; unfold cone; rw [if_neg (by omega)]; grind)]
 show cone 0 * g (p - 0) + 0 = g p
 unfold cone
 rw [if_pos rfl,Nat.sub_zero]
 grind
/-- A power of a row of coefficients. -/
def cpow (f : Nat → Rat) : Nat → Nat → Rat
 | 0 => cone
 | k + 1 => cmul (cpow f k) f
theorem evN_sum (q : Nat → Rat) (x : Rat) : ∀ n,evN q x n = sumq (fun i => q i * x ^ i) n
 | 0 => rfl
 | n + 1 => by show evN q x n + q n * x ^ n = sumq (fun i => q i * x ^ i) n + q n * x ^ n; rw [evN_sum q x n]
theorem evN_congr {q r : Nat → Rat} (x : Rat) : ∀ n,(∀ i,i < n → q i = r i) → evN q x n = evN r x n
 | 0,_ => rfl
 | n + 1,h => by show evN q x n + q n * x ^ n = evN r x n + r n * x ^ n; rw [evN_congr x n (fun i hi => h i (by omega)),h n (by omega)]
theorem evN_more (q : Nat → Rat) (x : Rat) (n : Nat) (h : ∀ i,n ≤ i → q i = 0) : ∀ k,evN q x (n + k) = evN q x n
 | 0 => rfl
 | k + 1 => by show evN q x (n + k) + q (n + k) * x ^ (n + k) = _; rw [evN_more q x n h k,h (n + k) (by omega)]; grind
theorem evN_co (n : Nat) (q : Nat → Rat) (x : Rat) : evN (co n q) x n = evN q x n := evN_congr x n (fun i hi => if_pos hi)
theorem evN_any (n : Nat) (q : Nat → Rat) (x : Rat) (N : Nat) (h : n ≤ N) : evN (co n q) x N = evN q x n := by
 rw [show N = n + (N - n) by omega,evN_more (co n q) x n (fun i hi => if_neg (by omega)),evN_co]
theorem pow_add_rat (x : Rat) (a : Nat) : ∀ b,x ^ (a + b) = x ^ a * x ^ b
 | 0 => by rw [Nat.add_zero,Rat.pow_zero,Rat.mul_one]
 | b + 1 => by rw [← Nat.add_assoc,Rat.pow_succ,pow_add_rat x a b,Rat.pow_succ,Rat.mul_assoc]
/-- The value of a product is the product of the values. -/
theorem evN_conv (n : Nat) (q : Nat → Rat) (m : Nat) (r : Nat → Rat) (x : Rat) : evN (conv n q m r) x (n + m) = evN q x n * evN r x m := by
 have t := sumq_tri (fun i k => co n q i * x ^ i * (co m r k * x ^ k)) (n + m)
 rw [evN_sum]
 have l : sumq (fun p => conv n q m r p * x ^ p) (n + m) = sumq (fun p => sumq (fun i => co n q i * x ^ i * (co m r (p - i) * x ^ (p - i))) (p + 1)) (n + m) := by
  refine sumq_congr _ _ _ (fun p hp => ?_)
  show sumq (fun i => co n q i * co m r (p - i)) (p + 1) * x ^ p = _
  rw [← sumq_scale]
  refine sumq_congr _ _ _ (fun i hi => ?_)
  show co n q i * co m r (p - i) * x ^ p = co n q i * x ^ i * (co m r (p - i) * x ^ (p - i))
  rw [show x ^ p = x ^ i * x ^ (p - i) by rw [← pow_add_rat,show i + (p - i) = p by omega]]
  grind
 rw [l]
 refine t.trans ?_
 have e : ∀ i,i < n + m → sumq (fun k => co n q i * x ^ i * (co m r k * x ^ k)) (n + m - i) = co n q i * x ^ i * evN r x m := by
  intro i hi
  rw [sumq_scaleL,← evN_sum (co m r) x]
  by_cases h : i < n
  ·rw [evN_any m r x _ (by omega)]
  ·rw [show co n q i = 0 from if_neg h]; grind
 rw [sumq_congr _ _ _ e,sumq_scale (fun i => co n q i * x ^ i),← evN_sum (co n q) x,evN_any n q x _ (by omega)]

/-- The first n are whole numbers over one divisor, none of more than h limbs. -/
def IForm (n : Nat) (q : Nat → Rat) (h : Nat) : Prop := ∃ (D : Int) (z : Nat → Int),D ≠ 0 ∧ nl W32 D.natAbs ≤ h ∧ ∀ i,i < n → q i * (D : Rat) = (z i : Rat) ∧ nl W32 (z i).natAbs ≤ h
theorem intc_ne {D : Int} (h : D ≠ 0) : (D : Rat) ≠ 0 := fun e => h (by exact_mod_cast e)
theorem IForm.le {n : Nat} {q : Nat → Rat} {h k : Nat} (f : IForm n q h) (hk : h ≤ k) : IForm n q k := by
 obtain ⟨D,z,h1,h2,h3⟩ := f
 exact ⟨D,z,h1,Nat.le_trans h2 hk,fun i hi => ⟨(h3 i hi).1,Nat.le_trans (h3 i hi).2 hk⟩⟩
theorem IForm.less {n m : Nat} {q : Nat → Rat} {h : Nat} (f : IForm n q h) (hm : m ≤ n) : IForm m q h := by
 obtain ⟨D,z,h1,h2,h3⟩ := f
 exact ⟨D,z,h1,h2,fun i hi => h3 i (by omega)⟩
theorem IForm.sz {n : Nat} {q : Nat → Rat} {h : Nat} (f : IForm n q h) (hh : 1 ≤ h) (i : Nat) (hi : i < n) : qsz (q i) ≤ h := by
 obtain ⟨D,z,h1,h2,h3⟩ := f
 obtain ⟨h4,h5⟩ := h3 i hi
 have hD := intc_ne h1
 have key : ∀ d y : Rat,d ≠ 0 → q i * d = y → q i = y / d := fun d y hd h => by rw [← h,Rat.div_def,Rat.mul_assoc,Rat.mul_inv_cancel _ hd,Rat.mul_one]
 rcases Int.natAbs_eq D with hs | hs
 ·have : q i = mkRat (z i) D.natAbs := by
   rw [Rat.mkRat_eq_div,← Rat.intCast_natCast,← hs]
   exact key _ _ hD h4
  rw [this]; exact nl_num_mkRat _ _ _ h5 h2 hh
 ·have hs2 : ((D.natAbs : Int) : Rat) = -(D : Rat) := by
   have : (D.natAbs : Int) = -D := by omega
   rw [this,Rat.intCast_neg]
  have : q i = mkRat (-(z i)) D.natAbs := by
   rw [Rat.mkRat_eq_div,← Rat.intCast_natCast,hs2]
   refine key _ _ (fun e => hD (by grind)) ?_
   rw [Rat.intCast_neg,← h4]
   grind
  rw [this]; exact nl_num_mkRat _ _ _ (nlz_neg h5) h2 hh
/-- One step of a division. -/
theorem IForm.step {m below k H hb : Nat} {R b : Nat → Rat} (fR : IForm m R H) (fb : IForm (below + 1) b hb) (htop : b below ≠ 0) (hk : k + below < m) : IForm m (stepR b below k R) (H + hb + 1) := by
 obtain ⟨E,Z,e1,e2,e3⟩ := fR
 obtain ⟨D,y,d1,d2,d3⟩ := fb
 have hyb := (d3 below (by omega)).1
 have hy0 : y below ≠ 0 := by
  intro e
  rw [e] at hyb
  rcases Rat.mul_eq_zero.1 (hyb.trans rfl) with h | h
  ·exact htop h
  ·exact intc_ne d1 h
 refine ⟨E * y below,fun j => if k ≤ j ∧ j < k + below then Z j * y below - Z (k + below) * y (j - k) else Z j * y below,Int.mul_ne_zero e1 hy0,nlz_mul e2 (d3 below (by omega)).2 (by omega),fun j hj => ?_⟩
 have hRj := (e3 j hj).1
 have hRt := (e3 (k + below) hk).1
 show stepR b below k R j * _ = _ ∧ _
 unfold stepR
 by_cases h : k ≤ j ∧ j < k + below
 ·simp only [if_pos h]
  have hyj := (d3 (j - k) (by omega)).1
  have hc : R (k + below) / b below * b below = R (k + below) := Rat.div_mul_cancel htop
  refine ⟨?_,?_⟩
  ·rw [Rat.intCast_mul,Rat.intCast_sub,Rat.intCast_mul,Rat.intCast_mul,← hyb,← hyj,← hRj,← hRt]
   generalize R (k + below) / b below = c at *
   rw [← hc]
   grind
  ·rw [Int.sub_eq_add_neg]
   exact nlz_add (nlz_mul (e3 j hj).2 (d3 below (by omega)).2 (Nat.le_refl _)) (nlz_neg (nlz_mul (e3 (k + below) hk).2 (d3 (j - k) (by omega)).2 (Nat.le_refl _))) (by omega) (by omega)
 ·simp only [if_neg h]
  refine ⟨?_,nlz_mul (e3 j hj).2 (d3 below (by omega)).2 (by omega)⟩
  rw [Rat.intCast_mul,Rat.intCast_mul,← hRj,Rat.mul_assoc]
theorem IForm.div {m below hb : Nat} {b : Nat → Rat} (fb : IForm (below + 1) b hb) (htop : b below ≠ 0) : ∀ (k H : Nat) (R : Nat → Rat),IForm m R H → k + below ≤ m → IForm m (divR b below k R) (H + k * (hb + 1))
 | 0,H,R,f,_ => f.le (by omega)
 | k + 1,H,R,f,hk => by
  have h := IForm.div fb htop k (H + hb + 1) (stepR b below k R) (f.step fb htop (by omega)) (by omega)
  refine IForm.le (show IForm m (divR b below (k + 1) R) _ from h) ?_
  rw [Nat.succ_mul]; omega
theorem allS_form {m below hb S : Nat} {b : Nat → Rat} (fb : IForm (below + 1) b hb) (htop : b below ≠ 0) : ∀ (k H : Nat) (R : Nat → Rat),IForm m R H → 1 ≤ H → k + below ≤ m → H + k * (hb + 1) ≤ S → allS m b below S k R
 | 0,H,R,f,h1,_,hS => fun i hi => Nat.le_trans (f.sz h1 i hi) (by omega)
 | k + 1,H,R,f,h1,hk,hS => by
  rw [Nat.succ_mul] at hS
  exact ⟨fun i hi => Nat.le_trans (f.sz h1 i hi) (by omega),allS_form fb htop k (H + hb + 1) (stepR b below k R) (f.step fb htop (by omega)) (by omega) (by omega) (by omega)⟩
theorem IForm.monic {n t h : Nat} {q : Nat → Rat} (f : IForm n q h) (ht : t < n) (h0 : q t ≠ 0) : IForm n (fun i => q i * (q t)⁻¹) h := by
 obtain ⟨D,z,h1,h2,h3⟩ := f
 have hz := (h3 t ht).1
 have hz0 : z t ≠ 0 := by
  intro e
  rw [e] at hz
  rcases Rat.mul_eq_zero.1 (hz.trans rfl) with h | h
  ·exact h0 h
  ·exact intc_ne h1 h
 refine ⟨z t,z,hz0,(h3 t ht).2,fun i hi => ⟨?_,(h3 i hi).2⟩⟩
 show q i * (q t)⁻¹ * (z t : Rat) = z i
 rw [← (h3 i hi).1,← hz,Rat.mul_assoc,← Rat.mul_assoc (q t)⁻¹,Rat.inv_mul_cancel _ h0,Rat.one_mul]
theorem IForm.of_sz (L : Nat) (q : Nat → Rat) : ∀ n,(∀ i,i < n → qsz (q i) ≤ L) → IForm n q (n * L + 1)
 | 0,_ => ⟨1,fun _ => 0,by decide,Nat.le_trans nlw_one (by omega),fun i hi => by omega⟩
 | n + 1,h => by
  obtain ⟨D,z,h1,h2,h3⟩ := IForm.of_sz L q n (fun i hi => h i (by omega))
  have hd : nl W32 ((q n).den : Int).natAbs ≤ L := by rw [Int.natAbs_natCast]; exact Nat.le_trans (qsz_den _) (h n (by omega))
  have hn : nl W32 (q n).num.natAbs ≤ L := Nat.le_trans (qsz_num _) (h n (by omega))
  have hq : q n * (((q n).den : Int) : Rat) = ((q n).num : Rat) := by
   have h := mkRat_mul_den (q n).num (q n).den (Nat.pos_of_ne_zero (q n).den_nz)
   rw [Rat.mkRat_self] at h
   rw [Rat.intCast_natCast]; exact h
  refine ⟨D * ((q n).den : Int),fun i => if i < n then z i * ((q n).den : Int) else (q n).num * D,Int.mul_ne_zero h1 (by have := (q n).den_nz; omega),nlz_mul h2 hd (by rw [Nat.succ_mul]; omega),fun i hi => ?_⟩
  by_cases e : i < n
  ·simp only [if_pos e]
   refine ⟨?_,nlz_mul (h3 i e).2 hd (by rw [Nat.succ_mul]; omega)⟩
   rw [Rat.intCast_mul,Rat.intCast_mul,← (h3 i e).1,Rat.mul_assoc]
  ·obtain rfl : i = n := by omega
   simp only [if_neg e]
   refine ⟨?_,nlz_mul hn h2 (by rw [Nat.succ_mul]; omega)⟩
   rw [Rat.intCast_mul,Rat.intCast_mul,← hq]
   grind
theorem sum_form {D : Rat} {f : Nat → Rat} {z : Nat → Int} {L : Nat} : ∀ n,(∀ i,i < n → f i * D = (z i : Rat) ∧ nl W32 (z i).natAbs ≤ L) → ∃ s : Int,sumq f n * D = (s : Rat) ∧ nl W32 s.natAbs ≤ L + n
 | 0,_ => ⟨0,by show (0 : Rat) * D = ((0 : Int) : Rat); rw [Rat.zero_mul]; rfl,Nat.le_trans (by decide) (Nat.zero_le _)⟩
 | n + 1,h => by
  obtain ⟨s,h1,h2⟩ := sum_form n (fun i hi => h i (by omega))
  obtain ⟨h3,h4⟩ := h n (by omega)
  refine ⟨s + z n,?_,nlz_add h2 h4 (by omega) (by omega)⟩
  show (sumq f n + f n) * D = _
  rw [Rat.add_mul,h1,h3,Rat.intCast_add]
theorem IForm.conv {n m h1 h2 N : Nat} {q r : Nat → Rat} (f : IForm n q h1) (g : IForm m r h2) : IForm N (conv n q m r) (h1 + h2 + N) := by
 obtain ⟨D,z,d1,d2,d3⟩ := f
 obtain ⟨E,y,e1,e2,e3⟩ := g
 have hex : ∀ p,p < N → ∃ s : Int,Go.Proofs.YtieeneaebjihlaaGreatDoor.conv n q m r p * ((D * E : Int) : Rat) = (s : Rat) ∧ nl W32 s.natAbs ≤ h1 + h2 + N := by
  intro p hp
  obtain ⟨s,s1,s2⟩ := sum_form (D := ((D * E : Int) : Rat)) (f := fun i => co n q i * co m r (p - i)) (z := fun i => if i < n ∧ p - i < m then z i * y (p - i) else 0) (L := h1 + h2) (p + 1) (fun i hi => by
   by_cases h : i < n ∧ p - i < m
   ·simp only [if_pos h,co_lt h.1,co_lt h.2]
    refine ⟨?_,nlz_mul (d3 i h.1).2 (e3 _ h.2).2 (Nat.le_refl _)⟩
    rw [Rat.intCast_mul,Rat.intCast_mul,← (d3 i h.1).1,← (e3 _ h.2).1]
    grind
   ·simp only [if_neg h]
    refine ⟨?_,Nat.le_trans (by decide) (Nat.zero_le _)⟩
    have : co n q i * co m r (p - i) = 0 := by
     by_cases a : i < n
     ·rw [co_ge (n := m) (by omega),Rat.mul_zero]
     ·rw [co_ge (n := n) a,Rat.zero_mul]
    rw [this,Rat.zero_mul]; rfl)
  exact ⟨s,s1,Nat.le_trans s2 (by omega)⟩
 exact ⟨D * E,fun p => if h : p < N then Classical.choose (hex p h) else 0,Int.mul_ne_zero d1 e1,nlz_mul d2 e2 (by omega),fun p hp => by
  simp only [dif_pos hp]
  exact Classical.choose_spec (hex p hp)⟩

/-- d divides f. -/
def Dv (d f : Nat → Rat) : Prop := ∃ (h : Nat → Rat) (N : Nat),(∀ i,N ≤ i → h i = 0) ∧ ∀ i,f i = cmul d h i
theorem cmul_add (f g h : Nat → Rat) (p : Nat) : cmul f (fun i => g i + h i) p = cmul f g p + cmul f h p := by
 unfold cmul
 rw [← sumq_add]
 exact sumq_congr _ _ _ (fun i _ => Rat.mul_add _ _ _)
theorem cmul_scale (f g : Nat → Rat) (s : Rat) (p : Nat) : cmul f (fun i => g i * s) p = cmul f g p * s := by
 unfold cmul
 rw [← sumq_scale]
 exact sumq_congr _ _ _ (fun i _ => by show f i * (g (p - i) * s) = f i * g (p - i) * s; rw [Rat.mul_assoc])
theorem cmul_far {f g : Nat → Rat} {N M : Nat} (hf : ∀ i,N ≤ i → f i = 0) (hg : ∀ i,M ≤ i → g i = 0) (p : Nat) (hp : N + M ≤ p) : cmul f g p = 0 := by
 refine sumq_zero _ _ (fun i hi => ?_)
 by_cases h : N ≤ i
 ·rw [hf i h,Rat.zero_mul]
 ·rw [hg (p - i) (by omega),Rat.mul_zero]
theorem Dv.congr {d f g : Nat → Rat} (h : Dv d f) (e : ∀ i,f i = g i) : Dv d g := by
 obtain ⟨k,N,h1,h2⟩ := h
 exact ⟨k,N,h1,fun i => (e i).symm.trans (h2 i)⟩
theorem Dv.add {d f g : Nat → Rat} (h : Dv d f) (k : Dv d g) : Dv d (fun i => f i + g i) := by
 obtain ⟨a,N,h1,h2⟩ := h
 obtain ⟨b,M,k1,k2⟩ := k
 exact ⟨fun i => a i + b i,max N M,fun i hi => by show a i + b i = 0; rw [h1 i (by omega),k1 i (by omega),Rat.add_zero],fun i => by rw [cmul_add,← h2,← k2]⟩
theorem Dv.scale {d f : Nat → Rat} (h : Dv d f) (s : Rat) : Dv d (fun i => f i * s) := by
 obtain ⟨a,N,h1,h2⟩ := h
 exact ⟨fun i => a i * s,N,fun i hi => by show a i * s = 0; rw [h1 i hi,Rat.zero_mul],fun i => by rw [cmul_scale,← h2]⟩
theorem Dv.mul {d f g : Nat → Rat} {M : Nat} (h : Dv d f) (hg : ∀ i,M ≤ i → g i = 0) : Dv d (cmul g f) := by
 obtain ⟨a,N,h1,h2⟩ := h
 refine ⟨cmul a g,N + M,fun i hi => cmul_far h1 hg i hi,fun i => ?_⟩
 rw [cmul_comm,cmul_congr h2 (fun _ => rfl),cmul_assoc]
theorem Dv.zero (d : Nat → Rat) : Dv d (fun _ => 0) := ⟨fun _ => 0,0,fun _ _ => rfl,fun i => (sumq_zero _ _ (fun j _ => Rat.mul_zero _)).symm⟩
theorem Dv.self (d : Nat → Rat) : Dv d d := ⟨cone,1,fun i hi => by unfold cone; rw [if_neg (by omega)],fun i => by rw [cmul_comm,cmul_one]⟩
theorem Dv.times {d g : Nat → Rat} {M : Nat} (hg : ∀ i,M ≤ i → g i = 0) : Dv d (cmul g d) := (Dv.self d).mul hg
/-- A quotient and a rest: what divides the divisor divides the one just if it divides the rest. -/
theorem Dv.rest {d a b r q : Nat → Rat} {M : Nat} (hq : ∀ i,M ≤ i → q i = 0) (e : ∀ i,a i = cmul q b i + r i) (hb : Dv d b) : Dv d a ↔ Dv d r := by
 have hm := hb.mul hq
 constructor
 ·intro ha
  exact (ha.add (hm.scale (-1))).congr (fun i => by rw [e i]; grind)
 ·intro hr
  exact (hm.add hr).congr (fun i => (e i).symm)
theorem cmul_top {lg : Nat} {g k : Nat → Rat} {t : Nat} (hlg : 0 < lg) (hk : ∀ i,t < i → k i = 0) : cmul (co lg g) k (lg - 1 + t) = g (lg - 1) * k t := by
 have e : cmul (co lg g) k (lg - 1 + t) = sumq (fun i => if i = lg - 1 then co lg g i * k (lg - 1 + t - i) else 0) (lg - 1 + t + 1) := by
  refine sumq_congr _ _ _ (fun i hi => ?_)
  by_cases h : i = lg - 1
  ·rw [if_pos h]
  ·rw [if_neg h]
   by_cases h2 : i < lg
   ·rw [hk (lg - 1 + t - i) (by omega),Rat.mul_zero]
   ·rw [co_ge h2,Rat.zero_mul]
 rw [e,sumq_single,if_pos (by omega),co_lt (by omega),show lg - 1 + t - (lg - 1) = t by omega]
/-- What a divisor divides and is shorter than the divisor is 0. -/
theorem Dv.short {lg : Nat} {g r : Nat → Rat} (hlg : 0 < lg) (htop : g (lg - 1) ≠ 0) (h : Dv (co lg g) r) (hr : ∀ i,lg - 1 ≤ i → r i = 0) (i : Nat) : r i = 0 := by
 obtain ⟨k,N,h1,h2⟩ := h
 have hz : trimN k N = 0 := by
  rcases Nat.eq_zero_or_pos (trimN k N) with h | h
  ·exact h
  ·have ht := trimN_top k N h
   have hk : ∀ i,trimN k N - 1 < i → k i = 0 := fun i hi => by
    by_cases hin : i < N
    ·exact trimN_zero k N i (by omega) hin
    ·exact h1 i (by omega)
   have e := cmul_top (lg := lg) (g := g) (k := k) hlg hk
   rw [← h2,hr _ (by omega)] at e
   rcases Rat.mul_eq_zero.1 e.symm with h | h
   ·exact absurd h htop
   ·exact absurd h ht
 have hk0 : ∀ i,k i = 0 := fun i => by
  by_cases hin : i < N
  ·exact trimN_zero k N i (by omega) hin
  ·exact h1 i (by omega)
 rw [h2]
 exact sumq_zero _ _ (fun j _ => by rw [hk0,Rat.mul_zero])

end Go.Proofs.YtieeneaebjihlaaGreatDoor

namespace Go.Proofs.YtieeneaebjihlaaGreatDoor
open Go.RowKit
set_option linter.unusedVariables false
set_option linter.unusedSimpArgs false


theorem QRow.le {w : World} {v : Value} {n : Nat} {q : Nat → Rat} {L M : Nat} (h : QRow w v n q L) (hM : L ≤ M) : QRow w v n q M := let ⟨el,h1,h2⟩ := h; ⟨el,h1,fun i hi => (h2 i hi).le hM⟩

end Go.Proofs.YtieeneaebjihlaaGreatDoor

namespace Go.Proofs.YtieeneaebjihlaaGreatDoor
set_option linter.unusedVariables false

theorem evN_plus (f g : Nat → Rat) (x : Rat) : ∀ n,evN (fun i => f i + g i) x n = evN f x n + evN g x n
 | 0 => by show (0 : Rat) = 0 + 0; grind
 | n + 1 => by show evN (fun i => f i + g i) x n + (f n + g n) * x ^ n = (evN f x n + f n * x ^ n) + (evN g x n + g n * x ^ n); rw [evN_plus f g x n]; grind
end Go.Proofs.YtieeneaebjihlaaGreatDoor

namespace Go.Proofs.YtieeneaebjihlaaGreatDoor
open Go.RowKit
set_option linter.unusedVariables false
set_option linter.unusedSimpArgs false

theorem qsz_pw (q : Rat) (L : Nat) (h : qsz q ≤ L) : ∀ k,qsz (q ^ k) ≤ L * k + 1
 | 0 => by rw [Rat.pow_zero]; exact Nat.le_trans (show qsz 1 ≤ 1 by decide +kernel) (by omega)
 | k + 1 => by
  rw [Rat.pow_succ,Nat.mul_succ]
  exact Nat.le_trans (qsz_mul _ _ (qsz_pw q L h k) h) (by omega)
theorem qsz_evN (q : Nat → Rat) (x : Rat) (L X : Nat) (hx : qsz x ≤ X) : ∀ n,(∀ i,i < n → qsz (q i) ≤ L) → qsz (evN q x n) ≤ n * (L + X * n + 2) + 1
 | 0,_ => Nat.le_trans (show qsz 0 ≤ 1 by decide +kernel) (by omega)
 | n + 1,h => by
  have ih := qsz_evN q x L X hx n (fun i hi => h i (by omega))
  have hp := qsz_mul _ _ (h n (by omega)) (qsz_pw x X hx n)
  have hm : X * n ≤ X * (n + 1) := Nat.mul_le_mul_left _ (by omega)
  have h1 : n * (L + X * n + 2) ≤ n * (L + X * (n + 1) + 2) := Nat.mul_le_mul_left _ (by omega)
  show qsz (evN q x n + q n * x ^ n) ≤ _
  refine Nat.le_trans (qsz_add _ _ ih hp) ?_
  rw [Nat.succ_mul]
  omega


end Go.Proofs.YtieeneaebjihlaaGreatDoor
