/-
  Texts of mine, joined: what lies beneath the statement.
-/
import Derived.Test.YtjmagcgobhaenaaGreatDoorJ1737163f57
import Derived.Test.YtjmagcgobhaenaaGreatDoorJe6e27cd6ff
namespace Go.Proofs.YtjmagcgobhaenaaGreatDoor
set_option linter.unusedVariables false
set_option linter.unusedSimpArgs false
theorem valS_cons (s : Sp) (l : List Sp) (f : Nat) : valS (s :: l) f = (if s.feat = f then s.add else 0) + valS l f := by
 unfold valS adds
 by_cases e : s.feat = f
 ·rw [if_pos e,List.filter_cons_of_pos (by simpa using e)]
  rfl
 ·rw [if_neg e,List.filter_cons_of_neg (by simpa using e),Rat.zero_add]
theorem sumq_add (p q : Nat → Rat) : ∀ n,sumq (fun i => p i + q i) n = sumq p n + sumq q n
 | 0 => by show (0 : Rat) = 0 + 0; rw [Rat.add_zero]
 | n + 1 => by
  show sumq _ n + (p n + q n) = sumq p n + p n + (sumq q n + q n)
  rw [sumq_add p q n]
  grind
theorem sumq_nought : ∀ n,sumq (fun _ => (0 : Rat)) n = 0
 | 0 => rfl
 | n + 1 => by show sumq _ n + 0 = 0; rw [sumq_nought n,Rat.add_zero]
theorem sumq_one (a : Nat) (x : Rat) : ∀ n,sumq (fun f => if a = f then x else 0) n = if a < n then x else 0
 | 0 => by rw [if_neg (by omega)]; rfl
 | n + 1 => by
  show sumq _ n + (if a = n then x else 0) = _
  rw [sumq_one a x n]
  by_cases e : a = n
  ·rw [if_neg (by omega),if_pos e,if_pos (by omega),Rat.zero_add]
  ·rw [if_neg e,Rat.add_zero]
   by_cases e2 : a < n
   ·rw [if_pos e2,if_pos (by omega)]
   ·rw [if_neg e2,if_neg (by omega)]
theorem sum_vals (n : Nat) : ∀ l : List Sp,(∀ s ∈ l,s.feat < n) → sumq (valS l) n = sumL (l.map Sp.add)
 | [],_ => sumq_nought n
 | s :: l,h => by
  have e : valS (s :: l) = fun f => (if s.feat = f then s.add else 0) + valS l f := funext (valS_cons s l)
  rw [e,sumq_add,sumq_one,if_pos (h s (List.mem_cons_self ..)),sum_vals n l (fun x hx => h x (List.mem_cons_of_mem _ hx))]
  rfl
theorem seg_vals (a n : Nat) : ∀ l : List Sp,sumq (fun i => valS l (a + i)) n = sumL ((l.filter (fun s => decide (a ≤ s.feat ∧ s.feat < a + n))).map Sp.add)
 | [] => sumq_nought n
 | s :: l => by
  have e : (fun i => valS (s :: l) (a + i)) = fun i => (if s.feat = a + i then s.add else 0) + valS l (a + i) := funext (fun i => valS_cons s l (a + i))
  rw [e,sumq_add,seg_vals a n l]
  by_cases h : a ≤ s.feat ∧ s.feat < a + n
  ·rw [List.filter_cons_of_pos (by simpa using h)]
   show _ = s.add + _
   congr 1
   have e2 : (fun i => if s.feat = a + i then s.add else 0) = fun i => if s.feat - a = i then s.add else 0 := funext (fun i => by
    by_cases q : s.feat = a + i
    ·rw [if_pos q,if_pos (by omega)]
    ·rw [if_neg q,if_neg (by omega)])
   rw [e2,sumq_one,if_pos (by omega)]
  ·rw [List.filter_cons_of_neg (by simpa using h)]
   have e2 : sumq (fun i => if s.feat = a + i then s.add else 0) n = 0 := by
    have key : ∀ m,m ≤ n → sumq (fun i => if s.feat = a + i then s.add else 0) m = 0 := by
     intro m
     induction m with
     | zero => intro _; rfl
     | succ m ih =>
      intro hm
      show sumq _ m + (if s.feat = a + m then s.add else 0) = 0
      rw [ih (by omega),if_neg (by omega),Rat.add_zero]
    exact key n (Nat.le_refl _)
   rw [e2,Rat.zero_add]
theorem seg_sz {l : List Sp} {M k : Nat} (h : ∀ s ∈ l,qsz s.add ≤ M) (hk : l.length ≤ k) (a n : Nat) : qsz (sumq (fun i => valS l (a + i)) n) ≤ k * (M + 1) + 1 := by
 rw [seg_vals]
 refine Nat.le_trans (sumL_sz _ (fun x hx => ?_)) (Nat.add_le_add_right (Nat.mul_le_mul_right _ (Nat.le_trans ?_ hk)) 1)
 ·obtain ⟨s,hs,rfl⟩ := List.mem_map.1 hx
  exact h s (List.mem_filter.1 hs).1
 ·rw [List.length_map]
  exact List.length_filter_le _ _
theorem way_first {F : Int} {t : Nat → Nd} {n : Nat} (h : MayT F t n) (r : Nat → Cl) {x : Nat} (hx : x < n) : (way t n r x).getD 0 0 = x := by
 by_cases hl : (t x).leaf = true
 ·rw [way_leaf hl]; rfl
 ·rw [h.way_split r hx (by simpa using hl)]; rfl
theorem last_getD (l : List Nat) (h : l ≠ []) : l.getD (l.length - 1) 0 = l.getLastD 0 := by
 rw [List.getD_eq_getElem?_getD,List.getLastD_eq_getLast?,List.getLast?_eq_getElem?]
theorem tele_spL (t : Nat → Nd) (n i : Nat) (zs : List Nat) : ∀ k,sumL ((spL t n i zs k).map Sp.add) = meanN t n (zs.getD k 0) - meanN t n (zs.getD 0 0)
 | 0 => by
  show (0 : Rat) = _
  grind
 | k + 1 => by
  rw [spL_more,List.map_append,sumL_app,tele_spL t n i zs k]
  show _ + ((meanN t n (zs.getD (k + 1) 0) - meanN t n (zs.getD k 0)) + 0) = _
  grind
theorem meanN_leaf {F : Int} {t : Nat → Nd} {n : Nat} (h : MayT F t n) {x : Nat} (hx : x < n) (hl : (t x).leaf = true) : meanN t n x = (t x).val := by
 have c0 : (t x).cov ≠ 0 := fun e => by have := h.cov x hx; rw [e] at this; exact absurd this (by decide)
 unfold meanN
 rw [ws_leaf hl,Rat.div_def,Rat.mul_assoc,Rat.mul_inv_cancel _ c0,Rat.mul_one]
theorem tele_spT {F : Int} {T : Nat → Nat → Nd} {N : Nat → Nat} {r : Nat → Cl} {i : Nat} (h : MayT F (T i) (N i)) : sumL ((spT T N r i).map Sp.add) = leafV T N r i - mean0 T N i := by
 unfold spT
 rw [tele_spL,last_getD _ (way_ne _ _ _ _),way_first h r h.pos]
 have h1 := h.wlast_is r h.pos
 show meanN (T i) (N i) (wlast (T i) (N i) r 0) - _ = _
 rw [meanN_leaf h h1.1 h1.2]
 rfl
theorem tele_spA {F : Int} {T : Nat → Nat → Nd} {N : Nat → Nat} {r : Nat → Cl} {k : Nat} (hm : ∀ i,i < k → MayT F (T i) (N i)) : ∀ i,i ≤ k → sumL ((spA T N r i).map Sp.add) = sumq (leafV T N r) i - sumq (mean0 T N) i
 | 0,_ => by
  show (0 : Rat) = 0 - 0
  grind
 | i + 1,h => by
  show sumL ((spA T N r i ++ spT T N r i).map Sp.add) = sumq (leafV T N r) i + leafV T N r i - (sumq (mean0 T N) i + mean0 T N i)
  rw [List.map_append,sumL_app,tele_spA hm i (by omega),tele_spT (hm i (by omega))]
  grind
theorem spA_asks {T : Nat → Nat → Nd} {N : Nat → Nat} {r : Nat → Cl} {nr k : Nat} (hm : ∀ i,i < k → MayT (nr : Int) (T i) (N i)) : ∀ i,i ≤ k → ∀ s ∈ spA T N r i,asks T N i (s.feat : Int)
 | 0,_,s,hs => by cases hs
 | i + 1,h,s,hs => by
  rcases List.mem_append.1 (show s ∈ spA T N r i ++ spT T N r i from hs) with hs | hs
  ·exact asks_more.2 (.inl (spA_asks hm i (by omega) s hs))
  ·unfold spT spL at hs
   obtain ⟨j,hj,rfl⟩ := List.mem_map.1 hs
   have hm' := hm i (by omega)
   rw [List.mem_range] at hj
   have hjl : j < (way (T i) (N i) r 0).length := by omega
   have h1 := hm'.way_in r hm'.pos j _ (List.getElem?_eq_getElem hjl) (by omega)
   have h2 := hm'.feat _ h1.1 h1.2
   refine asks_more.2 (.inr ⟨_,h1.1,h1.2,?_⟩)
   show _ = ((((T i) ((way (T i) (N i) r 0).getD j 0)).feat.toNat : Nat) : Int)
   rw [List.getD_eq_getElem?_getD,List.getElem?_eq_getElem hjl]
   show _ = (((T i) (way (T i) (N i) r 0)[j]).feat.toNat : Int)
   omega
theorem valS_unasked {T : Nat → Nat → Nd} {N : Nat → Nat} {r : Nat → Cl} {nr k : Nat} (hm : ∀ i,i < k → MayT (nr : Int) (T i) (N i)) {f : Nat} (h : usedB T N k f = false) : valS (spA T N r k) f = 0 := by
 have e : adds (spA T N r k) f = [] := by
  unfold adds
  rw [List.map_eq_nil_iff,List.filter_eq_nil_iff]
  intro s hs
  have h1 := spA_asks hm k (Nat.le_refl _) s hs
  intro e
  have e2 : s.feat = f := by simpa using e
  rw [e2] at h1
  rw [usedB_is.2 h1] at h
  cases h
 unfold valS
 rw [e]
 rfl
end Go.Proofs.YtjmagcgobhaenaaGreatDoor
