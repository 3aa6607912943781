/-
  Texts of mine, joined: what lies beneath the statement.
-/
import Derived.Test.YtjmagcgobhaenaaGreatDoorJc66f179fb5
import Derived.Test.YtjmagcgobhaenaaGreatDoorJ23b98788f0
import Derived.Test.YtjmagcgobhaenaaGreatDoorJ9f76112506
import Derived.Test.YtjmagcgobhaenaaGreatDoorJ581c8412ee
namespace Go.Proofs.YtjmagcgobhaenaaGreatDoor
open Go.RowKit
set_option linter.unusedVariables false
set_option linter.unusedSimpArgs false
def IAt (w : World) (el : Nat → Value) (d : Nat) : Prop := el 0 = .int .i64 (d : Int)
theorem iEl : ElG 1 IAt where
 keep := fun h _ => h
 congr := fun h he => (he 0 (by omega)).symm.trans h
def IOw (B : Nat) (w : World) (v : Value) (zs : List Nat) : Prop := GOwn 3 1 IAt B w v zs
theorem IOw.below {B : Nat} {w w' : World} {v : Value} {zs : List Nat} (h : IOw B w v zs) (hb : Below w.heap.size w w') : IOw B w' v zs := GOwn.later h iEl hb
theorem IOw.own {B : Nat} {w : World} {v : Value} {zs : List Nat} (h : IOw B w v zs) : w.ownsRow B 3 1 v zs.length (zs.map (fun x : Nat => Value.int .i64 (x : Int))) ∧ ∀ g,v.ownBlock = some g → PureB IsLimb w g := by
 obtain ⟨cs,h1,h2,h3,h4⟩ := GOwn.parts h
 have e : cs = zs.map (fun x : Nat => Value.int .i64 (x : Int)) := by
  refine List.ext_getElem? (fun j => ?_)
  rw [List.getElem?_map]
  by_cases hj : j < zs.length
  ·have h5 := h4 j _ (List.getElem?_eq_getElem hj)
   unfold IAt at h5
   simp only [Nat.mul_one,Nat.add_zero,List.getD_eq_getElem?_getD] at h5
   rw [List.getElem?_eq_getElem hj,List.getElem?_eq_getElem (by omega)] at *
   simpa using h5
  ·rw [List.getElem?_eq_none (by omega),List.getElem?_eq_none (by omega)]
   rfl
 rw [e] at h1
 exact ⟨h1,h3⟩
theorem IOw.of {B : Nat} {w : World} {v : Value} {zs : List Nat} (h : w.ownsRow B 3 1 v zs.length (zs.map (fun x : Nat => Value.int .i64 (x : Int)))) (hp : ∀ g,v.ownBlock = some g → PureB IsLimb w g) : IOw B w v zs :=
 ⟨_,h,hp,fun i a hi => by
  show (zs.map _).getD (i * 1 + 0) undef = _
  rw [List.getD_eq_getElem?_getD,List.getElem?_map,Nat.mul_one,Nat.add_zero,hi]
  rfl⟩
theorem IOw.cell {B : Nat} {w : World} {g n c : Nat} {zs : List Nat} (h : IOw B w (.slice (some ⟨g,0,none⟩) n c) zs) (hn : zs.length = n) {j x : Nat} (hj : zs[j]? = some x) : w.cell? ⟨g,j,none⟩ = some (.int .i64 (x : Int)) := by
 have h1 := h.own.1
 rw [hn] at h1
 exact owns_cell h1 (by rw [List.getElem?_map,hj]; rfl)
theorem lay_list (xs : List Value) (z y : Value) (s : Nat) (hs : s ≤ xs.length) : spl10 (spl10 (xs ++ [z]) (s + 1) (xs.drop s)) s [y] = xs.take s ++ y :: xs.drop s := by
 have hd : (xs.drop s).length = xs.length - s := List.length_drop
 have h1 : s + 1 + (xs.drop s).length ≤ (xs ++ [z]).length := by simp; omega
 have h2 : (spl10 (xs ++ [z]) (s + 1) (xs.drop s)).length = xs.length + 1 := by rw [spl10_len h1]; simp
 refine List.ext_getElem? (fun j => ?_)
 rw [spl10_at (by rw [h2]; simp; omega)]
 by_cases a : j < s
 ·rw [if_pos a,spl10_at h1,if_pos (by omega),List.getElem?_append_left (by omega),List.getElem?_append_left (by rw [List.length_take]; omega),List.getElem?_take_of_lt a]
 ·rw [if_neg a]
  have ht : (xs.take s).length = s := by rw [List.length_take]; omega
  by_cases b : j = s
  ·subst b
   rw [if_pos (by simp),List.getElem?_append_right (by omega),ht,Nat.sub_self]
   rfl
  ·have e9 : (xs.take s ++ y :: xs.drop s)[j]? = (y :: xs.drop s)[j - s]? := by rw [List.getElem?_append_right (by omega),ht]
   rw [e9,if_neg (by simp; omega),spl10_at h1,if_neg (by omega)]
   obtain ⟨k,rfl⟩ : ∃ k,j = s + 1 + k := ⟨j - (s + 1),by omega⟩
   rw [show s + 1 + k - s = k + 1 by omega,show s + 1 + k - (s + 1) = k by omega]
   by_cases c : k < xs.length - s
   ·rw [if_pos (by omega)]
    rfl
   ·rw [if_neg (by omega),List.getElem?_append_right (by omega),List.getElem?_eq_none (by simp; omega)]
    show none = (xs.drop s)[k]?
    rw [List.getElem?_eq_none (by omega)]
theorem keepL_alloc (w : World) (o : Obj) : KeepQ IsLimb w (w.alloc o) := KeepQ.below ((Below.refl _ _).alloc (Nat.le_refl _) _)
theorem VArr.low {B : Nat} {w w' : World} {g k i : Nat} {q : Nat → Rat} (h : VArr w g k i q) (hb : Below B w w') (hg : g < B) (hk : KeepQ IsLimb w w') : VArr w' g k i q := by
 obtain ⟨el,A,R⟩ := h
 refine ⟨el,⟨fun i hi j hj => (hb.cell (p := ⟨g,i * 3 + j,none⟩) hg).trans (A.1 i hi j hj),fun i hi j hj => (hb.frozen (p := ⟨g,i * 3 + j,none⟩) hg).trans (A.2.1 i hi j hj),A.2.2⟩,fun j hj => (R j hj).keepL hk⟩
theorem V1.block12 {W W' : World} {R : Nat} {x : Value} (h : V1 W R x) (hb : W'.heap[R]? = W.heap[R]?) : V1 W' R x := V1.block11 h hb
theorem mem_ints {zs : List Nat} {u : Value} (h : u ∈ zs.map (fun x : Nat => Value.int .i64 (x : Int))) : ¬ IsLimb u ∧ u.oneCell' = true := by
 obtain ⟨x,_,rfl⟩ := List.mem_map.1 h
 exact ⟨limb_int _,rfl⟩
theorem setRow_size12 (w : World) (g : Nat) (cs : Array Value) : (w.setRow g cs).heap.size = w.heap.size := by
 simp [World.setRow]
theorem set_one12 {w : World} {g s : Nat} {cur : Array Value} {t : TypeId} {v : Value} (hg : w.heap[g]? = some (.cells cur t (0,0))) (hs : s < cur.size) : w.setCell ⟨g,s,none⟩ v = w.setRow g (spl10 cur.toList s [v]).toArray := by
 have e : (spl10 cur.toList s [v]).toArray = cur.setIfInBounds s v := by
  apply Array.ext'
  rw [List.toList_toArray,Array.toList_setIfInBounds]
  unfold spl10
  rw [List.set_eq_take_append_cons_drop,if_pos (by simpa using hs)]
  simp
 have key : ∀ f h : Obj → Obj,f (.cells cur t (0,0)) = h (.cells cur t (0,0)) → w.heap.modify g f = w.heap.modify g h := by
  intro f h e9
  apply Array.ext_getElem?
  intro i
  simp only [Array.getElem?_modify]
  split
  ·rename_i e8
   subst e8
   rw [hg]
   simp [e9]
  ·rfl
 rw [e]
 simp only [World.setCell,World.setRow]
 congr 1
 exact key _ _ rfl
structure OwI12 (B : Nat) (w : World) (g c n : Nat) (us : List Value) : Prop where
 own : w.ownsRow B 3 1 (.slice (some ⟨g,0,none⟩) n c) n us
 pur : PureB IsLimb w g
theorem OwI12.below {B : Nat} {w w' : World} {g c n : Nat} {us : List Value} (h : OwI12 B w g c n us) (hb : Below w.heap.size w w') : OwI12 B w' g c n us := ⟨owns_later h.own hb,h.pur.below hb (owns_cap h.own).2.2⟩
structure Bw12 (B : Nat) (w0 w : World) : Prop where
 low : Below B w0 w
 limb : KeepQ IsLimb w0 w
 size : w0.heap.size ≤ w.heap.size
 base : B ≤ w0.heap.size
theorem Bw12.below {B : Nat} {w0 w w' : World} (h : Bw12 B w0 w) (hb : Below w.heap.size w w') : Bw12 B w0 w' := ⟨h.low.trans (hb.mono (Nat.le_trans h.base h.size)),h.limb.trans (KeepQ.below hb),Nat.le_trans h.size hb.size,h.base⟩
theorem Bw12.row {B : Nat} {w0 w : World} {g : Nat} {cs : Array Value} (h : Bw12 B w0 w) (hg : B ≤ g) (hk : KeepQ IsLimb w (w.setRow g cs)) : Bw12 B w0 (w.setRow g cs) :=
 ⟨⟨h.low.os,h.low.tape,h.low.output,by rw [setRow_size12]; exact h.low.size,fun k hk => (setRow_other w g k cs (by omega)).trans (h.low.block k hk)⟩,h.limb.trans hk,by rw [setRow_size12]; exact h.size,h.base⟩
set_option maxRecDepth 100000 in
set_option maxHeartbeats 8000000 in
theorem laid12_at (f n g M B : Nat) (v : Value) (zs : List Nat) (q : Nat → Rat) (w : World) (OL : IOw B w v zs) (VA : VArr w g n (f + 1) (fun j => absQ (q j))) (hz : ∀ j,j < f + 1 → qsz (absQ (q j)) ≤ M) (hM1 : 1 ≤ M) (hM2 : M ≤ 100000) (hfn : f < n) (hB : B ≤ w.heap.size) (hmem : ∀ x ∈ zs,x < f) (hlen : zs.length ≤ 1000) (hmono : ∀ a b x y : Nat,a ≤ b → zs[a]? = some x → zs[b]? = some y → absQ (q x) < absQ (q f) → absQ (q y) < absQ (q f)) :
  Calls Tryz.prog 84 #[v,.int .i64 (f : Int),.slice (some ⟨g,0,none⟩) n n] w fun e w' => ∃ s,PlO q zs f s ∧ ∃ u,e = .returned u ∧ IOw B w' u (zs.take s ++ f :: zs.drop s) ∧ Bw12 B w w' := by
 obtain ⟨al,cl,rfl,hlc⟩ := GOwn.form OL
 have HO0 : Hid (∀ g,(Value.slice al zs.length cl).ownBlock = some g → g < w.heap.size) := fun g hg => by
  obtain ⟨cs,h9,_⟩ := OL
  exact (World.ownsRow.lt h9 g hg).2
 have HMEM : Hid (∀ x ∈ zs,x < f) := hmem
 have HMONO : Hid (∀ a b x y : Nat,a ≤ b → zs[a]? = some x → zs[b]? = some y → absQ (q x) < absQ (q f) → absQ (q y) < absQ (q f)) := hmono
 have HZZ : Hid (∀ j,j < f + 1 → qsz (absQ (q j)) ≤ M) := hz
 have hll : zs.length ≤ 1000 := hlen
 clear hmem hmono hz hlen
 obtain ⟨k,hk⟩ : ∃ k,zs.length = k := ⟨_,rfl⟩
 have HK : Hid (zs.length = k) := hk
 rw [hk] at hlc HO0 hll OL ⊢
 clear hk
 have BB : Below w.heap.size w w := Below.refl _ _
 obtain ⟨Wb0,hW0,hS0,hL0,VL⟩ := V1.lay w 55 (.slice al k cl)
 replace OL := OL.below hL0
 replace VA := VA.below hL0
 replace BB := BB.trans (hL0.mono BB.size)
 clear hL0
 obtain ⟨Wb1,hW1,hS1,hL1,VF⟩ := V1.lay Wb0 3 (.int .i64 (f : Int))
 rw [hS0] at VF hS1
 replace OL := OL.below hL1
 replace VA := VA.below hL1
 replace VL := VL.below hL1
 replace BB := BB.trans (hL1.mono BB.size)
 clear hL1
 obtain ⟨Wb2,hW2,hS2,hL2,VM⟩ := V1.lay Wb1 43 (.slice (some ⟨g,0,none⟩) n n)
 rw [hS1] at VM hS2
 replace OL := OL.below hL2
 replace VA := VA.below hL2
 replace VL := VL.below hL2
 replace VF := VF.below hL2
 replace BB := BB.trans (hL2.mono BB.size)
 clear hL2
 obtain ⟨vl1,vl2⟩ := id VL
 obtain ⟨vf1,vf2⟩ := id VF
 obtain ⟨vm1,vm2⟩ := id VM
 rw [hW2,hW1,hW0] at vl1 vl2 vf1 vf2 vm1 vm2
 go_enter Tryz.func84,Tryz.ntmps84
 go_wp2_with fail
 clear vl1 vl2 vf1 vf2 vm1 vm2
 rw [← hW0,← hW1,← hW2]
 clear hW0 hW1 hW2 hS0 hS1 hS2
 have HCL : Hid (∀ i : Nat,i < k → ∀ w1,Below Wb2.heap.size Wb2 w1 → Calls Tryz.prog 125 (#[.int .i64 (i : Int)] ++ #[.pointer (some ⟨w.heap.size + 1 + 1,0,none⟩),.pointer (some ⟨w.heap.size,0,none⟩),.pointer (some ⟨w.heap.size + 1,0,none⟩)]) w1 fun e w2 => e = .returned (.bool ((fun j => decide (absQ (q (zs.getD j 0)) < absQ (q f))) i)) ∧ Below w1.heap.size w1 w2) := fun i hi w1 hb => by
  obtain ⟨x,hx⟩ : ∃ x,zs[i]? = some x := ⟨_,List.getElem?_eq_getElem (by have := HK.out; omega)⟩
  have h9 := HK.out
  obtain ⟨gl,hgl⟩ : ∃ gl,al = some ⟨gl,0,none⟩ := by
   obtain ⟨g9,c9,e9,_⟩ := GOwn.open OL (by omega)
   injection e9 with e9
   exact ⟨g9,e9⟩
  subst hgl
  have cI := (OL.below hb).cell h9 hx
  have h8 := clos12_at i x f k n g gl cl _ _ _ M q w1 (VA.below hb) HZZ.out hM1 hM2 hi (HMEM.out x (List.mem_of_getElem? hx)) hfn (VM.below hb).1 (VL.below hb).1 (VF.below hb).1 cI
  have e8 : zs.getD i 0 = x := by rw [List.getD_eq_getElem?_getD,hx]; rfl
  dsimp only
  rw [e8]
  exact h8
 have HMO : Hid (∀ i j,i ≤ j → j < k → (fun j => decide (absQ (q (zs.getD j 0)) < absQ (q f))) i = true → (fun j => decide (absQ (q (zs.getD j 0)) < absQ (q f))) j = true) := fun i j hij hj h => by
  have h9 := HK.out
  have e1 : zs[i]? = some (zs.getD i 0) := by rw [List.getD_eq_getElem?_getD,List.getElem?_eq_getElem (by omega)]; rfl
  have e2 : zs[j]? = some (zs.getD j 0) := by rw [List.getD_eq_getElem?_getD,List.getElem?_eq_getElem (by omega)]; rfl
  exact decide_eq_true (HMONO.out i j _ _ hij e1 e2 (of_decide_eq_true h))
 refine (search12_at 125 #[.pointer (some ⟨w.heap.size + 1 + 1,0,none⟩),.pointer (some ⟨w.heap.size,0,none⟩),.pointer (some ⟨w.heap.size + 1,0,none⟩)] k (fun j => decide (absQ (q (zs.getD j 0)) < absQ (q f))) _ (by omega) HMO.out (enters_own Tryz.func125 (by kernel_rfl) rfl) HCL).mono ?_
 rintro e w3 ⟨s,rfl,HF,b3⟩
 have HPL : Hid (PlO q zs f s) := ⟨by have := HF.le; have := HK.out; omega,fun j x hj hx => by
   have h9 := HF.no j hj
   have e9 : zs.getD j 0 = x := by rw [List.getD_eq_getElem?_getD,hx]; rfl
   rw [e9] at h9
   exact of_decide_eq_false h9,fun j x hj hx => by
   have h9 := HF.yes j hj (by have := (List.getElem?_eq_some_iff.1 hx).1; have := HK.out; omega)
   have e9 : zs.getD j 0 = x := by rw [List.getD_eq_getElem?_getD,hx]; rfl
   rw [e9] at h9
   exact of_decide_eq_true h9⟩
 have hsk : s ≤ k := HF.le
 clear HF HCL HMO
 replace OL := OL.below b3
 replace VL := VL.below b3
 replace VF := VF.below b3
 replace VM := VM.below b3
 replace BB := BB.trans (b3.mono BB.size)
 clear b3 VA VM
 have hKB : KeepQ IsLimb w w3 := KeepQ.below BB
 obtain ⟨ho1,hpu1⟩ := OL.own
 rw [HK.out] at ho1
 clear OL
 have hA7 : Below w3.heap.size w3 (w3.alloc (.cells #[.int .i64 (f : Int)] 3)) := (Below.refl _ _).alloc (Nat.le_refl _) _
 have ho7 := owns_later ho1 hA7
 have hpu7 : ∀ g,(Value.slice al k cl).ownBlock = some g → PureB IsLimb (w3.alloc (.cells #[.int .i64 (f : Int)] 3)) g := fun g hg => (hpu1 g hg).below hA7 (World.ownsRow.lt ho1 g hg).2
 have VL7 := VL.below hA7
 have VF7 := VF.below hA7
 have BB7 := BB.trans (hA7.mono BB.size)
 have hKB7 := hKB.trans (keepL_alloc w3 (.cells #[.int .i64 (f : Int)] 3))
 have hB7 : B ≤ (w3.alloc (.cells #[.int .i64 (f : Int)] 3)).heap.size := Nat.le_trans hB BB7.size
 have HPU7 : Hid (∀ g,(Value.slice al k cl).ownBlock = some g → PureB IsLimb (w3.alloc (.cells #[.int .i64 (f : Int)] 3)) g) := hpu7
 clear hpu7 ho1 hpu1 hA7 BB hKB
 obtain ⟨u1,u2⟩ := id VL
 obtain ⟨u3,u4⟩ := id VF
 obtain ⟨u5,u6⟩ := id VL7
 clear VL VF
 go_wp2_with (at_builtin; refine wpList_append_pure (Q' := IsLimb) rfl _ _ _ rfl B 3 (.int .i64 0) 1 8 Tryz.underlying55 info_int rfl (by omega) (.slice al k cl) rfl k (zs.map (fun x : Nat => Value.int .i64 (x : Int))) ho7 HPU7.out ⟨w3.heap.size,0,none⟩ 1 rfl [.int .i64 (f : Int)] rfl (news_block (heap_alloc_new _ _)) (by simp [Value.oneCell']) (by intro u hu; simp at hu; subst hu; exact limb_int _) (by intro u hu; simp [Value.cells] at hu; subst hu; exact limb_int _) (by omega) (by omega) hB7 ?_; intro g5 c5 w5 ho5 hg5 hat5 hp5 hk5; have VL5 := VL7.block12 (hg5.block w.heap.size VL7.lt (fun e => by have := HO0.out _ e.symm; omega)); have VF5 := VF7.block12 (hg5.block (w.heap.size + 1) VF7.lt (fun e => by have := HO0.out _ e.symm; omega)); obtain ⟨t1,t2⟩ := id VL5)
 have hg5w : g5 ≠ w.heap.size ∧ g5 ≠ w.heap.size + 1 := by
  rcases hat5 with h | h
  ·have h1 := HO0.out _ h
   exact ⟨by omega,by omega⟩
  ·have h1 := VL7.lt
   have h2 := VF7.lt
   exact ⟨by omega,by omega⟩
 have hcap := owns_cap ho5
 have BB5 : Below B w w5 := below_grownB (BB7.mono hB) hg5 hB7 (fun g hg => (World.ownsRow.lt ho7 g hg).1)
 have hKB5 := hKB7.trans hk5
 have hSZ5 : w.heap.size ≤ w5.heap.size := Nat.le_trans BB7.size hg5.size
 have VL6 : V1 (w5.setCell ⟨w.heap.size,0,none⟩ (.slice (some ⟨g5,0,none⟩) (k + 1) c5)) w.heap.size (.slice (some ⟨g5,0,none⟩) (k + 1) c5) := VL5.same (.slice (some ⟨g5,0,none⟩) (k + 1) c5)
 have VF6 : V1 (w5.setCell ⟨w.heap.size,0,none⟩ (.slice (some ⟨g5,0,none⟩) (k + 1) c5)) (w.heap.size + 1) (.int .i64 (f : Int)) := VF5.block12 (Below.heap_setCell _ _ _ _ (by show w.heap.size + 1 ≠ w.heap.size; omega))
 have ho6 := World.ownsRow.kept ho5 (grown_at w5 ⟨w.heap.size,0,none⟩ (.slice (some ⟨g5,0,none⟩) (k + 1) c5)) (.inr (fun e => hg5w.1 (by injection e)))
 have hk6 : KeepQ IsLimb w5 (w5.setCell ⟨w.heap.size,0,none⟩ (.slice (some ⟨g5,0,none⟩) (k + 1) c5)) := keepL_set VL5.1 (limb_slice _ _ _) _
 have hp6 : PureB IsLimb (w5.setCell ⟨w.heap.size,0,none⟩ (.slice (some ⟨g5,0,none⟩) (k + 1) c5)) g5 := fun o v hv => hp5 o v (by rw [← hv]; exact (World.cell?_of_block (a := ⟨g5,o,none⟩) (Below.heap_setCell _ _ _ _ hg5w.1)).symm)
 have BB6 := BB5.setCell (p := ⟨w.heap.size,0,none⟩) hB (.slice (some ⟨g5,0,none⟩) (k + 1) c5)
 have hKB6 := hKB5.trans hk6
 have hSZ6 : w.heap.size ≤ (w5.setCell ⟨w.heap.size,0,none⟩ (.slice (some ⟨g5,0,none⟩) (k + 1) c5)).heap.size := by simpa using hSZ5
 clear u1 u2 u3 u4 u5 u6 t1 t2 VL7 VF7 VL5 VF5 ho7 HPU7 ho5 hg5 hat5 hp5 hk5 BB7 BB5 hKB7 hKB5 hk6 hSZ5 hB7
 generalize w5.setCell ⟨w.heap.size,0,none⟩ (.slice (some ⟨g5,0,none⟩) (k + 1) c5) = W6 at *
 have hul : (zs.map (fun x : Nat => Value.int .i64 (x : Int))).length = k := by rw [List.length_map,HK.out]
 have hcl : ((zs.map (fun x : Nat => Value.int .i64 (x : Int))).drop s).length = k - s := by rw [List.length_drop,hul]
 have f0 : IntKind.i64.wrap ((s : Int) + 1) = (s : Int) + 1 := by rw [IntKind.wrap_i64]; omega
 have f1 : (0 : Int) ≤ (s : Int) := by omega
 have f2 : (0 : Int) ≤ (s : Int) + 1 := by omega
 have f3 : (s : Int) + 1 ≤ ((k + 1 : Nat) : Int) := by omega
 have f4 : (s : Int) ≤ ((k + 1 : Nat) : Int) := by omega
 have f4b : (s : Int) < ((k + 1 : Nat) : Int) := by omega
 have f4c : (s : Int) ≤ (k : Int) + 1 := by omega
 have f3c : (s : Int) + 1 ≤ (k : Int) + 1 := by omega
 have f4d : (s : Int) < (k : Int) + 1 := by omega
 have hc5 := hcap.1
 have f5 : ¬ c5 = s := by omega
 have hinf : (Tryz.prog.info? 3).map (·.size) = some 1 := by
  obtain ⟨i0,hi,_,hz1,_⟩ := info_parts info_int
  rw [hi]; simp [hz1]
 have HINF : Hid ((Tryz.prog.info? 3).map (·.size) = some 1) := hinf
 clear hinf hcap
 have BW : Below W6.heap.size W6 W6 := Below.refl _ _
 have BG : Hid (Below B w W6) := BB6
 have HKB : Hid (KeepQ IsLimb w W6) := hKB6
 have BB := BW
 clear BW BB6 hKB6
 have VL := VL6
 have VF := VF6
 clear VL6 VF6
 have OR : OwI12 B W6 g5 c5 (k + 1) (zs.map (fun x : Nat => Value.int .i64 (x : Int)) ++ [.int .i64 (f : Int)]) := ⟨ho6,hp6⟩
 clear ho6 hp6
 have CS : Bw12 B w W6 := ⟨BG.out,HKB.out,hSZ6,hB⟩
 clear BG HKB hSZ6
 go_wp2_with fail
 have hDr : Below W6.heap.size W6 W6.drew := (Below.refl _ _).drew
 replace VL := VL.below hDr
 replace VF := VF.below hDr
 replace OR := OR.below hDr
 replace CS := CS.below hDr
 replace BB := BB.trans (hDr.mono BB.size)
 clear hDr
 refine wp_region_held_drew (S := (fun w' => w'.cell? ⟨w.heap.size,0,none⟩ = some (.slice (some ⟨g5,0,none⟩) (k + 1) c5))) (by kernel_rfl) ?_ (fun hHeld => ?_)
 ·exact VL.1
 generalize W6.drew = W21 at *
 refine xT 0 (v := ?_) (hy := Or.inl ⟨by rfl,?_⟩) (h := ?_)
 rotate_left
 ·(intro w hSw; (try dsimp only at hSw); go_simp; (try with_reducible rfl))
 (try simp only [Act.put,xL4,xL5,xL6])
 refine xT 1 (v := ?_) (hy := Or.inl ⟨by rfl,?_⟩) (h := ?_)
 rotate_left
 ·(intro w hSw; (try dsimp only at hSw); go_simp; (try with_reducible rfl))
 (try simp only [Act.put,xL4,xL5,xL6])
 refine xT 2 (v := ?_) (hy := Or.inl ⟨by rfl,?_⟩) (h := ?_)
 rotate_left
 ·(intro w hSw; (try dsimp only at hSw); go_simp; (try with_reducible rfl))
 (try simp only [Act.put,xL4,xL5,xL6])
 refine xT 3 (v := ?_) (hy := Or.inl ⟨by rfl,?_⟩) (h := ?_)
 rotate_left
 ·(intro w hSw; (try dsimp only at hSw); go_simp; (try with_reducible rfl))
 (try simp only [Act.put,xL4,xL5,xL6])
 refine xT 4 (v := ?_) (hy := Or.inl ⟨by rfl,?_⟩) (h := ?_)
 rotate_left
 ·(intro w hSw; (try dsimp only at hSw); go_simp; (try with_reducible rfl))
 (try simp only [Act.put,xL4,xL5,xL6])
 refine xT 5 (v := ?_) (hy := Or.inl ⟨by rfl,?_⟩) (h := ?_)
 rotate_left
 ·(intro w hSw; (try dsimp only at hSw); go_simp; (try with_reducible rfl))
 (try simp only [Act.put,xL4,xL5,xL6])
 refine xT 6 (v := ?_) (hy := Or.inl ⟨by rfl,?_⟩) (h := ?_)
 rotate_left
 ·(intro w hSw; (try dsimp only at hSw); go_simp; (try with_reducible rfl))
 (try simp only [Act.put,xL4,xL5,xL6])
 refine xR [7] (h := ?_)
 refine xN (h := fun K hK => ?_)
 obtain ⟨cur,hcur,hfit,hBg,hO4⟩ := owns_splice (o := s + 1) (cs := (zs.map (fun x : Nat => Value.int .i64 (x : Int))).drop s) OR.own (by rw [hcl]; omega)
 obtain ⟨hP4,hK4⟩ := pure_splice (o := s + 1) hcur OR.pur (fun u hu => (mem_ints (List.mem_of_mem_drop hu)).1)
 have HSRC : Hid (∀ j u,((zs.map (fun x : Nat => Value.int .i64 (x : Int))).drop s)[j]? = some u → W21.cell? ((⟨g5,s,none⟩ : Addr).add j) = some u) := fun j u hu => by
  rw [List.getElem?_drop] at hu
  have hj := (List.getElem?_eq_some_iff.1 hu).1
  have := owns_cell OR.own (j := s + j) (u := u) (by rw [List.getElem?_append_left (by omega)]; exact hu)
  rw [add_off]
  exact this
 have VL_n := VL.block12 (W' := W21.setRow g5 (spl10 cur.toList (s + 1) ((zs.map (fun x : Nat => Value.int .i64 (x : Int))).drop s)).toArray) (setRow_other _ _ _ _ (fun e => hg5w.1 e.symm))
 have VF_n := VF.block12 (W' := W21.setRow g5 (spl10 cur.toList (s + 1) ((zs.map (fun x : Nat => Value.int .i64 (x : Int))).drop s)).toArray) (setRow_other _ _ _ _ (fun e => hg5w.2 e.symm))
 have CS_n := CS.row (cs := (spl10 cur.toList (s + 1) ((zs.map (fun x : Nat => Value.int .i64 (x : Int))).drop s)).toArray) hBg hK4
 have OR_n : OwI12 B (W21.setRow g5 (spl10 cur.toList (s + 1) ((zs.map (fun x : Nat => Value.int .i64 (x : Int))).drop s)).toArray) g5 c5 (k + 1) (spl10 (zs.map (fun x : Nat => Value.int .i64 (x : Int)) ++ [.int .i64 (f : Int)]) (s + 1) ((zs.map (fun x : Nat => Value.int .i64 (x : Int))).drop s)) := ⟨hO4,hP4⟩
 refine step_copy1 rfl (.tmp 19) (.tmp 22) 55 55 rfl 3 Tryz.underlying55 HINF.out _ _ _ _ _ _ rfl rfl g5 (s + 1) cur 3 hcur ((zs.map (fun x : Nat => Value.int .i64 (x : Int))).drop s) (by rw [hcl]; simp only [Nat.min_def]; split <;> omega) (fun h0 => ⟨by rw [hcl] at h0; first | rfl | (rw [if_neg (by omega)]) | (simp; omega),⟨g5,s,none⟩,by first | rfl | (rw [if_neg (by omega)]) | simp,HSRC.out⟩) hfit (fun u hu => (mem_ints (List.mem_of_mem_drop hu)).2) ?_
 clear VL VF OR CS hK4 hP4 hO4 HSRC hfit hcur BB
 generalize W21.setRow g5 (spl10 cur.toList (s + 1) ((zs.map (fun x : Nat => Value.int .i64 (x : Int))).drop s)).toArray = W7 at *
 have VL := VL_n
 have VF := VF_n
 have OR := OR_n
 have CS := CS_n
 clear VL_n VF_n OR_n CS_n
 have BB : Below W7.heap.size W7 W7 := Below.refl _ _
 refine hK.out _ _ ?_ (fun hH1 => ?_)
 ·exact VL.1
 clear hK K hHeld
 (try simp only [Act.put,xL4,xL5,xL6])
 refine wpAnyH_done (by kernel_rfl) ?_ _
 clear hH1
 generalize (if c5 = s + 1 then some (⟨g5,0,none⟩ : Addr) else some ⟨g5,s + 1,none⟩) = dp9 at *
 obtain ⟨cur,hcur,hfit,hBg,hO4⟩ := owns_splice (o := s) (cs := [.int .i64 (f : Int)]) OR.own (by simp; omega)
 obtain ⟨hP4,hK4⟩ := pure_splice (o := s) (cs := [.int .i64 (f : Int)]) hcur OR.pur (by intro u hu; simp at hu; subst hu; exact limb_int _)
 have xC : W7.cell? ⟨g5,s,none⟩ = some (cur.getD s undef) ∧ W7.frozen? ⟨g5,s,none⟩ = false := by
  refine ⟨?_,?_⟩
  ·rw [cell_of_row _ _ _ _ _ _ hcur]
   simp at hfit
   simp [Array.getElem?_eq_getElem (show s < cur.size by omega),Array.getD,show s < cur.size by omega]
  ·exact OR.own.frozenAt _
 have eS : W7.setCell ⟨g5,s,none⟩ (.int .i64 (f : Int)) = W7.setRow g5 (spl10 cur.toList s [.int .i64 (f : Int)]).toArray := set_one12 hcur (by simp at hfit; omega)
 have OW : IOw B (W7.setCell ⟨g5,s,none⟩ (.int .i64 (f : Int))) (.slice (some ⟨g5,0,none⟩) (k + 1) c5) (zs.take s ++ f :: zs.drop s) := by
  rw [eS]
  rw [lay_list _ _ _ _ (by rw [hul]; omega)] at hO4
  have e1 : (zs.take s ++ f :: zs.drop s).length = k + 1 := by have := HK.out; simp only [List.length_append,List.length_cons,List.length_take,List.length_drop]; omega
  refine IOw.of (by rw [e1]; simpa [List.map_append,List.map_take,List.map_drop] using hO4) (fun g hg => by cases hg; exact hP4)
 have CS2 : Bw12 B w (W7.setCell ⟨g5,s,none⟩ (.int .i64 (f : Int))) := by rw [eS]; exact CS.row hBg hK4
 have VL2 : V1 (W7.setCell ⟨g5,s,none⟩ (.int .i64 (f : Int))) w.heap.size (.slice (some ⟨g5,0,none⟩) (k + 1) c5) := VL.block12 (Below.heap_setCell _ _ _ _ (fun e => hg5w.1 e.symm))
 obtain ⟨xc,xf⟩ := xC
 obtain ⟨u1,u2⟩ := id VL
 obtain ⟨u3,u4⟩ := id VF
 obtain ⟨u5,u6⟩ := id VL2
 clear hcur hfit hBg hO4 hP4 hK4 eS OR CS VL VF
 go_wp2
 go_ret
 exact ⟨s,HPL.out,_,rfl,OW,CS2⟩

theorem limb_num {v : Value} (h : IsLimb v) : IsNum v := by
 obtain ⟨x,h⟩ := h
 rcases h with h | h
 ·exact ⟨_,_,h⟩
 ·exact ⟨_,_,h⟩
theorem keepN_L {w w' : World} (h : KeepQ IsNum w w') : KeepQ IsLimb w w' := fun b o v hv hc => h b o v (limb_num hv) hc
theorem VArr.put12 {w : World} {g k i : Nat} {q : Nat → Rat} (h : VArr w g k i q) (hi : i < k) {p : Bool} {a b : Option Addr} {n c m d : Nat} (hr : RepQ w (.agg #[.bool p,.slice a n c,.slice b m d]) (q i)) : ∃ u0 u1 u2,w.cell? ⟨g,i * 3,none⟩ = some u0 ∧ w.cell? ⟨g,i * 3 + 1,none⟩ = some u1 ∧ w.cell? ⟨g,i * 3 + 2,none⟩ = some u2 ∧ w.frozen? ⟨g,i * 3,none⟩ = false ∧ w.frozen? ⟨g,i * 3 + 1,none⟩ = false ∧ w.frozen? ⟨g,i * 3 + 2,none⟩ = false ∧
  VArr (((w.setCell ⟨g,i * 3,none⟩ (.bool p)).setCell ⟨g,i * 3 + 1,none⟩ (.slice a n c)).setCell ⟨g,i * 3 + 2,none⟩ (.slice b m d)) g k (i + 1) q ∧ KeepQ IsLimb w (((w.setCell ⟨g,i * 3,none⟩ (.bool p)).setCell ⟨g,i * 3 + 1,none⟩ (.slice a n c)).setCell ⟨g,i * 3 + 2,none⟩ (.slice b m d)) := by
 obtain ⟨u0,u1,u2,x0,x1,x2,y0,y1,y2,V⟩ := h.put hi hr
 obtain ⟨el,A,R⟩ := h
 obtain ⟨A2,K2⟩ := A.set i hi (.bool p) (.slice a n c) (.slice b m d) (num_bool _) (num_slice _ _ _) (num_slice _ _ _)
 exact ⟨u0,u1,u2,x0,x1,x2,y0,y1,y2,V,keepN_L K2⟩
theorem qsz_abs12 {x : Rat} {M : Nat} (h : qsz x ≤ M) : qsz (absQ x) ≤ M := by
 unfold absQ
 split
 ·rw [qsz_neg]; exact h
 ·exact h
theorem sign12 (x : Rat) : cmpQ x 0 = 0 ↔ x = 0 := by
 have := cmpQ_eq x 0
 rw [decide_eq_decide] at this
 exact this
set_option maxRecDepth 100000 in
set_option maxHeartbeats 4000000 in
theorem sorder_no (F : Int) (vm vr : Value) (k nr : Nat) (N : Nat → Nat) (T : Nat → Nat → Nd) (r : Nat → Cl) (L C : Nat) (w : World) (hM : MRow w vm k N T L) (hR : CRow w vr nr r L) (hT : Tab w) (hL : 1 ≤ L) (hC : 2 * L + 2 ≤ C) (hCn : 255 * C ≤ 10000) (hw : whyI F k N T nr ≠ 0) :
  Calls Tryz.prog 43 #[.agg #[.int .i64 F,vm],vr] w fun e w' => e = .returned (.tuple #[.slice none 0 0,.int .i64 (whyI F k N T nr)]) ∧ Below w.heap.size w w' := by
 obtain ⟨ao,c,rfl,hnc,hc63⟩ := hM.open
 obtain ⟨ar,cr,rfl,hrc,hr63⟩ := hR.open
 obtain ⟨W0,hW0,hS0,hL0,VM⟩ := V2.lay w 24 (.int .i64 F) (.slice ao k c)
 have BB : Below w.heap.size w W0 := hL0
 clear hL0
 have HM0 : Hid (MRow w (.slice ao k c) k N T L) := hM
 have HR0 : Hid (CRow w (.slice ar nr cr) nr r L) := hR
 have HT0 : Hid (Tab w) := hT
 clear hM hR hT
 go_enter Tryz.func43,Tryz.ntmps43
 obtain ⟨VM_0,VM_1,VM_2,VM_3⟩ := id VM
 rw [hW0] at VM_0 VM_1 VM_2 VM_3
 go_wp2_with fail
 clear VM_0 VM_1 VM_2 VM_3
 rw [← hW0]
 clear hW0 hS0 VM
 refine (svalues_no F _ _ k nr N T r L C _ (HM0.out.below BB) (HR0.out.below BB) (HT0.out.below BB) hL hC hCn hw).mono ?_
 rintro e w1 ⟨rfl,b1⟩
 replace BB := BB.trans (b1.mono BB.size)
 clear b1
 obtain ⟨e1,he1⟩ : ∃ e1,whyI F k N T nr = e1 := ⟨_,rfl⟩
 have HE : Hid (whyI F k N T nr = e1) := he1
 rw [he1] at hw
 rw [he1]
 clear he1
 have g2 : (e1 != 0) = true := by simpa using hw
 have g3 : decide (e1 = 0) = false := decide_eq_false hw
 go_wp2
 go_ret2
 exact ⟨by rw [HE.out]; rfl,BB⟩
set_option maxRecDepth 100000 in
set_option maxHeartbeats 16000000 in
theorem sorder_yes (vm vr : Value) (k nr : Nat) (N : Nat → Nat) (T : Nat → Nat → Nd) (r : Nat → Cl) (L C : Nat) (w : World) (hM : MRow w vm k N T L) (hR : CRow w vr nr r L) (hT : Tab w) (hL : 1 ≤ L) (hC : 2 * L + 2 ≤ C) (hCn : 255 * C ≤ 10000) (hw : whyI (nr : Int) k N T nr = 0) (hB : mayB (nr : Int) k N T = true) (hk : k ≤ 6) (M : Nat) (hM1 : 1 ≤ M) (hMS : ∀ s ∈ spA T N r k,qsz s.add ≤ M) (hMM : (spA T N r k).length * (M + 1) + M ≤ 100000) (MV : Nat) (hV1 : 1 ≤ MV) (hV2 : MV ≤ 100000) (hV : ∀ j,qsz (valS (spA T N r k) j) ≤ MV) :
  Calls Tryz.prog 43 #[.agg #[.int .i64 (nr : Int),vm],vr] w fun e w' => ∃ u,e = .returned (.tuple #[u,.int .i64 0]) ∧ ∃ zs,IOw w.heap.size w' u zs ∧ OrdI (valS (spA T N r k)) nr zs ∧ Below w.heap.size w w' := by
 obtain ⟨ao,c,rfl,hnc,hc63⟩ := hM.open
 obtain ⟨ar,cr,rfl,hrc,hr63⟩ := hR.open
 obtain ⟨W0,hW0,hS0,hL0,VM⟩ := V2.lay w 24 (.int .i64 (nr : Int)) (.slice ao k c)
 have BB : Below w.heap.size w W0 := hL0
 clear hL0
 have HM0 : Hid (MRow w (.slice ao k c) k N T L) := hM
 have HR0 : Hid (CRow w (.slice ar nr cr) nr r L) := hR
 have HT0 : Hid (Tab w) := hT
 clear hM hR hT
 go_enter Tryz.func43,Tryz.ntmps43
 obtain ⟨VM_0,VM_1,VM_2,VM_3⟩ := id VM
 rw [hW0] at VM_0 VM_1 VM_2 VM_3
 go_wp2_with fail
 clear VM_0 VM_1 VM_2 VM_3
 rw [← hW0]
 clear hW0 hS0 VM
 have hn64 : nr ≤ 64 := by have := (mayB_may hB).2.1; omega
 refine (svalues_yes _ _ k nr N T r L C _ (HM0.out.below BB) (HR0.out.below BB) (HT0.out.below BB) hL hC hCn hw hB hk M hM1 hMS hMM).mono ?_
 rintro e w1 ⟨vs,rfl,FR,b1⟩
 replace BB := BB.trans (b1.mono BB.size)
 clear b1 hw hB hMS hMM
 obtain ⟨q,hq⟩ : ∃ q,valS (spA T N r k) = q := ⟨_,rfl⟩
 have HQ : Hid (valS (spA T N r k) = q) := hq
 rw [hq] at FR
 have HZ : Hid (∀ j,qsz (q j) ≤ MV) := by rw [← hq]; exact hV
 clear hq hV
 obtain ⟨as_,cs_,rfl⟩ := FR.open
 have HFR : Hid (FRow w1 (.slice as_ nr cs_) nr q) := FR
 have HB0 : Hid (Below w.heap.size w w1) := BB
 have HT1 : Hid (Tab w1) := HT0.out.below BB
 clear FR
 obtain ⟨i0,hi,hz0,hz1,hz2⟩ := info_parts info_wrat
 go_wp2_with (at_make; refine wpList_make_full _ rfl _ _ 43 rfl _ 34 i0 (.agg #[.bool false,.slice none 0 0,.slice none 0 0]) 3 Tryz.underlying43 hi hz0 hz1 _ _ _ _ nr rfl rfl (by omega) (by omega) (by rw [hz2]; omega) (by unfold maxLen; omega) (Nat.le_refl _) ?_; intro w2 hown hgrow)
 have BG := below_grown hgrow
 have VA0 : VArr w2 w1.heap.size nr 0 (fun j => absQ (q j)) := by
  obtain ⟨el,A,_⟩ := GArr.made hown 10
  exact ⟨el,A,fun j hj => by omega⟩
 have hS2 : w1.heap.size + 1 ≤ w2.heap.size := (owns_cap hown).2.2
 clear hown hgrow hi hz0 hz1 hz2 BB
 obtain ⟨G,hG⟩ : ∃ G,w1.heap.size = G := ⟨_,rfl⟩
 have HG : Hid (w1.heap.size = G) := hG
 rw [hG] at VA0 BG hS2 ⊢
 clear hG
 go_loopw [9,26] (fun vo vi wr => ∃ (i : Nat) (zs : List Nat),i ≤ nr ∧ vi = .int .i64 (i : Int) ∧ IOw (G + 1) wr vo zs ∧ Hid (OrdI q i zs) ∧ VArr wr G nr i (fun j => absQ (q j)) ∧ G + 1 ≤ wr.heap.size ∧ Below G w1 wr) (fun _ vi _ => nr - (intOf vi).toNat)
 case atStart => exact ⟨0,[],by omega,rfl,GOwn.nil,OrdI.start q,VA0,hS2,BG⟩
 case round =>
  clear VA0 BG hS2
  obtain ⟨i,zs,hi,rfl,OW,HI,VA,hS2,BG⟩ := hrel
  by_cases hlt : i < nr
  ·have g1 : (i : Int) < (nr : Int) := by omega
   have g0 : (0 : Int) ≤ (i : Int) := by omega
   have BG1 : Below w1.heap.size w1 wr := by rw [HG.out]; exact BG
   obtain ⟨bl,ol,cl_,p4,a4,n4,c4,y4,m4,d4,hv4,hlc4,E4,r4⟩ := (HFR.out.below BG1).at i hlt
   cases hv4
   have ht := HT1.out.below BG1
   obtain ⟨x0,x1,x2⟩ := E4
   obtain ⟨W3,hW3,hS3,hL3,VX⟩ := V3.lay wr 34 (.bool p4) (.slice a4 n4 c4) (.slice y4 m4 d4)
   replace OW := OW.below hL3
   replace VA := VA.below hL3
   replace r4 := r4.below hL3
   replace ht := ht.below hL3
   have BG3 : Below G w1 W3 := BG.trans (hL3.mono (by omega))
   have hGR : G ≠ wr.heap.size := by omega
   have hS3' : G + 1 ≤ W3.heap.size := by omega
   clear hL3 BG BG1 hS2
   obtain ⟨s1,s2,s3,s4,s5,s6⟩ := id VX
   rw [hW3] at s1 s2 s3 s4 s5 s6
   go_wp2_with fail
   clear s1 s2 s3 s4 s5 s6 x0 x1 x2
   rw [← hW3]
   generalize wr.heap.size = RX at *
   clear hW3 hS3
   refine (qabs_at _ (q i) MV _ (r4.at _ (HZ.out i)) hV1 hV2 ht).mono ?_
   rintro e w5 ⟨v5,rfl,h5,b5⟩
   replace OW := OW.below b5
   replace VA := VA.below b5
   replace r4 := r4.below b5
   replace VX := VX.below b5
   have BG5 : Below G w1 w5 := BG3.trans (b5.mono (by omega))
   have hS5 : G + 1 ≤ w5.heap.size := Nat.le_trans hS3' b5.size
   clear b5 BG3 hS3' ht
   obtain ⟨p5,a5,n5,c5,b5,m5,d5,rfl⟩ := h5.open
   obtain ⟨u0,u1,u2,x0,x1,x2,y0,y1,y2,VA6,K6⟩ := VA.put12 hlt h5
   have OW6 := GOwn.kept OW iEl (grown_put3 w5 G i (.bool p5) (.slice a5 n5 c5) (.slice b5 m5 d5)) K6 (by
    cases hb : Value.ownBlock _ with
    | none => exact .inl rfl
    | some g9 =>
     refine .inr (fun e => ?_)
     injection e with e
     obtain ⟨cs9,h9,_⟩ := OW
     have := (World.ownsRow.lt h9 g9 hb).1
     omega)
   have VX6 : V3 (((w5.setCell ⟨G,i * 3,none⟩ (.bool p5)).setCell ⟨G,i * 3 + 1,none⟩ (.slice a5 n5 c5)).setCell ⟨G,i * 3 + 2,none⟩ (.slice b5 m5 d5)) RX _ _ _ := VX.block11 (put3_block _ _ _ _ _ _ _ (fun e => hGR e.symm))
   have r46 := r4.keepL K6
   have BG6 : Below G w1 (((w5.setCell ⟨G,i * 3,none⟩ (.bool p5)).setCell ⟨G,i * 3 + 1,none⟩ (.slice a5 n5 c5)).setCell ⟨G,i * 3 + 2,none⟩ (.slice b5 m5 d5)) := ((BG5.setCell (Nat.le_refl _) _).setCell (Nat.le_refl _) _).setCell (Nat.le_refl _) _
   have hS6 : G + 1 ≤ (((w5.setCell ⟨G,i * 3,none⟩ (.bool p5)).setCell ⟨G,i * 3 + 1,none⟩ (.slice a5 n5 c5)).setCell ⟨G,i * 3 + 2,none⟩ (.slice b5 m5 d5)).heap.size := by simpa using hS5
   obtain ⟨s1,s2,s3,s4,s5,s6⟩ := id VX6
   clear h5 VA OW VX r4 BG5 hS5
   go_wp2_with fail
   clear s1 s2 s3 s4 s5 s6 x0 x1 x2 y0 y1 y2 K6
   generalize ((w5.setCell ⟨G,i * 3,none⟩ (.bool p5)).setCell ⟨G,i * 3 + 1,none⟩ (.slice a5 n5 c5)).setCell ⟨G,i * 3 + 2,none⟩ (.slice b5 m5 d5) = W6 at *
   refine (qsign_at _ (q i) MV _ (r46.at _ (HZ.out i)) hV1 hV2).mono ?_
   rintro e w7 ⟨rfl,b7⟩
   replace OW6 := GOwn.later OW6 iEl b7
   replace VA6 := VA6.below b7
   have BG7 : Below G w1 w7 := BG6.trans (b7.mono (by omega))
   have hS7 : G + 1 ≤ w7.heap.size := Nat.le_trans hS6 b7.size
   clear b7 BG6 hS6 VX6 r46
   have HSG := sign12 (q i)
   obtain ⟨cq,hcq⟩ : ∃ cq,cmpQ (q i) 0 = cq := ⟨_,rfl⟩
   rw [hcq] at HSG ⊢
   clear hcq
   by_cases h0 : q i = 0
   ·have hc0 := HSG.2 h0
    subst hc0
    have HI2 : Hid (OrdI q (i + 1) zs) := HI.out.skip h0
    clear h0 HSG
    go_wp2
    go_roundw
    case rel => exact ⟨i + 1,zs,by omega,by go_num,OW6,HI2,VA6,hS7,BG7⟩
    case measure => simp [intOf]; omega
   ·have hc0 : (cq != 0) = true := by simpa using (fun e => h0 (HSG.1 e))
    have hc1 : ¬ cq = 0 := fun e => h0 (HSG.1 e)
    have H0 : Hid (q i ≠ 0) := h0
    have hzl : zs.length ≤ 1000 := by rw [HI.out.len]; have := cntN_le q i; omega
    clear h0 HSG
    go_wp2_with fail
    refine (laid12_at i nr G MV (G + 1) _ zs q _ OW6 VA6 (fun j _ => qsz_abs12 (HZ.out j)) hV1 hV2 hlt hS7 (fun x hx => (HI.out.mem x hx).1) hzl (fun a b x y hab hx hy hl => HI.out.mono i hab hx hy hl)).mono ?_
    rintro e w8 ⟨s,HP,u8,rfl,OW8,CS8⟩
    have HI2 : Hid (OrdI q (i + 1) (zs.take s ++ i :: zs.drop s)) := HI.out.lay H0.out HP
    have VA8 := VA6.low CS8.low (by omega) CS8.limb
    have BG8 : Below G w1 w8 := BG7.trans (CS8.low.mono (by omega))
    have hS8 : G + 1 ≤ w8.heap.size := Nat.le_trans hS7 CS8.size
    clear HP OW6 VA6 BG7 hS7 CS8
    go_wp2
    go_roundw
    case rel => exact ⟨i + 1,_,by omega,by go_num,OW8,HI2,VA8,hS8,BG8⟩
    case measure => simp [intOf]; omega
  ·obtain rfl : i = nr := by omega
   have g1 : ¬ (i : Int) < (i : Int) := by omega
   go_wp2
   go_ret2
   refine ⟨_,rfl,zs,GOwn.le OW (by have := HB0.out.size; have := HG.out; omega),by rw [HQ.out]; exact HI.out,?_⟩
   have h9 := HG.out
   have h8 := HB0.out.size
   exact HB0.out.trans (BG.mono (by omega))
end Go.Proofs.YtjmagcgobhaenaaGreatDoor
