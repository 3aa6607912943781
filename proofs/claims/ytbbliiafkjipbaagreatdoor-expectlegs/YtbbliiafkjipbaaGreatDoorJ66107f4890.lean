/-
  Texts of mine.
-/
import Derived.Test.YtbbliiafkjipbaaGreatDoorJe1b848227b
import Derived.Test.YtbbliiafkjipbaaGreatDoorJd92ac15ab2
import Derived.Test.YtbbliiafkjipbaaGreatDoorJc12909aee1
import Derived.Test.YtbbliiafkjipbaaGreatDoorJd9abae9e33
import Derived.Test.YtbbliiafkjipbaaGreatDoorJa61d86bc3a
namespace Go.Proofs.YtbbliiafkjipbaaGreatDoor
open Go.RowKit Go.Shelf
set_option linter.unusedVariables false
set_option linter.unusedSimpArgs false
attribute [local go_sem] Oper.semAt_some
theorem nthB_mem (zs : List Nat) {k : Nat} (h : k < zs.length) : nthB zs zs.length k ∈ zs := by
 unfold nthB
 rw [List.getD_eq_getElem?_getD,List.getElem?_eq_getElem (by omega)]
 exact List.getElem_mem _
theorem TRow.sz11 {w : World} {v : Value} {n : Nat} {t : Nat → Nd} {L : Nat} (h : TRow w v n t L) (hL : 1 ≤ L) {i : Nat} (hi : i < n) : qsz (t i).val ≤ L ∧ qsz (t i).cov ≤ L := by
 obtain ⟨b,off,c,p1,a1,n1,c1,b1,m1,d1,p2,a2,n2,c2,b2,m2,d2,p3,a3,n3,c3,b3,m3,d3,e,hc,hm,hN,r1,r2,r3,i1,i2,i3⟩ := h.at hi
 exact ⟨r2.qsz hL,r3.qsz hL⟩
theorem RInv.run {t : Nat → Nd} {n : Nat} : ∀ d (out wait : List Nat),n - out.length ≤ d → RInv t n out wait → ∃ out',RInv t n out' [] := by
 intro d
 induction d with
 | zero =>
  intro out wait hd h
  rcases List.eq_nil_or_concat wait with rfl | ⟨ws,i,rfl⟩
  ·exact ⟨out,h⟩
  ·have := h.len
   simp at this
   omega
 | succ d ih =>
  intro out wait hd h
  rcases List.eq_nil_or_concat wait with rfl | ⟨ws,i,rfl⟩
  ·exact ⟨out,h⟩
  ·rw [List.concat_eq_append] at h
   have hl := h.len
   simp at hl
   obtain ⟨F,hm⟩ := h.m
   have hi : i < n := h.d.small i (by simp)
   cases e : (t i).leaf with
   | true => exact ih _ _ (by simp; omega) (h.leaf e)
   | false =>
    obtain ⟨e1,e2,a1,a2,a3,a4,_,_⟩ := hm.kids hi e
    exact ih _ _ (by simp; omega) (h.split hm.once e e1 e2 a1 a2 a3 a4)
theorem MayT.pre_count {F : Int} {t : Nat → Nd} {n : Nat} (h : MayT F t n) : (pre t n 0).length = n := by
 obtain ⟨out,ho⟩ := RInv.run n [] [0] (by simp) (RInv.start (t := t) h.pos ⟨F,h⟩)
 rw [← ho.all]
 exact ho.count
theorem MayT.pre_few {F : Int} {t : Nat → Nd} {n : Nat} (h : MayT F t n) {x : Nat} (hx : x < n) : (pre t n x).length ≤ n := by
 have h0 : 0 < n := h.pos
 have h1 := ((h.pre_sub h0) x (h.pre_all x hx)).2.1
 have h2 := h.pre_count
 omega
theorem MayT.bnd_le {F : Int} {t : Nat → Nd} {n : Nat} (h : MayT F t n) (C : Nat) {x : Nat} (hx : x < n) : bnd t n C x ≤ n * C := Nat.mul_le_mul_right C (h.pre_few hx)
theorem sum_sz {F : Int} {t : Nat → Nd} {n L C : Nat} (hm : MayT F t n) (hz : ∀ i,i < n → qsz (t i).val ≤ L ∧ qsz (t i).cov ≤ L) (hC : 2 * L + 2 ≤ C) (q : Nat → Rat) (i : Nat) (hi : i < n) (hq : ∀ j,j < n → qsz (q j) ≤ bnd t n C j) : qsz (fSum t q i) ≤ bnd t n C i := by
 unfold fSum
 cases hl : (t i).leaf with
 | true =>
  rw [if_pos rfl]
  have h1 := qsz_mul _ _ (hz i hi).1 (hz i hi).2
  have h2 := bnd_pos (t := t) (n := n) (C := C) (by omega) i
  omega
 | false =>
  rw [if_neg (by simp)]
  obtain ⟨_,_,_,a2,_,a4,_,_⟩ := hm.kids hi hl
  have h1 := qsz_add _ _ (hq _ a2) (hq _ a4)
  have h2 := hm.bnd_split C hi hl
  omega
set_option maxRecDepth 100000 in
set_option maxHeartbeats 2000000 in
theorem share_at (u v : Value) (q r : Rat) (L : Nat) (w : World) (hu : RatAt w u q L) (hv : RatAt w v r L) (hL : 1 ≤ L) (hM : L ≤ 100000) (ht : Tab w) (h0 : r ≠ 0) :
  Calls Tryz.prog 50 #[u,v] w fun e w' => ∃ x,e = .returned x ∧ RepQ w' x (q / r) ∧ Below w.heap.size w w' := by
 obtain ⟨p,ao,n,c,bo,m,d,rfl⟩ := hu.open
 obtain ⟨p2,ao2,n2,c2,bo2,m2,d2,rfl⟩ := hv.open
 have BB : Below w.heap.size w w := Below.refl _ _
 obtain ⟨Wb0,hW0,hS0,hL0,VA⟩ := V3.lay w 42 (.bool p) (.slice ao n c) (.slice bo m d)
 replace hu := hu.below hL0
 replace hv := hv.below hL0
 replace ht := ht.below hL0
 replace BB := BB.xm hL0
 clear hL0
 obtain ⟨Wb1,hW1,hS1,hL1,VB⟩ := V3.lay Wb0 42 (.bool p2) (.slice ao2 n2 c2) (.slice bo2 m2 d2)
 rw [hS0] at VB hS1
 replace hu := hu.below hL1
 replace hv := hv.below hL1
 replace ht := ht.below hL1
 replace VA := VA.below hL1
 replace BB := BB.xm hL1
 clear hL1
 obtain ⟨Wb2,hW2,hS2,hL2,VR⟩ := V3.lay Wb1 42 (.bool false) (.slice none 0 0) (.slice none 0 0)
 rw [hS1] at VR hS2
 replace hu := hu.below hL2
 replace hv := hv.below hL2
 replace ht := ht.below hL2
 replace VA := VA.below hL2
 replace VB := VB.below hL2
 replace BB := BB.xm hL2
 clear hL2
 go_enter Tryz.func50,Tryz.ntmps50
 go_wp2_with fail
 rw [← hW0]
 rw [← hW1]
 rw [← hW2]
 clear hW0 hW1 hW2 hS0 hS1 hS2
 refine (qdiv_at _ _ q r L _ hu hv hL hM ht h0).mono ?_
 rintro e w1 ⟨x3,rfl,hx,b1⟩
 replace hu := hu.below b1
 replace hv := hv.below b1
 replace ht := ht.below b1
 replace VA := VA.below b1
 replace VB := VB.below b1
 replace VR := VR.below b1
 replace BB := BB.xm b1
 clear b1
 obtain ⟨p3,a3,n3,c3,b3,m3,d3,rfl⟩ := hx.open
 clear hu hv ht
 have hne : w.heap.size + 1 + 1 ≠ w1.heap.size := Nat.ne_of_lt VR.lt
 obtain ⟨W5,hW5,hS5,hL5,VO⟩ := V3.lay w1 42 (.bool p3) (.slice a3 n3 c3) (.slice b3 m3 d3)
 replace hx := hx.below hL5
 replace VR := VR.below hL5
 replace BB := BB.xm hL5
 have hKp := VR.keepJ (.bool p3) (.slice a3 n3 c3) (.slice b3 m3 d3)
 have hx_n := hx.keep hKp
 have BB_n := below_store3 (R := w.heap.size + 1 + 1) BB (by omega) (.bool p3) (.slice a3 n3 c3) (.slice b3 m3 d3)
 obtain ⟨o1,o2,o3,o4,o5,o6⟩ := id VO
 obtain ⟨q1,q2,q3,q4,q5,q6⟩ := id VR
 rw [hW5] at o1 o2 o3 o4 o5 o6 q1 q2 q3 q4 q5 q6 hx_n BB_n
 clear hx VR BB hKp VO hL5 VA VB
 go_wp2
 (try simp only [Exit.inBlock,Exit.then])
 refine bodyPost_ret (v := .agg #[.bool p3,.slice a3 n3 c3,.slice b3 m3 d3]) (by simp [results,go_sem,q1,q2,q3]) rfl ?_
 exact ⟨_,rfl,hx_n,BB_n⟩
set_option maxRecDepth 100000 in
set_option maxHeartbeats 1000000 in
theorem downwards_at (F : Int) (v : Value) (n : Nat) (t : Nat → Nd) (r : Nat → Cl) (L : Nat) (w : World) (hT : TRow w v n t L) (hm : MayT F t n) (hF : F ≤ 64) :
  Calls Tryz.prog 51 #[v] w fun e w' => ∃ u outs,e = .returned u ∧ IntOwn w.heap.size w' u outs ∧ QInv t n r 0 outs outs.length ∧ Below w.heap.size w w' := by
 obtain ⟨at_,ct,rfl,htc,ht63⟩ := hT.open
 go_enter Tryz.func51,Tryz.ntmps51
 go_wp2_with fail
 refine (counted_at F _ _ _ n t r 0 L _ hT (OnW.none _ _ _ _ _ ⟨_,_,_,rfl⟩) ⟨_,_,_,rfl⟩ hm hF (by omega)).mono ?_
 rintro e w1 ⟨u,outs,rfl,hO,hQ,b1⟩
 go_wp2
 go_ret
 exact ⟨_,outs,rfl,hO,hQ,b1⟩
set_option maxRecDepth 100000 in
set_option maxHeartbeats 8000000 in
theorem sums_at (F : Int) (v : Value) (n : Nat) (t : Nat → Nd) (L C : Nat) (w : World) (hT : TRow w v n t L) (hm : MayT F t n) (hF : F ≤ 64) (ht : Tab w) (hL : 1 ≤ L) (hC : 2 * L + 2 ≤ C) (hCn : n * C ≤ 30000) :
  Calls Tryz.prog 58 #[v] w fun e w' => ∃ g,e = .returned (.slice (some ⟨g,0,none⟩) n n) ∧ w.heap.size ≤ g ∧ GArr w' g n (ws t n) (n * C) ∧ Below w.heap.size w w' := by
 refine (callsIn_wide (n := 9)).1 ?_
 obtain ⟨at_,ct,rfl,htc,ht63⟩ := hT.open
 obtain ⟨i0,hi,hz0,hz1,hz2⟩ := info_parts info_wrat
 have BB : Below w.heap.size w w := Below.refl _ _
 have HT0 : Hid (TRow w (.slice at_ n ct) n t L) := hT
 have HTB : Hid (Tab w) := ht
 have HM : Hid (MayT F t n) := hm
 have hn0 : 0 < n := hm.pos
 have hn255 := hm.few
 have HZ : Hid (∀ i,i < n → qsz (t i).val ≤ L ∧ qsz (t i).cov ≤ L) := fun i hi => hT.sz11 hL hi
 obtain ⟨W1,hW1,hS1,hL1,VT⟩ := V1.lay w 22 (.slice at_ n ct)
 replace BB := BB.xm hL1
 clear hL1 hT hm ht
 refine callsIn_of_wp_marks Tryz.func58 rfl trivial ?_
 simp only [Tryz.ntmps58,List.size_toArray,List.length_cons,List.length_nil,Nat.reduceAdd,Nat.reduceSub,Array.replicate_succ,Array.replicate_zero,List.push_toArray,List.append_toArray,List.nil_append,List.cons_append]
 obtain ⟨VT1,VT2⟩ := id VT
 rw [hW1] at VT1 VT2
 gi_wp2_with (gi_at_make; rw [← hW1]; refine wpListIn_make_full _ rfl _ _ 68 rfl _ 42 i0 (.agg #[.bool false,.slice none 0 0,.slice none 0 0]) 3 Tryz.underlying68 hi hz0 hz1 _ _ _ _ n rfl rfl (by omega) (by omega) (by rw [hz2]; omega) (by unfold maxLen; omega) (Nat.le_refl _) ?_; intro w2 hown hgrow; have hb1 := below_grown hgrow; have GA := GArr.made hown (n * C); have VT5 := VT.below hb1; obtain ⟨W3,hW3,hS3,hL3,VO⟩ := V1.lay w2 68 (.slice (some ⟨w.heap.size + 1,0,none⟩) n n); have VT6 := VT5.below hL3; obtain ⟨VT7,VT8⟩ := id VT6; rw [hW3] at VT7 VT8; clear hown hgrow VT1 VT2 hW1)
 replace BB := BB.xm hb1
 have hg2 : W1.heap.size < w2.heap.size := GA.lt hn0
 clear hb1 hi hz0 hz1 hz2 VT VT5 VT7 VT8
 have VT := VT6
 rw [← hW3]
 replace GA := GA.below hL3
 replace BB := BB.xm hL3
 have hgl := GA.lt hn0
 clear hL3 hW3 VT6
 have hlT := VT.lt
 have hlO := VO.lt
 rw [hS1] at GA hgl hg2
 obtain ⟨g,hg⟩ : ∃ B,B = w.heap.size + 1 := ⟨_,rfl⟩
 rw [← hg] at GA VO ⊢
 obtain ⟨Bt,hBt⟩ : ∃ B,B = w.heap.size := ⟨_,rfl⟩
 rw [← hBt] at VT ⊢
 obtain ⟨Bo,hBo⟩ : ∃ B,B = w2.heap.size := ⟨_,rfl⟩
 rw [← hBo] at VO hg2 ⊢
 rw [← hg] at hg2
 have hG : Hid (Bt = w.heap.size ∧ g = w.heap.size + 1 ∧ g < Bo ∧ Bo < W3.heap.size) := ⟨hBt,hg,hg2,by omega⟩
 clear hBt hg hBo hg2 hlT hlO hgl hS1 hS3
 have HSZ : Hid (∀ l : List Nat,(∀ x ∈ l,x < n) → ∀ j,j < n → qsz (runB (fSum t) l j) ≤ n * C) := fun l hl j hj =>
  Nat.le_trans (runB_sz (b := bnd t n C) (n := n) (fun i => Nat.le_trans (by omega) (bnd_pos (by omega) i)) (fun q i hi hq => sum_sz HM.out HZ.out hC q i hi hq) l hl j hj) (HM.out.bnd_le C hj)
 have hL9 : L ≤ 30000 := by have := Nat.mul_le_mul hn0 hC; omega
 have hNC : 1 ≤ n * C := Nat.le_trans (by omega) (Nat.mul_le_mul hn0 hC)
 refine ⟨trivial,(callsIn_wide.2 (downwards_at F _ n t (fun _ => ⟨true,0⟩) L _ (HT0.out.below BB) HM.out hF)).mono ?_⟩
 rintro e W4 ⟨u,zs,rfl,hI,hQ,b4⟩
 have HQ : Hid (QInv t n (fun _ => ⟨true,0⟩) 0 zs zs.length) := hQ
 have hK1000 : zs.length ≤ n := hQ.len
 have hne : 0 < zs.length := (List.getElem?_eq_some_iff.1 hQ.root).1
 obtain ⟨b0,cz,rfl,hcz⟩ := hI.open hne
 have hb1 := hI.both b0 rfl
 have HC : Hid (∀ j x : Nat,zs[j]? = some x → W4.cell? ⟨b0,j,none⟩ = some (.int .i64 (x : Int))) := fun j x hj => hI.cell rfl hj
 replace VT := VT.below b4
 replace VO := VO.below b4
 replace GA := GA.below b4
 replace BB := BB.xm b4
 have hs4 := b4.size
 clear b4 hI hQ
 gi_wp2_with fail
 refine ⟨trivial,(callsIn_wide.2 (back_at _ _ _ _ _ rfl)).mono ?_⟩
 rintro e WL ⟨Bs,rfl,hs1,hs2,hcs,b5⟩
 have hs5 := b5.size
 replace VT := VT.below b5
 replace VO := VO.below b5
 replace GA := GA.below b5
 replace BB := BB.xm b5
 have hce : ∀ j x : Nat,zs[j]? = some x → WL.cell? ⟨b0,j,none⟩ = some (.int .i64 (x : Int)) := fun j x hj => (b5.cell (p := ⟨b0,j,none⟩) hb1.2).trans (HC.out j x hj)
 clear b5 HC
 have hB : Hid (Bo ≠ g ∧ Bs ≠ g ∧ b0 ≠ g ∧ Bs < WL.heap.size ∧ b0 < WL.heap.size ∧ w.heap.size ≤ g) := by
  obtain ⟨g1,g2,g3,g4⟩ := hG.out
  exact ⟨by omega,by omega,by omega,hs2,by omega,by omega⟩
 have hbl : b0 < WL.heap.size := by omega
 have HWL : Hid (w.heap.size ≤ WL.heap.size) := BB.size
 clear hb1 hs4 hs1 hs5
 gi_wp2_with fail
 obtain ⟨K,hK⟩ : ∃ K,K = zs.length := ⟨_,rfl⟩
 rw [← hK] at hcs hcz hK1000 ⊢
 have HK : Hid (K = zs.length) := hK
 refine wpIn_rangeFunc_ownG rfl (by decide) (gf := 100) (lb := #[.pointer (some ⟨Bs,0,none⟩)]) rfl trivial (enters_of Tryz.func100 (by kernel_rfl) rfl)
  (back_stops 8 Bs b0 cz K zs (by omega) hK (by omega) hcz WL hs2 hbl hcs hce) KeepB.trans (keepB_b hs2 hbl) (Below.refl _ _) (fun _ => rfl)
  (AInv w WL (fun W => V1 W Bt (.slice at_ n ct)) Bo g n (fSum t) (n * C) zs K) (fun _ _ _ => False) (AInv.own BB.size (fun W W' row h hg hr => V1.kept11 h hg hr)) (fun c s W W' row h _ _ => h)
  ⟨VT,VO,GA,BB,KeepsOthers.refl _⟩
  (fun x => { tmps := List.toArray ((.slice at_ n ct) :: .pointer (some ⟨Bt,0,none⟩) :: .slice none 0 0 :: .pointer (some ⟨Bo,0,none⟩) :: undef :: .int .i64 (nthB zs K x.1 : Int) :: undef :: (.slice at_ n ct) :: .int .i64 (n : Int) :: (.slice (some ⟨g,0,none⟩) n n) :: (.slice at_ n ct) :: .slice (some ⟨b0,0,none⟩) K cz :: .func (.func 100) #[] #[.pointer (some ⟨Bs,0,none⟩)] :: .int .i64 ((K - 1 - x.1 : Nat) : Int) :: .int .i64 (nthB zs K x.1 : Int) :: undef :: undef :: undef :: undef :: undef :: undef :: undef :: undef :: undef :: undef :: undef :: undef :: undef :: undef :: undef :: undef :: undef :: undef :: undef :: undef :: undef :: undef :: undef :: undef :: undef :: undef :: undef :: undef :: undef :: []),defers := [] }) ?assign ?body ?done ?stop
 case assign =>
  clear hK
  intro l x W Kk hKk
  unfold backV
  gi_wp2
  exact hKk
 case stop =>
  rintro D c pre W _ _ h _
  exact h.elim
 case body =>
  clear hce hcs VT VO GA BB hK
  rintro l pre ⟨k,hkK⟩ W5 ⟨VT,VO,GA,BB,hO⟩ hlt
  have rk : RK11 WL.heap.size WL W5 W5 := ⟨hO,KeepsOthers.refl _,Below.refl _ _,hO.size⟩
  have HPL : Hid (∀ x ∈ pre.map (fun x => nthB zs K x.1),x < n) := by
   intro x hx
   obtain ⟨y,_,rfl⟩ := List.mem_map.1 hx
   have hy := y.2
   have e := HK.out
   subst e
   exact HQ.out.small _ (nthB_mem zs hy)
  obtain ⟨i,hi⟩ : ∃ i,nthB zs K k = i := ⟨_,rfl⟩
  have HI : Hid (nthB zs K k = i) := hi
  have hin : i < n := by
   rw [← hi]
   have e := HK.out
   subst e
   exact HQ.out.small _ (nthB_mem zs hkK)
  dsimp only
  rw [hi]
  clear hi hO
  have HR : Hid (∀ j,j < n → qsz (runB (fSum t) (pre.map (fun x => nthB zs K x.1)) j) ≤ n * C) := HSZ.out _ HPL.out
  have HRN : Hid (qsz (fSum t (runB (fSum t) (pre.map (fun x => nthB zs K x.1))) i) ≤ n * C) := by
   have h1 := HSZ.out (pre.map (fun x => nthB zs K x.1) ++ [i]) (fun x hx => by
    rcases List.mem_append.1 hx with h | h
    ·exact HPL.out x h
    ·simp at h; omega) i hin
   rw [runB_more] at h1
   show qsz _ ≤ n * C
   simpa [stp] using h1
  generalize hqq : runB (fSum t) (pre.map (fun x => nthB zs K x.1)) = q at GA HR HRN
  have HQQ : Hid (runB (fSum t) (pre.map (fun x => nthB zs K x.1)) = q) := hqq
  clear hqq
  have g0 : (0 : Int) ≤ (i : Int) := by omega
  have g1 : (i : Int) < (n : Int) := by omega
  have ht := HTB.out.below BB
  obtain ⟨b,off,cc,p1,a1,n1,c1,b1,m1,d1,p2,a2,n2,c2,b2,m2,d2,p3,a3,n3,c3,b3,m3,d3,hvv,hcc,hc6,NN,r1,r2,r3,i1,i2,i3⟩ := (HT0.out.below BB).at hin
  cases hvv
  clear r1 i1 i2 i3
  cases hlf : (t i).leaf
  ·obtain ⟨e1,e2,k1,k2,k3,k4,_,_⟩ := HM.out.kids hin hlf
   have HFV : Hid (fSum t q i = q (kl t i) + q (kr t i)) := by show fSum t q i = _; unfold fSum; rw [if_neg (by simp [hlf])]
   rw [hlf,e1,e2] at NN
   clear hlf e1 e2 k1 k3
   generalize kl t i = x1 at *
   generalize kr t i = x2 at *
   have f0 : (0 : Int) ≤ (x1 : Int) := by omega
   have f1 : (x1 : Int) < (n : Int) := by omega
   have f2 : (0 : Int) ≤ (x2 : Int) := by omega
   have f3 : (x2 : Int) < (n : Int) := by omega
   clear r2 r3
   obtain ⟨T_0,T_1⟩ := id VT
   obtain ⟨N_0,N_1,N_2,N_3,N_4,N_5,N_6,N_7,N_8,N_9,N_10,N_11,N_12,N_13⟩ := id NN
   obtain ⟨W41,hW41,hS41,hL41,VN,FN⟩ := V14.lay W5 48 (.bool false) (.int .i64 (t i).feat) (.bool p1) (.slice a1 n1 c1) (.slice b1 m1 d1) (.int .i64 (x1 : Int)) (.int .i64 (x2 : Int)) (.bool (t i).miss) (.bool p2) (.slice a2 n2 c2) (.slice b2 m2 d2) (.bool p3) (.slice a3 n3 c3) (.slice b3 m3 d3)
   replace VT := VT.below hL41
   replace VO := VO.below hL41
   replace GA := GA.below hL41
   replace ht := ht.below hL41
   replace rk := rk.below hL41
   replace BB := BB.xm hL41
   clear hL41
   obtain ⟨V_0,V_1,V_2,V_3,V_4,V_5,V_6,V_7,V_8,V_9,V_10,V_11,V_12,V_13⟩ := id VN
   rw [hW41] at V_0 V_1 V_2 V_3 V_4 V_5 V_6 V_7 V_8 V_9 V_10 V_11 V_12 V_13
   gi_wp2_with fail
   clear V_0 V_1 V_2 V_3 V_4 V_5 V_6 V_7 V_8 V_9 V_10 V_11 V_12 V_13 N_0 N_1 N_2 N_3 N_4 N_5 N_6 N_7 N_8 N_9 N_10 N_11 N_12 N_13 FN NN T_0 T_1
   rw [← hW41]
   generalize W5.heap.size = R41 at *
   clear hW41 hS41
   obtain ⟨p5,a5,n5,c5,b5,m5,d5,e50,e51,e52,R5⟩ := GA.at k2
   obtain ⟨p7,a7,n7,c7,b7,m7,d7,e70,e71,e72,R7⟩ := GA.at k4
   have X5 : E3 W41 g (x1 * 3) _ _ _ := ⟨e50,e51,e52⟩
   have X7 : E3 W41 g (x2 * 3) _ _ _ := ⟨e70,e71,e72⟩
   clear e50 e51 e52 e70 e71 e72
   refine region_until_in (by rintro ⟨_,_,h⟩; exact h) (by kernel_rfl) 13 #[true,true,true,true,true,true,true,true,true,true,true,true,true,false,false] (fun aF lsd a' w' => ∃ vu0 vu1 vu2 vu3 vu4 vu5 vu6 vu7 vu8 vu9 vu10 vu11 vu12 : Value,a' = ((((((((((((aF.put (some 29) vu0).put (some 30) vu1).put (some 31) vu2).put (some 32) vu3).put (some 33) vu4).put (some 34) vu5).put (some 35) vu6).put (some 36) vu7).put (some 37) vu8).put (some 38) vu9).put (some 39) vu10).put (some 40) vu11).put (some 41) vu12 ∧ Below W41.heap.size W41 w' ∧ (lsd.getD 0 false = true → vu0 = .slice (some ⟨g,0,none⟩) n n) ∧ (lsd.getD 1 false = true → vu1 = .int .i64 (i : Int)) ∧ (lsd.getD 2 false = true → vu2 = .slice (some ⟨g,0,none⟩) n n) ∧ (lsd.getD 3 false = true → vu3 = .pointer (some ⟨R41,5,none⟩)) ∧ (lsd.getD 4 false = true → vu4 = .int .i64 (x1 : Int)) ∧ (lsd.getD 5 false = true → vu5 = .pointer (some ⟨g,x1 * 3,none⟩)) ∧ (lsd.getD 6 false = true → vu6 = .agg #[.bool p5,.slice a5 n5 c5,.slice b5 m5 d5]) ∧ (lsd.getD 7 false = true → vu7 = .slice (some ⟨g,0,none⟩) n n) ∧ (lsd.getD 8 false = true → vu8 = .pointer (some ⟨R41,6,none⟩)) ∧ (lsd.getD 9 false = true → vu9 = .int .i64 (x2 : Int)) ∧ (lsd.getD 10 false = true → vu10 = .pointer (some ⟨g,x2 * 3,none⟩)) ∧ (lsd.getD 11 false = true → vu11 = .agg #[.bool p7,.slice a7 n7 c7,.slice b7 m7 d7]) ∧ (lsd.getD 12 false = true → RepQ w' vu12 (q x1 + q x2))) (by kernel_rfl) (by decide) (by kernel_rfl) (by rfl) (by kernel_rfl) ?_ ?_ ?_
   ·exact ⟨_,_,_,_,_,_,_,_,_,_,_,_,_,by simp only [Act.put,xL4,xL5,xL6]; rfl,(Below.refl _ _).drew,fun h => absurd h (fun h => mark_none h),fun h => absurd h (fun h => mark_none h),fun h => absurd h (fun h => mark_none h),fun h => absurd h (fun h => mark_none h),fun h => absurd h (fun h => mark_none h),fun h => absurd h (fun h => mark_none h),fun h => absurd h (fun h => mark_none h),fun h => absurd h (fun h => mark_none h),fun h => absurd h (fun h => mark_none h),fun h => absurd h (fun h => mark_none h),fun h => absurd h (fun h => mark_none h),fun h => absurd h (fun h => mark_none h),fun h => absurd h (fun h => mark_none h)⟩
   ·rintro lsd au wn iu hszu ⟨vu0,vu1,vu2,vu3,vu4,vu5,vu6,vu7,vu8,vu9,vu10,vu11,vu12,rfl,hbu,fu0,fu1,fu2,fu3,fu4,fu5,fu6,fu7,fu8,fu9,fu10,fu11,fu12⟩ himu hru
    rcases (show iu = 0 ∨ iu = 1 ∨ iu = 2 ∨ iu = 3 ∨ iu = 4 ∨ iu = 5 ∨ iu = 6 ∨ iu = 7 ∨ iu = 8 ∨ iu = 9 ∨ iu = 10 ∨ iu = 11 ∨ iu = 12 by omega) with rfl | rfl | rfl | rfl | rfl | rfl | rfl | rfl | rfl | rfl | rfl | rfl | rfl
    ·refine wpOp_shut (by rfl) (fun K hK => ?_)
     simp only [Act.put,xL4,xL5,xL6]
     obtain ⟨VO_0,VO_1⟩ := VO.below hbu
     go_simp
     exact hK.out _ _ ⟨(.slice (some ⟨g,0,none⟩) n n),vu1,vu2,vu3,vu4,vu5,vu6,vu7,vu8,vu9,vu10,vu11,vu12,by simp only [Act.put,xL4,xL5,xL6],hbu,fun _ => rfl,fun h => fu1 (mark_of (by decide) h),fun h => fu2 (mark_of (by decide) h),fun h => fu3 (mark_of (by decide) h),fun h => fu4 (mark_of (by decide) h),fun h => fu5 (mark_of (by decide) h),fun h => fu6 (mark_of (by decide) h),fun h => fu7 (mark_of (by decide) h),fun h => fu8 (mark_of (by decide) h),fun h => fu9 (mark_of (by decide) h),fun h => fu10 (mark_of (by decide) h),fun h => fu11 (mark_of (by decide) h),fun h => fu12 (mark_of (by decide) h)⟩
    ·refine wpOp_shut (by rfl) (fun K hK => ?_)
     simp only [Act.put,xL4,xL5,xL6]
     go_simp
     exact hK.out _ _ ⟨vu0,(.int .i64 (i : Int)),vu2,vu3,vu4,vu5,vu6,vu7,vu8,vu9,vu10,vu11,vu12,by simp only [Act.put,xL4,xL5,xL6],hbu,fun h => fu0 (mark_of (by decide) h),fun _ => rfl,fun h => fu2 (mark_of (by decide) h),fun h => fu3 (mark_of (by decide) h),fun h => fu4 (mark_of (by decide) h),fun h => fu5 (mark_of (by decide) h),fun h => fu6 (mark_of (by decide) h),fun h => fu7 (mark_of (by decide) h),fun h => fu8 (mark_of (by decide) h),fun h => fu9 (mark_of (by decide) h),fun h => fu10 (mark_of (by decide) h),fun h => fu11 (mark_of (by decide) h),fun h => fu12 (mark_of (by decide) h)⟩
    ·refine wpOp_shut (by rfl) (fun K hK => ?_)
     simp only [Act.put,xL4,xL5,xL6]
     obtain ⟨VO_0,VO_1⟩ := VO.below hbu
     go_simp
     exact hK.out _ _ ⟨vu0,vu1,(.slice (some ⟨g,0,none⟩) n n),vu3,vu4,vu5,vu6,vu7,vu8,vu9,vu10,vu11,vu12,by simp only [Act.put,xL4,xL5,xL6],hbu,fun h => fu0 (mark_of (by decide) h),fun h => fu1 (mark_of (by decide) h),fun _ => rfl,fun h => fu3 (mark_of (by decide) h),fun h => fu4 (mark_of (by decide) h),fun h => fu5 (mark_of (by decide) h),fun h => fu6 (mark_of (by decide) h),fun h => fu7 (mark_of (by decide) h),fun h => fu8 (mark_of (by decide) h),fun h => fu9 (mark_of (by decide) h),fun h => fu10 (mark_of (by decide) h),fun h => fu11 (mark_of (by decide) h),fun h => fu12 (mark_of (by decide) h)⟩
    ·refine wpOp_shut (by rfl) (fun K hK => ?_)
     simp only [Act.put,xL4,xL5,xL6]
     go_simp
     exact hK.out _ _ ⟨vu0,vu1,vu2,(.pointer (some ⟨R41,5,none⟩)),vu4,vu5,vu6,vu7,vu8,vu9,vu10,vu11,vu12,by simp only [Act.put,xL4,xL5,xL6],hbu,fun h => fu0 (mark_of (by decide) h),fun h => fu1 (mark_of (by decide) h),fun h => fu2 (mark_of (by decide) h),fun _ => rfl,fun h => fu4 (mark_of (by decide) h),fun h => fu5 (mark_of (by decide) h),fun h => fu6 (mark_of (by decide) h),fun h => fu7 (mark_of (by decide) h),fun h => fu8 (mark_of (by decide) h),fun h => fu9 (mark_of (by decide) h),fun h => fu10 (mark_of (by decide) h),fun h => fu11 (mark_of (by decide) h),fun h => fu12 (mark_of (by decide) h)⟩
    ·have eu3 := fu3 (dep_of 3 hru rfl (by kernel_rfl))
     replace eu3 := eu3.symm
     subst eu3
     refine wpOp_shut (by rfl) (fun K hK => ?_)
     simp only [Act.put,xL4,xL5,xL6]
     obtain ⟨y0,y1,y2,y3,y4,y5,y6,y7,y8,y9,y10,y11,y12,y13⟩ := VN.below hbu
     go_simp
     exact hK.out _ _ ⟨vu0,vu1,vu2,(.pointer (some ⟨R41,5,none⟩)),(.int .i64 (x1 : Int)),vu5,vu6,vu7,vu8,vu9,vu10,vu11,vu12,by simp only [Act.put,xL4,xL5,xL6],hbu,fun h => fu0 (mark_of (by decide) h),fun h => fu1 (mark_of (by decide) h),fun h => fu2 (mark_of (by decide) h),fun _ => rfl,fun _ => rfl,fun h => fu5 (mark_of (by decide) h),fun h => fu6 (mark_of (by decide) h),fun h => fu7 (mark_of (by decide) h),fun h => fu8 (mark_of (by decide) h),fun h => fu9 (mark_of (by decide) h),fun h => fu10 (mark_of (by decide) h),fun h => fu11 (mark_of (by decide) h),fun h => fu12 (mark_of (by decide) h)⟩
    ·have eu2 := fu2 (dep_of 2 hru rfl (by kernel_rfl))
     have eu4 := fu4 (dep_of 4 hru rfl (by kernel_rfl))
     replace eu2 := eu2.symm
     subst eu2
     replace eu4 := eu4.symm
     subst eu4
     refine wpOp_shut (by rfl) (fun K hK => ?_)
     simp only [Act.put,xL4,xL5,xL6]
     go_simp
     exact hK.out _ _ ⟨vu0,vu1,(.slice (some ⟨g,0,none⟩) n n),vu3,(.int .i64 (x1 : Int)),(.pointer (some ⟨g,x1 * 3,none⟩)),vu6,vu7,vu8,vu9,vu10,vu11,vu12,by simp only [Act.put,xL4,xL5,xL6],hbu,fun h => fu0 (mark_of (by decide) h),fun h => fu1 (mark_of (by decide) h),fun _ => rfl,fun h => fu3 (mark_of (by decide) h),fun _ => rfl,fun _ => rfl,fun h => fu6 (mark_of (by decide) h),fun h => fu7 (mark_of (by decide) h),fun h => fu8 (mark_of (by decide) h),fun h => fu9 (mark_of (by decide) h),fun h => fu10 (mark_of (by decide) h),fun h => fu11 (mark_of (by decide) h),fun h => fu12 (mark_of (by decide) h)⟩
    ·have eu5 := fu5 (dep_of 5 hru rfl (by kernel_rfl))
     replace eu5 := eu5.symm
     subst eu5
     refine wpOp_shut (by rfl) (fun K hK => ?_)
     simp only [Act.put,xL4,xL5,xL6]
     obtain ⟨X5_0,X5_1,X5_2⟩ := X5.below hbu
     go_simp
     exact hK.out _ _ ⟨vu0,vu1,vu2,vu3,vu4,(.pointer (some ⟨g,x1 * 3,none⟩)),(.agg #[.bool p5,.slice a5 n5 c5,.slice b5 m5 d5]),vu7,vu8,vu9,vu10,vu11,vu12,by simp only [Act.put,xL4,xL5,xL6],hbu,fun h => fu0 (mark_of (by decide) h),fun h => fu1 (mark_of (by decide) h),fun h => fu2 (mark_of (by decide) h),fun h => fu3 (mark_of (by decide) h),fun h => fu4 (mark_of (by decide) h),fun _ => rfl,fun _ => rfl,fun h => fu7 (mark_of (by decide) h),fun h => fu8 (mark_of (by decide) h),fun h => fu9 (mark_of (by decide) h),fun h => fu10 (mark_of (by decide) h),fun h => fu11 (mark_of (by decide) h),fun h => fu12 (mark_of (by decide) h)⟩
    ·refine wpOp_shut (by rfl) (fun K hK => ?_)
     simp only [Act.put,xL4,xL5,xL6]
     obtain ⟨VO_0,VO_1⟩ := VO.below hbu
     go_simp
     exact hK.out _ _ ⟨vu0,vu1,vu2,vu3,vu4,vu5,vu6,(.slice (some ⟨g,0,none⟩) n n),vu8,vu9,vu10,vu11,vu12,by simp only [Act.put,xL4,xL5,xL6],hbu,fun h => fu0 (mark_of (by decide) h),fun h => fu1 (mark_of (by decide) h),fun h => fu2 (mark_of (by decide) h),fun h => fu3 (mark_of (by decide) h),fun h => fu4 (mark_of (by decide) h),fun h => fu5 (mark_of (by decide) h),fun h => fu6 (mark_of (by decide) h),fun _ => rfl,fun h => fu8 (mark_of (by decide) h),fun h => fu9 (mark_of (by decide) h),fun h => fu10 (mark_of (by decide) h),fun h => fu11 (mark_of (by decide) h),fun h => fu12 (mark_of (by decide) h)⟩
    ·refine wpOp_shut (by rfl) (fun K hK => ?_)
     simp only [Act.put,xL4,xL5,xL6]
     go_simp
     exact hK.out _ _ ⟨vu0,vu1,vu2,vu3,vu4,vu5,vu6,vu7,(.pointer (some ⟨R41,6,none⟩)),vu9,vu10,vu11,vu12,by simp only [Act.put,xL4,xL5,xL6],hbu,fun h => fu0 (mark_of (by decide) h),fun h => fu1 (mark_of (by decide) h),fun h => fu2 (mark_of (by decide) h),fun h => fu3 (mark_of (by decide) h),fun h => fu4 (mark_of (by decide) h),fun h => fu5 (mark_of (by decide) h),fun h => fu6 (mark_of (by decide) h),fun h => fu7 (mark_of (by decide) h),fun _ => rfl,fun h => fu9 (mark_of (by decide) h),fun h => fu10 (mark_of (by decide) h),fun h => fu11 (mark_of (by decide) h),fun h => fu12 (mark_of (by decide) h)⟩
    ·have eu8 := fu8 (dep_of 8 hru rfl (by kernel_rfl))
     replace eu8 := eu8.symm
     subst eu8
     refine wpOp_shut (by rfl) (fun K hK => ?_)
     simp only [Act.put,xL4,xL5,xL6]
     obtain ⟨y0,y1,y2,y3,y4,y5,y6,y7,y8,y9,y10,y11,y12,y13⟩ := VN.below hbu
     go_simp
     exact hK.out _ _ ⟨vu0,vu1,vu2,vu3,vu4,vu5,vu6,vu7,(.pointer (some ⟨R41,6,none⟩)),(.int .i64 (x2 : Int)),vu10,vu11,vu12,by simp only [Act.put,xL4,xL5,xL6],hbu,fun h => fu0 (mark_of (by decide) h),fun h => fu1 (mark_of (by decide) h),fun h => fu2 (mark_of (by decide) h),fun h => fu3 (mark_of (by decide) h),fun h => fu4 (mark_of (by decide) h),fun h => fu5 (mark_of (by decide) h),fun h => fu6 (mark_of (by decide) h),fun h => fu7 (mark_of (by decide) h),fun _ => rfl,fun _ => rfl,fun h => fu10 (mark_of (by decide) h),fun h => fu11 (mark_of (by decide) h),fun h => fu12 (mark_of (by decide) h)⟩
    ·have eu7 := fu7 (dep_of 7 hru rfl (by kernel_rfl))
     have eu9 := fu9 (dep_of 9 hru rfl (by kernel_rfl))
     replace eu7 := eu7.symm
     subst eu7
     replace eu9 := eu9.symm
     subst eu9
     refine wpOp_shut (by rfl) (fun K hK => ?_)
     simp only [Act.put,xL4,xL5,xL6]
     go_simp
     exact hK.out _ _ ⟨vu0,vu1,vu2,vu3,vu4,vu5,vu6,(.slice (some ⟨g,0,none⟩) n n),vu8,(.int .i64 (x2 : Int)),(.pointer (some ⟨g,x2 * 3,none⟩)),vu11,vu12,by simp only [Act.put,xL4,xL5,xL6],hbu,fun h => fu0 (mark_of (by decide) h),fun h => fu1 (mark_of (by decide) h),fun h => fu2 (mark_of (by decide) h),fun h => fu3 (mark_of (by decide) h),fun h => fu4 (mark_of (by decide) h),fun h => fu5 (mark_of (by decide) h),fun h => fu6 (mark_of (by decide) h),fun _ => rfl,fun h => fu8 (mark_of (by decide) h),fun _ => rfl,fun _ => rfl,fun h => fu11 (mark_of (by decide) h),fun h => fu12 (mark_of (by decide) h)⟩
    ·have eu10 := fu10 (dep_of 10 hru rfl (by kernel_rfl))
     replace eu10 := eu10.symm
     subst eu10
     refine wpOp_shut (by rfl) (fun K hK => ?_)
     simp only [Act.put,xL4,xL5,xL6]
     obtain ⟨X7_0,X7_1,X7_2⟩ := X7.below hbu
     go_simp
     exact hK.out _ _ ⟨vu0,vu1,vu2,vu3,vu4,vu5,vu6,vu7,vu8,vu9,(.pointer (some ⟨g,x2 * 3,none⟩)),(.agg #[.bool p7,.slice a7 n7 c7,.slice b7 m7 d7]),vu12,by simp only [Act.put,xL4,xL5,xL6],hbu,fun h => fu0 (mark_of (by decide) h),fun h => fu1 (mark_of (by decide) h),fun h => fu2 (mark_of (by decide) h),fun h => fu3 (mark_of (by decide) h),fun h => fu4 (mark_of (by decide) h),fun h => fu5 (mark_of (by decide) h),fun h => fu6 (mark_of (by decide) h),fun h => fu7 (mark_of (by decide) h),fun h => fu8 (mark_of (by decide) h),fun h => fu9 (mark_of (by decide) h),fun _ => rfl,fun _ => rfl,fun h => fu12 (mark_of (by decide) h)⟩
    ·have eu6 := fu6 (dep_of 6 hru rfl (by kernel_rfl))
     have eu11 := fu11 (dep_of 11 hru rfl (by kernel_rfl))
     replace eu6 := eu6.symm
     subst eu6
     replace eu11 := eu11.symm
     subst eu11
     refine wpOp_shut (by rfl) (fun K hK => ?_)
     simp only [Act.put,xL4,xL5,xL6]
     have ht := ht.below hbu
     have R5 := R5.below hbu
     have R7 := R7.below hbu
     go_simp
     refine (qadd_at _ _ (q x1) (q x2) (n * C) _ R5 R7 hNC (by omega) ht).mono ?_
     rintro eu wx ⟨x6,rfl,h6,bu⟩
     go_wp2_with fail
     have hbu2 := hbu.trans (bu.mono hbu.size)
     exact hK.out _ _ ⟨vu0,vu1,vu2,vu3,vu4,vu5,(.agg #[.bool p5,.slice a5 n5 c5,.slice b5 m5 d5]),vu7,vu8,vu9,vu10,(.agg #[.bool p7,.slice a7 n7 c7,.slice b7 m7 d7]),_,by simp only [Act.put,xL4,xL5,xL6],hbu2,fun h => fu0 (mark_of (by decide) h),fun h => fu1 (mark_of (by decide) h),fun h => fu2 (mark_of (by decide) h),fun h => fu3 (mark_of (by decide) h),fun h => fu4 (mark_of (by decide) h),fun h => fu5 (mark_of (by decide) h),fun _ => rfl,fun h => fu7 (mark_of (by decide) h),fun h => fu8 (mark_of (by decide) h),fun h => fu9 (mark_of (by decide) h),fun h => fu10 (mark_of (by decide) h),fun _ => rfl,fun _ => h6⟩
   rintro au Wu42 ⟨vu0,vu1,vu2,vu3,vu4,vu5,vu6,vu7,vu8,vu9,vu10,vu11,vu12,rfl,hbu,fu0,fu1,fu2,fu3,fu4,fu5,fu6,fu7,fu8,fu9,fu10,fu11,fu12⟩
   have eu0 := (fu0 rfl).symm
   subst eu0
   have eu1 := (fu1 rfl).symm
   subst eu1
   have eu2 := (fu2 rfl).symm
   subst eu2
   have eu3 := (fu3 rfl).symm
   subst eu3
   have eu4 := (fu4 rfl).symm
   subst eu4
   have eu5 := (fu5 rfl).symm
   subst eu5
   have eu6 := (fu6 rfl).symm
   subst eu6
   have eu7 := (fu7 rfl).symm
   subst eu7
   have eu8 := (fu8 rfl).symm
   subst eu8
   have eu9 := (fu9 rfl).symm
   subst eu9
   have eu10 := (fu10 rfl).symm
   subst eu10
   have eu11 := (fu11 rfl).symm
   subst eu11
   have h6 := fu12 rfl
   clear fu0 fu1 fu2 fu3 fu4 fu5 fu6 fu7 fu8 fu9 fu10 fu11 fu12
   have hlX5 : g < W41.heap.size := X5.lt
   have hlX7 : g < W41.heap.size := X7.lt
   replace VT := VT.below hbu
   replace VO := VO.below hbu
   replace GA := GA.below hbu
   replace ht := ht.below hbu
   replace rk := rk.below hbu
   replace VN := VN.below hbu
   replace R5 := R5.below hbu
   replace R7 := R7.below hbu
   replace X5 := X5.below hbu
   replace X7 := X7.below hbu
   replace BB := BB.xm hbu
   clear hbu
   obtain ⟨p6,a6,n6,c6,b6,m6,d6,rfl⟩ := h6.open
   rw [← HFV.out] at h6
   simp only [Act.put,xL4,xL5,xL6]
   refine xR [13] (h := ?_)
   refine AllReadyH.cons (by rfl) (fun K hK => ?_) AllReadyH.nil
   go_simp
   refine hK.out _ _ trivial (fun _ => ?_)
   clear hK K
   simp only [Act.put,xL4,xL5,xL6]
   refine xR [14] (h := ?_)
   refine AllReadyH.cons (by rfl) (fun K hK => ?_) AllReadyH.nil
   obtain ⟨⟨u0,u1,u2,s0,s1,s2,s3,s4,s5⟩,FIN⟩ := AInv.put (E := fun W => V1 W Bt (.slice (some ⟨b,off,none⟩) n ct)) (x := ⟨k,hkK⟩) (fun W W2 h e => V1.block11 e (h _ (by have := hG.out; omega))) hB VT VO (HQQ.out.symm ▸ GA) BB rk HI.out hin (by rw [HQQ.out]; exact h6.at _ HRN.out)
   go_simp
   clear s0 s1 s2 s3 s4 s5
   refine hK.out _ _ trivial (fun _ => ?_)
   clear hK K
   simp only [Act.put,xL4,xL5,xL6]
   refine wpAnyH_done (by kernel_rfl) ?_ _
   exact FIN
  ·have HFV : Hid (fSum t q i = (t i).val * (t i).cov) := by show fSum t q i = _; unfold fSum; rw [if_pos hlf]
   rw [hlf] at NN
   clear hlf
   obtain ⟨T_0,T_1⟩ := id VT
   obtain ⟨N_0,N_1,N_2,N_3,N_4,N_5,N_6,N_7,N_8,N_9,N_10,N_11,N_12,N_13⟩ := id NN
   obtain ⟨W41,hW41,hS41,hL41,VN,FN⟩ := V14.lay W5 48 (.bool true) (.int .i64 (t i).feat) (.bool p1) (.slice a1 n1 c1) (.slice b1 m1 d1) (.int .i64 (t i).left) (.int .i64 (t i).right) (.bool (t i).miss) (.bool p2) (.slice a2 n2 c2) (.slice b2 m2 d2) (.bool p3) (.slice a3 n3 c3) (.slice b3 m3 d3)
   replace VT := VT.below hL41
   replace VO := VO.below hL41
   replace GA := GA.below hL41
   replace ht := ht.below hL41
   replace rk := rk.below hL41
   replace r2 := r2.below hL41
   replace r3 := r3.below hL41
   replace BB := BB.xm hL41
   clear hL41
   obtain ⟨V_0,V_1,V_2,V_3,V_4,V_5,V_6,V_7,V_8,V_9,V_10,V_11,V_12,V_13⟩ := id VN
   rw [hW41] at V_0 V_1 V_2 V_3 V_4 V_5 V_6 V_7 V_8 V_9 V_10 V_11 V_12 V_13
   gi_wp2_with fail
   clear V_0 V_1 V_2 V_3 V_4 V_5 V_6 V_7 V_8 V_9 V_10 V_11 V_12 V_13 N_0 N_1 N_2 N_3 N_4 N_5 N_6 N_7 N_8 N_9 N_10 N_11 N_12 N_13 FN NN T_0 T_1
   rw [← hW41]
   generalize W5.heap.size = R41 at *
   clear hW41 hS41
   refine region_until_in (by rintro ⟨_,_,h⟩; exact h) (by kernel_rfl) 7 #[true,true,true,true,true,true,true,false,false] (fun aF lsd a' w' => ∃ vu0 vu1 vu2 vu3 vu4 vu5 vu6 : Value,a' = ((((((aF.put (some 21) vu0).put (some 22) vu1).put (some 23) vu2).put (some 24) vu3).put (some 25) vu4).put (some 26) vu5).put (some 27) vu6 ∧ Below W41.heap.size W41 w' ∧ (lsd.getD 0 false = true → vu0 = .slice (some ⟨g,0,none⟩) n n) ∧ (lsd.getD 1 false = true → vu1 = .int .i64 (i : Int)) ∧ (lsd.getD 2 false = true → vu2 = .pointer (some ⟨R41,8,none⟩)) ∧ (lsd.getD 3 false = true → vu3 = .agg #[.bool p2,.slice a2 n2 c2,.slice b2 m2 d2]) ∧ (lsd.getD 4 false = true → vu4 = .pointer (some ⟨R41,11,none⟩)) ∧ (lsd.getD 5 false = true → vu5 = .agg #[.bool p3,.slice a3 n3 c3,.slice b3 m3 d3]) ∧ (lsd.getD 6 false = true → RepQ w' vu6 ((t i).val * (t i).cov))) (by kernel_rfl) (by decide) (by kernel_rfl) (by rfl) (by kernel_rfl) ?_ ?_ ?_
   ·exact ⟨_,_,_,_,_,_,_,by simp only [Act.put,xL4,xL5,xL6]; rfl,(Below.refl _ _).drew,fun h => absurd h (fun h => mark_none h),fun h => absurd h (fun h => mark_none h),fun h => absurd h (fun h => mark_none h),fun h => absurd h (fun h => mark_none h),fun h => absurd h (fun h => mark_none h),fun h => absurd h (fun h => mark_none h),fun h => absurd h (fun h => mark_none h)⟩
   ·rintro lsd au wn iu hszu ⟨vu0,vu1,vu2,vu3,vu4,vu5,vu6,rfl,hbu,fu0,fu1,fu2,fu3,fu4,fu5,fu6⟩ himu hru
    rcases (show iu = 0 ∨ iu = 1 ∨ iu = 2 ∨ iu = 3 ∨ iu = 4 ∨ iu = 5 ∨ iu = 6 by omega) with rfl | rfl | rfl | rfl | rfl | rfl | rfl
    ·refine wpOp_shut (by rfl) (fun K hK => ?_)
     simp only [Act.put,xL4,xL5,xL6]
     obtain ⟨VO_0,VO_1⟩ := VO.below hbu
     go_simp
     exact hK.out _ _ ⟨(.slice (some ⟨g,0,none⟩) n n),vu1,vu2,vu3,vu4,vu5,vu6,by simp only [Act.put,xL4,xL5,xL6],hbu,fun _ => rfl,fun h => fu1 (mark_of (by decide) h),fun h => fu2 (mark_of (by decide) h),fun h => fu3 (mark_of (by decide) h),fun h => fu4 (mark_of (by decide) h),fun h => fu5 (mark_of (by decide) h),fun h => fu6 (mark_of (by decide) h)⟩
    ·refine wpOp_shut (by rfl) (fun K hK => ?_)
     simp only [Act.put,xL4,xL5,xL6]
     go_simp
     exact hK.out _ _ ⟨vu0,(.int .i64 (i : Int)),vu2,vu3,vu4,vu5,vu6,by simp only [Act.put,xL4,xL5,xL6],hbu,fun h => fu0 (mark_of (by decide) h),fun _ => rfl,fun h => fu2 (mark_of (by decide) h),fun h => fu3 (mark_of (by decide) h),fun h => fu4 (mark_of (by decide) h),fun h => fu5 (mark_of (by decide) h),fun h => fu6 (mark_of (by decide) h)⟩
    ·refine wpOp_shut (by rfl) (fun K hK => ?_)
     simp only [Act.put,xL4,xL5,xL6]
     go_simp
     exact hK.out _ _ ⟨vu0,vu1,(.pointer (some ⟨R41,8,none⟩)),vu3,vu4,vu5,vu6,by simp only [Act.put,xL4,xL5,xL6],hbu,fun h => fu0 (mark_of (by decide) h),fun h => fu1 (mark_of (by decide) h),fun _ => rfl,fun h => fu3 (mark_of (by decide) h),fun h => fu4 (mark_of (by decide) h),fun h => fu5 (mark_of (by decide) h),fun h => fu6 (mark_of (by decide) h)⟩
    ·have eu2 := fu2 (dep_of 2 hru rfl (by kernel_rfl))
     replace eu2 := eu2.symm
     subst eu2
     refine wpOp_shut (by rfl) (fun K hK => ?_)
     simp only [Act.put,xL4,xL5,xL6]
     obtain ⟨y0,y1,y2,y3,y4,y5,y6,y7,y8,y9,y10,y11,y12,y13⟩ := VN.below hbu
     go_simp
     exact hK.out _ _ ⟨vu0,vu1,(.pointer (some ⟨R41,8,none⟩)),(.agg #[.bool p2,.slice a2 n2 c2,.slice b2 m2 d2]),vu4,vu5,vu6,by simp only [Act.put,xL4,xL5,xL6],hbu,fun h => fu0 (mark_of (by decide) h),fun h => fu1 (mark_of (by decide) h),fun _ => rfl,fun _ => rfl,fun h => fu4 (mark_of (by decide) h),fun h => fu5 (mark_of (by decide) h),fun h => fu6 (mark_of (by decide) h)⟩
    ·refine wpOp_shut (by rfl) (fun K hK => ?_)
     simp only [Act.put,xL4,xL5,xL6]
     go_simp
     exact hK.out _ _ ⟨vu0,vu1,vu2,vu3,(.pointer (some ⟨R41,11,none⟩)),vu5,vu6,by simp only [Act.put,xL4,xL5,xL6],hbu,fun h => fu0 (mark_of (by decide) h),fun h => fu1 (mark_of (by decide) h),fun h => fu2 (mark_of (by decide) h),fun h => fu3 (mark_of (by decide) h),fun _ => rfl,fun h => fu5 (mark_of (by decide) h),fun h => fu6 (mark_of (by decide) h)⟩
    ·have eu4 := fu4 (dep_of 4 hru rfl (by kernel_rfl))
     replace eu4 := eu4.symm
     subst eu4
     refine wpOp_shut (by rfl) (fun K hK => ?_)
     simp only [Act.put,xL4,xL5,xL6]
     obtain ⟨y0,y1,y2,y3,y4,y5,y6,y7,y8,y9,y10,y11,y12,y13⟩ := VN.below hbu
     go_simp
     exact hK.out _ _ ⟨vu0,vu1,vu2,vu3,(.pointer (some ⟨R41,11,none⟩)),(.agg #[.bool p3,.slice a3 n3 c3,.slice b3 m3 d3]),vu6,by simp only [Act.put,xL4,xL5,xL6],hbu,fun h => fu0 (mark_of (by decide) h),fun h => fu1 (mark_of (by decide) h),fun h => fu2 (mark_of (by decide) h),fun h => fu3 (mark_of (by decide) h),fun _ => rfl,fun _ => rfl,fun h => fu6 (mark_of (by decide) h)⟩
    ·have eu3 := fu3 (dep_of 3 hru rfl (by kernel_rfl))
     have eu5 := fu5 (dep_of 5 hru rfl (by kernel_rfl))
     replace eu3 := eu3.symm
     subst eu3
     replace eu5 := eu5.symm
     subst eu5
     refine wpOp_shut (by rfl) (fun K hK => ?_)
     simp only [Act.put,xL4,xL5,xL6]
     have ht := ht.below hbu
     have r2 := r2.below hbu
     have r3 := r3.below hbu
     go_simp
     refine (qmul_at _ _ (t i).val (t i).cov L _ r2 r3 hL (by omega) ht).mono ?_
     rintro eu wx ⟨x6,rfl,h6,bu⟩
     go_wp2_with fail
     have hbu2 := hbu.trans (bu.mono hbu.size)
     exact hK.out _ _ ⟨vu0,vu1,vu2,(.agg #[.bool p2,.slice a2 n2 c2,.slice b2 m2 d2]),vu4,(.agg #[.bool p3,.slice a3 n3 c3,.slice b3 m3 d3]),_,by simp only [Act.put,xL4,xL5,xL6],hbu2,fun h => fu0 (mark_of (by decide) h),fun h => fu1 (mark_of (by decide) h),fun h => fu2 (mark_of (by decide) h),fun _ => rfl,fun h => fu4 (mark_of (by decide) h),fun _ => rfl,fun _ => h6⟩
   rintro au Wu42 ⟨vu0,vu1,vu2,vu3,vu4,vu5,vu6,rfl,hbu,fu0,fu1,fu2,fu3,fu4,fu5,fu6⟩
   have eu0 := (fu0 rfl).symm
   subst eu0
   have eu1 := (fu1 rfl).symm
   subst eu1
   have eu2 := (fu2 rfl).symm
   subst eu2
   have eu3 := (fu3 rfl).symm
   subst eu3
   have eu4 := (fu4 rfl).symm
   subst eu4
   have eu5 := (fu5 rfl).symm
   subst eu5
   have h6 := fu6 rfl
   clear fu0 fu1 fu2 fu3 fu4 fu5 fu6
   replace VT := VT.below hbu
   replace VO := VO.below hbu
   replace GA := GA.below hbu
   replace ht := ht.below hbu
   replace rk := rk.below hbu
   replace r2 := r2.below hbu
   replace r3 := r3.below hbu
   replace VN := VN.below hbu
   replace BB := BB.xm hbu
   clear hbu
   obtain ⟨p6,a6,n6,c6,b6,m6,d6,rfl⟩ := h6.open
   rw [← HFV.out] at h6
   simp only [Act.put,xL4,xL5,xL6]
   refine xR [7] (h := ?_)
   refine AllReadyH.cons (by rfl) (fun K hK => ?_) AllReadyH.nil
   go_simp
   refine hK.out _ _ trivial (fun _ => ?_)
   clear hK K
   simp only [Act.put,xL4,xL5,xL6]
   refine xR [8] (h := ?_)
   refine AllReadyH.cons (by rfl) (fun K hK => ?_) AllReadyH.nil
   obtain ⟨⟨u0,u1,u2,s0,s1,s2,s3,s4,s5⟩,FIN⟩ := AInv.put (E := fun W => V1 W Bt (.slice (some ⟨b,off,none⟩) n ct)) (x := ⟨k,hkK⟩) (fun W W2 h e => V1.block11 e (h _ (by have := hG.out; omega))) hB VT VO (HQQ.out.symm ▸ GA) BB rk HI.out hin (by rw [HQQ.out]; exact h6.at _ HRN.out)
   go_simp
   clear s0 s1 s2 s3 s4 s5
   refine hK.out _ _ trivial (fun _ => ?_)
   clear hK K
   simp only [Act.put,xL4,xL5,xL6]
   refine wpAnyH_done (by kernel_rfl) ?_ _
   exact FIN
 case done =>
  rintro D ys W5 hD rfl ⟨VT,VO,GA,BB,hO⟩ hKD
  clear hce hcs
  have hMk : Marks w.heap.size W5 [{ target := .collected D,args := #[] }] := ⟨D,rfl,Nat.le_trans HWL.out hD,hKD,by simp,trivial⟩
  have e9 : (finsB K K).map (fun x => nthB zs K x.1) = zs.reverse := by
   have e := HK.out
   subst e
   exact finsB_all zs
  rw [e9] at GA
  replace GA := GA.congr (q' := ws t n) (fun i hi => HM.out.run_sum HQ.out hi)
  clear e9 hKD hO hK
  obtain ⟨VO1,VO2⟩ := id VO
  gi_wp2_with fail
  refine leaves_marksF (B := w.heap.size) _ _ hMk BB.size ?_
  intro W' hb hcl
  refine ⟨.slice (some ⟨g,0,none⟩) n n,by simp [results,go_sem],g,rfl,hB.out.2.2.2.2.2,GA.left hcl,BB.trans hb⟩
end Go.Proofs.YtbbliiafkjipbaaGreatDoor

namespace Go.Proofs.YtbbliiafkjipbaaGreatDoor
open Go.RowKit
set_option linter.unusedVariables false
set_option linter.unusedSimpArgs false
def mean0 (T : Nat → Nat → Nd) (N : Nat → Nat) (i : Nat) : Rat := ws (T i) (N i) 0 / (T i 0).cov
theorem VArr.full {w : World} {g k : Nat} {q : Nat → Rat} {L : Nat} (h : VArr w g k k q) (hk : k ≤ 100000) (hq : ∀ i,i < k → qsz (q i) ≤ L) : QRow w (.slice (some ⟨g,0,none⟩) k k) k q L :=
 let ⟨el,a,b⟩ := h; ⟨el,a.row k k (Nat.le_refl _) (Nat.le_refl _) (by omega),fun j hj => (b j hj).at _ (hq j hj)⟩
def SumV (w : World) (v : Value) (n : Nat) (q : Nat → Rat) (L : Nat) : Prop := ∃ g,v = .slice (some ⟨g,0,none⟩) n n ∧ GArr w g n q L
def PtrV (w : World) (v : Value) (n : Nat) (q : Nat → Rat) (L : Nat) : Prop := ∃ g,v = .pointer (some ⟨g,0,none⟩) ∧ GArr w g n q L
theorem SumV.below {w w' : World} {v : Value} {n : Nat} {q : Nat → Rat} {L : Nat} (h : SumV w v n q L) (hb : Below w.heap.size w w') : SumV w' v n q L := let ⟨g,e,G⟩ := h; ⟨g,e,G.below hb⟩
theorem PtrV.below {w w' : World} {v : Value} {n : Nat} {q : Nat → Rat} {L : Nat} (h : PtrV w v n q L) (hb : Below w.heap.size w w') : PtrV w' v n q L := let ⟨g,e,G⟩ := h; ⟨g,e,G.below hb⟩
theorem ws_sz {F : Int} {t : Nat → Nd} {n L C : Nat} (hm : MayT F t n) (hz : ∀ i,i < n → qsz (t i).val ≤ L ∧ qsz (t i).cov ≤ L) (hC : 2 * L + 2 ≤ C) {M : Nat} (hM : n * C ≤ M) : ∀ {x : Nat},x < n → qsz (ws t n x) ≤ M := by
 intro x hx
 refine Nat.le_trans ?_ (Nat.le_trans (hm.bnd_le C hx) hM)
 refine hm.by_tree (P := fun x => qsz (ws t n x) ≤ bnd t n C x) (fun x hx hl => ?_) (fun x hx hl a b => ?_) hx
 ·rw [ws_leaf hl]
  have h1 := qsz_mul _ _ (hz x hx).1 (hz x hx).2
  have h2 := bnd_pos (t := t) (n := n) (C := C) (by omega) x
  omega
 ·rw [hm.ws_split hx hl]
  have h1 := qsz_add _ _ a b
  have h2 := hm.bnd_split C hx hl
  omega
set_option maxRecDepth 100000 in
set_option maxHeartbeats 16000000 in
theorem base_yes (F : Int) (vm : Value) (k : Nat) (N : Nat → Nat) (T : Nat → Nat → Nd) (L C : Nat) (w : World) (hM : MRow w vm k N T L) (ht : Tab w) (hL : 1 ≤ L) (hC : 2 * L + 2 ≤ C) (hCn : 255 * C ≤ 10000) (hw : mayB F k N T = true) (hk : k ≤ 6) :
  Calls Tryz.prog 31 #[.agg #[.int .i64 F,vm]] w fun e w' => ∃ x,e = .returned (.tuple #[x,.int .i64 0]) ∧ RepQ w' x (sumq (mean0 T N) k) ∧ Below w.heap.size w w' := by
 obtain ⟨ao,c,rfl,hnc,hc63⟩ := hM.open
 obtain ⟨i0,hi,hz0,hz1,hz2⟩ := info_parts info_wrat
 obtain ⟨W0,hW0,hS0,hL0,VM⟩ := V2.lay w 27 (.int .i64 F) (.slice ao k c)
 have BB : Below w.heap.size w W0 := hL0
 obtain ⟨W1,hW1,hS1,hL1,VR⟩ := V3.lay W0 42 (.bool false) (.slice none 0 0) (.slice none 0 0)
 rw [hS0] at VR
 replace VM := VM.below hL1
 replace BB := BB.xm hL1
 clear hL0 hL1
 have HM0 : Hid (MRow w (.slice ao k c) k N T L) := hM
 have HT0 : Hid (Tab w) := ht
 clear hM ht
 go_enter Tryz.func31,Tryz.ntmps31
 obtain ⟨VM_0,VM_1,VM_2,VM_3⟩ := id VM
 rw [hW1,hW0] at VM_0 VM_1 VM_2 VM_3
 go_wp2_with fail
 clear VM_0 VM_1 VM_2 VM_3
 rw [← hW0,← hW1]
 clear hW0 hW1 hS0 hS1
 refine (ok_may F _ k N T L _ (HM0.out.below BB) (HT0.out.below BB) hL (by omega)).mono ?_
 rintro e w1 ⟨rfl,b1⟩
 replace VM := VM.below b1
 replace VR := VR.below b1
 replace BB := BB.xm b1
 clear b1
 obtain ⟨_,_,_,hmy⟩ := mayB_may hw
 have HMY : Hid (∀ i,i < k → MayT F (T i) (N i)) := hmy
 have hF64 : F ≤ 64 := (mayB_may hw).2.1
 rw [hw]
 clear hmy hw
 obtain ⟨VM_0,VM_1,VM_2,VM_3⟩ := id VM
 go_wp2_with (at_make; refine wpList_make_full _ rfl _ _ 68 rfl _ 42 i0 (.agg #[.bool false,.slice none 0 0,.slice none 0 0]) 3 Tryz.underlying68 hi hz0 hz1 _ _ _ _ k rfl rfl (by omega) (by omega) (by rw [hz2]; omega) (by unfold maxLen; omega) (Nat.le_refl _) ?_; intro w2 hown hgrow; have hb1 := below_grown hgrow; have A1 := arr3_made hown; have BB1 := BB.trans (hb1.mono BB.size); have VM1 := VM.below hb1; obtain ⟨q1,q2,q3,q4⟩ := id VM1; clear VM_0 VM_1 VM_2 VM_3)
 have VA : VArr w2 w1.heap.size k 0 (mean0 T N) := ⟨_,A1,fun j hj => absurd hj (Nat.not_lt_zero _)⟩
 have hGB : w.heap.size ≤ w1.heap.size := BB.size
 have hGR : w.heap.size + 1 ≠ w1.heap.size := Nat.ne_of_lt VR.lt
 replace VR := VR.below hb1
 clear q1 q2 q3 q4 hown hgrow hb1 A1 VM VM1 BB hi hz0 hz1 hz2
 generalize w1.heap.size = G at *
 go_loopw [18] (fun vi wr => ∃ i : Nat,i ≤ k ∧ vi = .int .i64 (i : Int) ∧ VArr wr G k i (mean0 T N) ∧ V3 wr (w.heap.size + 1) (.bool false) (.slice none 0 0) (.slice none 0 0) ∧ Below w.heap.size w wr) (fun vi _ => k - (intOf vi).toNat)
 case atStart => exact ⟨0,by omega,rfl,VA,VR,BB1⟩
 case round =>
  clear VA BB1 VR
  obtain ⟨i,hi,rfl,VA,VR,BB⟩ := hrel
  by_cases hlt : i < k
  ·have g1 : (i : Int) < (k : Int) := by omega
   have g0 : (0 : Int) ≤ (i : Int) := by omega
   obtain ⟨b,off,cc,a,d,hvv,hcc,XC0,TR0⟩ := HM0.out.at hlt
   cases hvv
   have XC : wr.cell? ⟨b,off + i,none⟩ = some (.slice a (N i) d) := (BB.cell (p := ⟨b,off + i,none⟩) (World.block_lt_of_cell? _ _ XC0)).trans XC0
   have HMT : Hid (MayT F (T i) (N i)) := HMY.out i hlt
   have HTR : Hid (TRow w (.slice a (N i) d) (N i) (T i) L) := TR0
   have HMV : Hid (mean0 T N i = ws (T i) (N i) 0 / (T i 0).cov) := rfl
   have hn0 : 0 < N i := HMT.out.pos
   have hn255 : N i ≤ 255 := HMT.out.few
   generalize N i = n at *
   generalize T i = t at *
   have hnC : n * C ≤ 10000 := Nat.le_trans (Nat.mul_le_mul_right C hn255) hCn
   have hNC : 1 ≤ n * C := Nat.le_trans (by omega) (Nat.mul_le_mul hn0 hC)
   have hLC : L ≤ n * C := Nat.le_trans (by omega) (Nat.mul_le_mul hn0 hC)
   have hcn : (t 0).cov ≠ 0 := fun e => by have := HMT.out.cov 0 hn0; rw [e] at this; exact absurd this (by decide)
   clear XC0 TR0
   go_wp2
   clear XC
   obtain ⟨b9,off9,cc9,p1,a1,n1,c1,b1,m1,d1,p2,a2,n2,c2,b2,m2,d2,p3,a3,n3,c3,b3,m3,d3,hvv,hcc9,hc6,NN,r1,r2,rc,i1,i2,i3⟩ := (HTR.out.below BB).at hn0
   cases hvv
   have X0 : E3 wr b9 (off9 + 11) (.bool p3) (.slice a3 n3 c3) (.slice b3 m3 d3) := by simpa using (show E3 wr b9 (off9 + 0 * 14 + 11) _ _ _ from ⟨NN.c11,NN.c12,NN.c13⟩)
   have f1 : (0 : Int) < (n : Int) := by omega
   have ht := HT0.out.below BB
   clear NN r1 r2 i1 i2 i3
   refine wp_region_until 11 #[true,true,true,true,true,true,true,true,true,true,true,false,false] (fun aF lsd a' w' => ∃ vu0 vu1 vu2 vu3 vu4 vu5 vu6 vu7 vu8 vu9 vu10 : Value,a' = ((((((((((aF.put (some 23) vu0).put (some 24) vu1).put (some 25) vu2).put (some 26) vu3).put (some 27) vu4).put (some 28) vu5).put (some 29) vu6).put (some 30) vu7).put (some 31) vu8).put (some 32) vu9).put (some 33) vu10 ∧ Below wr.heap.size wr w' ∧ (lsd.getD 0 false = true → vu0 = .slice (some ⟨G,0,none⟩) k k) ∧ (lsd.getD 1 false = true → vu1 = .int .i64 (i : Int)) ∧ (lsd.getD 2 false = true → vu2 = .slice (some ⟨b9,off9,none⟩) n d) ∧ (lsd.getD 3 false = true → SumV w' vu3 n (ws t n) (n * C)) ∧ (lsd.getD 4 false = true → PtrV w' vu4 n (ws t n) (n * C)) ∧ (lsd.getD 5 false = true → RatAt w' vu5 (ws t n 0) (n * C)) ∧ (lsd.getD 6 false = true → vu6 = .slice (some ⟨b9,off9,none⟩) n d) ∧ (lsd.getD 7 false = true → vu7 = .pointer (some ⟨b9,off9,none⟩)) ∧ (lsd.getD 8 false = true → vu8 = .pointer (some ⟨b9,off9 + 11,none⟩)) ∧ (lsd.getD 9 false = true → vu9 = .agg #[.bool p3,.slice a3 n3 c3,.slice b3 m3 d3]) ∧ (lsd.getD 10 false = true → RepQ w' vu10 (ws t n 0 / (t 0).cov))) (by kernel_rfl) (by decide) (by kernel_rfl) (by rfl) (by kernel_rfl) ?_ ?_ ?_
   ·exact ⟨_,_,_,_,_,_,_,_,_,_,_,by simp only [Act.put,xL4,xL5,xL6]; rfl,(Below.refl _ _).drew,fun h => absurd h (fun h => mark_none h),fun h => absurd h (fun h => mark_none h),fun h => absurd h (fun h => mark_none h),fun h => absurd h (fun h => mark_none h),fun h => absurd h (fun h => mark_none h),fun h => absurd h (fun h => mark_none h),fun h => absurd h (fun h => mark_none h),fun h => absurd h (fun h => mark_none h),fun h => absurd h (fun h => mark_none h),fun h => absurd h (fun h => mark_none h),fun h => absurd h (fun h => mark_none h)⟩
   ·rintro lsd au wn iu hszu ⟨vu0,vu1,vu2,vu3,vu4,vu5,vu6,vu7,vu8,vu9,vu10,rfl,hbu,fu0,fu1,fu2,fu3,fu4,fu5,fu6,fu7,fu8,fu9,fu10⟩ himu hru
    rcases (show iu = 0 ∨ iu = 1 ∨ iu = 2 ∨ iu = 3 ∨ iu = 4 ∨ iu = 5 ∨ iu = 6 ∨ iu = 7 ∨ iu = 8 ∨ iu = 9 ∨ iu = 10 by omega) with rfl | rfl | rfl | rfl | rfl | rfl | rfl | rfl | rfl | rfl | rfl
    ·refine wpOp_shut (by rfl) (fun K hK => ?_)
     simp only [Act.put,xL4,xL5,xL6]
     go_simp
     exact hK.out _ _ ⟨(.slice (some ⟨G,0,none⟩) k k),vu1,vu2,vu3,vu4,vu5,vu6,vu7,vu8,vu9,vu10,by simp only [Act.put,xL4,xL5,xL6],hbu,fun _ => rfl,fun h => fu1 (mark_of (by decide) h),fun h => fu2 (mark_of (by decide) h),fun h => fu3 (mark_of (by decide) h),fun h => fu4 (mark_of (by decide) h),fun h => fu5 (mark_of (by decide) h),fun h => fu6 (mark_of (by decide) h),fun h => fu7 (mark_of (by decide) h),fun h => fu8 (mark_of (by decide) h),fun h => fu9 (mark_of (by decide) h),fun h => fu10 (mark_of (by decide) h)⟩
    ·refine wpOp_shut (by rfl) (fun K hK => ?_)
     simp only [Act.put,xL4,xL5,xL6]
     go_simp
     exact hK.out _ _ ⟨vu0,(.int .i64 (i : Int)),vu2,vu3,vu4,vu5,vu6,vu7,vu8,vu9,vu10,by simp only [Act.put,xL4,xL5,xL6],hbu,fun h => fu0 (mark_of (by decide) h),fun _ => rfl,fun h => fu2 (mark_of (by decide) h),fun h => fu3 (mark_of (by decide) h),fun h => fu4 (mark_of (by decide) h),fun h => fu5 (mark_of (by decide) h),fun h => fu6 (mark_of (by decide) h),fun h => fu7 (mark_of (by decide) h),fun h => fu8 (mark_of (by decide) h),fun h => fu9 (mark_of (by decide) h),fun h => fu10 (mark_of (by decide) h)⟩
    ·refine wpOp_shut (by rfl) (fun K hK => ?_)
     simp only [Act.put,xL4,xL5,xL6]
     go_simp
     exact hK.out _ _ ⟨vu0,vu1,(.slice (some ⟨b9,off9,none⟩) n d),vu3,vu4,vu5,vu6,vu7,vu8,vu9,vu10,by simp only [Act.put,xL4,xL5,xL6],hbu,fun h => fu0 (mark_of (by decide) h),fun h => fu1 (mark_of (by decide) h),fun _ => rfl,fun h => fu3 (mark_of (by decide) h),fun h => fu4 (mark_of (by decide) h),fun h => fu5 (mark_of (by decide) h),fun h => fu6 (mark_of (by decide) h),fun h => fu7 (mark_of (by decide) h),fun h => fu8 (mark_of (by decide) h),fun h => fu9 (mark_of (by decide) h),fun h => fu10 (mark_of (by decide) h)⟩
    ·have eu2 := fu2 (dep_of 2 hru rfl (by kernel_rfl))
     replace eu2 := eu2.symm
     subst eu2
     refine wpOp_shut (by rfl) (fun K hK => ?_)
     simp only [Act.put,xL4,xL5,xL6]
     have ht := ht.below hbu
     go_simp
     refine (sums_at F _ n t L C _ ((HTR.out.below BB).below hbu) HMT.out hF64 ht hL hC (by omega)).mono ?_
     rintro eu wx ⟨g5,rfl,hg5,G5,bu⟩
     have S3 : SumV wx _ n (ws t n) (n * C) := ⟨g5,rfl,G5⟩
     go_wp2_with fail
     have hbu2 := hbu.trans (bu.mono hbu.size)
     exact hK.out _ _ ⟨vu0,vu1,(.slice (some ⟨b9,off9,none⟩) n d),_,vu4,vu5,vu6,vu7,vu8,vu9,vu10,by simp only [Act.put,xL4,xL5,xL6],hbu2,fun h => fu0 (mark_of (by decide) h),fun h => fu1 (mark_of (by decide) h),fun _ => rfl,fun _ => S3,fun h => (fu4 (mark_of (by decide) h)).below bu,fun h => (fu5 (mark_of (by decide) h)).below bu,fun h => fu6 (mark_of (by decide) h),fun h => fu7 (mark_of (by decide) h),fun h => fu8 (mark_of (by decide) h),fun h => fu9 (mark_of (by decide) h),fun h => (fu10 (mark_of (by decide) h)).below bu⟩
    ·have S3 := fu3 (dep_of 3 hru rfl (by kernel_rfl))
     obtain ⟨g5,rfl,G5⟩ := S3
     refine wpOp_shut (by rfl) (fun K hK => ?_)
     simp only [Act.put,xL4,xL5,xL6]
     go_simp
     exact hK.out _ _ ⟨vu0,vu1,vu2,(.slice (some ⟨g5,0,none⟩) n n),(.pointer (some ⟨g5,0,none⟩)),vu5,vu6,vu7,vu8,vu9,vu10,by simp only [Act.put,xL4,xL5,xL6],hbu,fun h => fu0 (mark_of (by decide) h),fun h => fu1 (mark_of (by decide) h),fun h => fu2 (mark_of (by decide) h),fun h => fu3 (mark_of (by decide) h),fun _ => ⟨g5,rfl,G5⟩,fun h => fu5 (mark_of (by decide) h),fun h => fu6 (mark_of (by decide) h),fun h => fu7 (mark_of (by decide) h),fun h => fu8 (mark_of (by decide) h),fun h => fu9 (mark_of (by decide) h),fun h => fu10 (mark_of (by decide) h)⟩
    ·have P4 := fu4 (dep_of 4 hru rfl (by kernel_rfl))
     obtain ⟨g5,rfl,G5⟩ := P4
     obtain ⟨p5,a5,n5,c5,b5,m5,d5,e50,e51,e52,R5⟩ := G5.at hn0
     simp only [Nat.zero_mul,Nat.zero_add] at e50 e51 e52
     refine wpOp_shut (by rfl) (fun K hK => ?_)
     simp only [Act.put,xL4,xL5,xL6]
     go_simp
     exact hK.out _ _ ⟨vu0,vu1,vu2,vu3,(.pointer (some ⟨g5,0,none⟩)),(.agg #[.bool p5,.slice a5 n5 c5,.slice b5 m5 d5]),vu6,vu7,vu8,vu9,vu10,by simp only [Act.put,xL4,xL5,xL6],hbu,fun h => fu0 (mark_of (by decide) h),fun h => fu1 (mark_of (by decide) h),fun h => fu2 (mark_of (by decide) h),fun h => fu3 (mark_of (by decide) h),fun h => fu4 (mark_of (by decide) h),fun _ => R5,fun h => fu6 (mark_of (by decide) h),fun h => fu7 (mark_of (by decide) h),fun h => fu8 (mark_of (by decide) h),fun h => fu9 (mark_of (by decide) h),fun h => fu10 (mark_of (by decide) h)⟩
    ·refine wpOp_shut (by rfl) (fun K hK => ?_)
     simp only [Act.put,xL4,xL5,xL6]
     go_simp
     exact hK.out _ _ ⟨vu0,vu1,vu2,vu3,vu4,vu5,(.slice (some ⟨b9,off9,none⟩) n d),vu7,vu8,vu9,vu10,by simp only [Act.put,xL4,xL5,xL6],hbu,fun h => fu0 (mark_of (by decide) h),fun h => fu1 (mark_of (by decide) h),fun h => fu2 (mark_of (by decide) h),fun h => fu3 (mark_of (by decide) h),fun h => fu4 (mark_of (by decide) h),fun h => fu5 (mark_of (by decide) h),fun _ => rfl,fun h => fu7 (mark_of (by decide) h),fun h => fu8 (mark_of (by decide) h),fun h => fu9 (mark_of (by decide) h),fun h => fu10 (mark_of (by decide) h)⟩
    ·have eu6 := fu6 (dep_of 6 hru rfl (by kernel_rfl))
     replace eu6 := eu6.symm
     subst eu6
     refine wpOp_shut (by rfl) (fun K hK => ?_)
     simp only [Act.put,xL4,xL5,xL6]
     go_simp
     exact hK.out _ _ ⟨vu0,vu1,vu2,vu3,vu4,vu5,(.slice (some ⟨b9,off9,none⟩) n d),(.pointer (some ⟨b9,off9,none⟩)),vu8,vu9,vu10,by simp only [Act.put,xL4,xL5,xL6],hbu,fun h => fu0 (mark_of (by decide) h),fun h => fu1 (mark_of (by decide) h),fun h => fu2 (mark_of (by decide) h),fun h => fu3 (mark_of (by decide) h),fun h => fu4 (mark_of (by decide) h),fun h => fu5 (mark_of (by decide) h),fun _ => rfl,fun _ => rfl,fun h => fu8 (mark_of (by decide) h),fun h => fu9 (mark_of (by decide) h),fun h => fu10 (mark_of (by decide) h)⟩
    ·have eu7 := fu7 (dep_of 7 hru rfl (by kernel_rfl))
     replace eu7 := eu7.symm
     subst eu7
     refine wpOp_shut (by rfl) (fun K hK => ?_)
     simp only [Act.put,xL4,xL5,xL6]
     go_simp
     exact hK.out _ _ ⟨vu0,vu1,vu2,vu3,vu4,vu5,vu6,(.pointer (some ⟨b9,off9,none⟩)),(.pointer (some ⟨b9,off9 + 11,none⟩)),vu9,vu10,by simp only [Act.put,xL4,xL5,xL6],hbu,fun h => fu0 (mark_of (by decide) h),fun h => fu1 (mark_of (by decide) h),fun h => fu2 (mark_of (by decide) h),fun h => fu3 (mark_of (by decide) h),fun h => fu4 (mark_of (by decide) h),fun h => fu5 (mark_of (by decide) h),fun h => fu6 (mark_of (by decide) h),fun _ => rfl,fun _ => rfl,fun h => fu9 (mark_of (by decide) h),fun h => fu10 (mark_of (by decide) h)⟩
    ·have eu8 := fu8 (dep_of 8 hru rfl (by kernel_rfl))
     replace eu8 := eu8.symm
     subst eu8
     refine wpOp_shut (by rfl) (fun K hK => ?_)
     simp only [Act.put,xL4,xL5,xL6]
     obtain ⟨X0_0,X0_1,X0_2⟩ := X0.below hbu
     go_simp
     exact hK.out _ _ ⟨vu0,vu1,vu2,vu3,vu4,vu5,vu6,vu7,(.pointer (some ⟨b9,off9 + 11,none⟩)),(.agg #[.bool p3,.slice a3 n3 c3,.slice b3 m3 d3]),vu10,by simp only [Act.put,xL4,xL5,xL6],hbu,fun h => fu0 (mark_of (by decide) h),fun h => fu1 (mark_of (by decide) h),fun h => fu2 (mark_of (by decide) h),fun h => fu3 (mark_of (by decide) h),fun h => fu4 (mark_of (by decide) h),fun h => fu5 (mark_of (by decide) h),fun h => fu6 (mark_of (by decide) h),fun h => fu7 (mark_of (by decide) h),fun _ => rfl,fun _ => rfl,fun h => fu10 (mark_of (by decide) h)⟩
    ·have eu9 := fu9 (dep_of 9 hru rfl (by kernel_rfl))
     replace eu9 := eu9.symm
     subst eu9
     have S3 := fu3 (dep_of 3 hru rfl (by kernel_rfl))
     have R5 := fu5 (dep_of 5 hru rfl (by kernel_rfl))
     refine wpOp_shut (by rfl) (fun K hK => ?_)
     simp only [Act.put,xL4,xL5,xL6]
     have ht := ht.below hbu
     have rc := rc.below hbu
     go_simp
     refine (share_at _ _ (ws t n 0) (t 0).cov (n * C) _ R5 (rc.le hLC) hNC (by omega) ht hcn).mono ?_
     rintro eu wx ⟨x6,rfl,hx,bu⟩
     go_wp2_with fail
     have hbu2 := hbu.trans (bu.mono hbu.size)
     exact hK.out _ _ ⟨vu0,vu1,vu2,vu3,vu4,vu5,vu6,vu7,vu8,(.agg #[.bool p3,.slice a3 n3 c3,.slice b3 m3 d3]),_,by simp only [Act.put,xL4,xL5,xL6],hbu2,fun h => fu0 (mark_of (by decide) h),fun h => fu1 (mark_of (by decide) h),fun h => fu2 (mark_of (by decide) h),fun h => (fu3 (mark_of (by decide) h)).below bu,fun h => (fu4 (mark_of (by decide) h)).below bu,fun h => (fu5 (mark_of (by decide) h)).below bu,fun h => fu6 (mark_of (by decide) h),fun h => fu7 (mark_of (by decide) h),fun h => fu8 (mark_of (by decide) h),fun _ => rfl,fun _ => hx⟩
   rintro au Wu51 ⟨vu0,vu1,vu2,vu3,vu4,vu5,vu6,vu7,vu8,vu9,vu10,rfl,hbu,fu0,fu1,fu2,fu3,fu4,fu5,fu6,fu7,fu8,fu9,fu10⟩
   have eu0 := (fu0 rfl).symm
   subst eu0
   have eu1 := (fu1 rfl).symm
   subst eu1
   have eu2 := (fu2 rfl).symm
   subst eu2
   have S3 := fu3 rfl
   have P4 := fu4 rfl
   have R5 := fu5 rfl
   have eu6 := (fu6 rfl).symm
   subst eu6
   have eu7 := (fu7 rfl).symm
   subst eu7
   have eu8 := (fu8 rfl).symm
   subst eu8
   have eu9 := (fu9 rfl).symm
   subst eu9
   have hx := fu10 rfl
   clear fu0 fu1 fu2 fu3 fu4 fu5 fu6 fu7 fu8 fu9 fu10
   have hlX0 : b9 < wr.heap.size := X0.lt
   replace VA := VA.below hbu
   replace VR := VR.below hbu
   replace ht := ht.below hbu
   replace rc := rc.below hbu
   replace X0 := X0.below hbu
   replace BB := BB.xm hbu
   clear hbu
   rw [← HMV.out] at hx
   obtain ⟨p6,a6,n6,c6,b6,m6,d6,rfl⟩ := hx.open
   simp only [Act.put,xL4,xL5,xL6]
   refine xR [11] (h := ?_)
   refine AllReadyH.cons (by rfl) (fun K hK => ?_) AllReadyH.nil
   go_simp
   refine hK.out _ _ trivial (fun _ => ?_)
   clear hK K
   simp only [Act.put,xL4,xL5,xL6]
   refine xR [12] (h := ?_)
   refine AllReadyH.cons (by rfl) (fun K hK => ?_) AllReadyH.nil
   obtain ⟨u0,u1,u2,x0,x1,x2,y0,y1,y2,VA2⟩ := VA.put hlt hx
   have BB2 : Below w.heap.size w (((Wu51.setCell ⟨G,i * 3,none⟩ (.bool p6)).setCell ⟨G,i * 3 + 1,none⟩ (.slice a6 n6 c6)).setCell ⟨G,i * 3 + 2,none⟩ (.slice b6 m6 d6)) := ((BB.setCell hGB _).setCell hGB _).setCell hGB _
   go_simp
   clear x0 x1 x2 y0 y1 y2
   refine hK.out _ _ trivial (fun _ => ?_)
   clear hK K
   simp only [Act.put,xL4,xL5,xL6]
   refine wpAnyH_done (by kernel_rfl) ?_ _
   have VR2 : V3 (((Wu51.setCell ⟨G,i * 3,none⟩ (.bool p6)).setCell ⟨G,i * 3 + 1,none⟩ (.slice a6 n6 c6)).setCell ⟨G,i * 3 + 2,none⟩ (.slice b6 m6 d6)) (w.heap.size + 1) (.bool false) (.slice none 0 0) (.slice none 0 0) := VR.block11 (put3_block _ _ _ _ _ _ _ hGR)
   go_wp2
   go_roundw
   case rel => exact ⟨i + 1,by omega,by go_num,VA2,VR2,BB2⟩
   case measure => simp [intOf]; omega
  ·obtain rfl : i = k := by omega
   have g1 : ¬ (i : Int) < (i : Int) := by omega
   have HSQ : ∀ j,j < i → qsz (mean0 T N j) ≤ 10000 + L := fun j hj => by
    obtain ⟨b,off,cc,a,d,hvv,hcc,XC0,TR0⟩ := HM0.out.at hj
    have hm := HMY.out j hj
    have h1 : qsz (ws (T j) (N j) 0) ≤ 10000 := ws_sz hm (fun i hi => TR0.sz11 hL hi) hC (Nat.le_trans (Nat.mul_le_mul_right C hm.few) hCn) hm.pos
    exact qsz_div _ _ h1 (TR0.sz11 hL hm.pos).2
   have hv := VA.full (L := 10000 + L) (by omega) HSQ
   have ht := HT0.out.below BB
   go_wp2_with fail
   have hMM : i * (10000 + L + 1) + 1 ≤ 100000 := by
    have := Nat.mul_le_mul_right (10000 + L + 1) hk
    omega
   refine (qsum_any (10000 + L) 100000 (by omega) (by omega) (by omega) i _ _ _ hv ht hMM).mono ?_
   rintro e w7 ⟨x7,rfl,h7,b7⟩
   replace VR := VR.below b7
   replace BB := BB.xm b7
   obtain ⟨p7,a7,n7,c7,y7,m7,d7,rfl⟩ := h7.open
   have hKp := VR.keepJ (.bool p7) (.slice a7 n7 c7) (.slice y7 m7 d7)
   have h7n := h7.keep hKp
   have BBn := below_store3 (R := w.heap.size + 1) BB (by omega) (.bool p7) (.slice a7 n7 c7) (.slice y7 m7 d7)
   obtain ⟨z1,z2,z3,z4,z5,z6⟩ := id VR
   clear hv VA h7 hKp HSQ
   go_wp2
   (try simp only [Exit.inBlock,Exit.then])
   refine bodyPost_ret (v := .tuple #[.agg #[.bool p7,.slice a7 n7 c7,.slice y7 m7 d7],.int .i64 0]) (by simp [results,go_sem,z1,z2,z3]) rfl ?_
   exact ⟨_,rfl,h7n,BBn⟩

def ex11 (i : Nat) : Nd := if i = 0 then ⟨false,0,0,1,2,false,0,((4 : Int) : Rat)⟩ else if i = 1 then ⟨true,0,0,0,0,false,0,1⟩ else ⟨true,0,0,0,0,false,1,((3 : Int) : Rat)⟩
theorem ex11_may : mayB 1 1 (fun _ => 3) (fun _ => ex11) = true := by
 unfold mayB
 refine @decide_eq_true _ (Classical.propDecidable _) (.inr ⟨by decide +kernel,none,.inl ⟨rfl,fun r hr i hi => ?_⟩,rfl⟩)
 obtain rfl : i = 0 := by omega
 rcases (by omega : r = 0 ∨ r = 1 ∨ r = 2 ∨ r = 3) with rfl | rfl | rfl | rfl <;> decide +kernel
theorem ex11_sum : sumq (mean0 (fun _ => ex11) (fun _ => 3)) 1 = ((3 : Int) : Rat) / ((4 : Int) : Rat) := by decide +kernel
theorem ex11_sz : qsz (((3 : Int) : Rat) / ((4 : Int) : Rat)) ≤ 2 := by decide +kernel
theorem zero_atn11 (w : World) : AtN w (.bool false) (.slice none 0 0) (.slice none 0 0) 0 4 := by
 have h := RatAt.raw (p := false) (K := 4) (Nums.nil .u64 w (fun _ => 0)) (fun i hi => by omega) (Nums.nil .u64 w (fun _ => 0)) (fun i hi => by omega) (by omega) (by omega)
 exact ⟨false,none,0,0,none,0,0,rfl,rfl,rfl,h⟩
theorem ex11_lay (w : World) {p1 : Bool} {a1 y1 : Option Addr} {n1 c1 m1 d1 : Nat} {p2 : Bool} {a2 y2 : Option Addr} {n2 c2 m2 d2 : Nat} {p3 : Bool} {a3 y3 : Option Addr} {n3 c3 m3 d3 : Nat} {p4 : Bool} {a4 y4 : Option Addr} {n4 c4 m4 d4 : Nat} (h1 : RepQ w (.agg #[.bool p1,.slice a1 n1 c1,.slice y1 m1 d1]) ((4 : Int) : Rat)) (h2 : RepQ w (.agg #[.bool p2,.slice a2 n2 c2,.slice y2 m2 d2]) 1) (h3 : RepQ w (.agg #[.bool p3,.slice a3 n3 c3,.slice y3 m3 d3]) 1) (h4 : RepQ w (.agg #[.bool p4,.slice a4 n4 c4,.slice y4 m4 d4]) ((3 : Int) : Rat)) :
  ∃ W,W = (w.alloc (.cells #[.bool false,.int .i64 0,.bool false,.slice none 0 0,.slice none 0 0,.int .i64 1,.int .i64 2,.bool false,.bool false,.slice none 0 0,.slice none 0 0,.bool p1,.slice a1 n1 c1,.slice y1 m1 d1,.bool true,.int .i64 0,.bool false,.slice none 0 0,.slice none 0 0,.int .i64 0,.int .i64 0,.bool false,.bool false,.slice none 0 0,.slice none 0 0,.bool p2,.slice a2 n2 c2,.slice y2 m2 d2,.bool true,.int .i64 0,.bool false,.slice none 0 0,.slice none 0 0,.int .i64 0,.int .i64 0,.bool false,.bool p3,.slice a3 n3 c3,.slice y3 m3 d3,.bool p4,.slice a4 n4 c4,.slice y4 m4 d4] 48)).alloc (.cells #[.slice (some ⟨w.heap.size,0,none⟩) 3 3] 22) ∧ Below w.heap.size w W ∧ W.heap.size = w.heap.size + 2 ∧ MRow W (.slice (some ⟨w.heap.size + 1,0,none⟩) 1 1) 1 (fun _ => 3) (fun _ => ex11) 4 := by
 obtain ⟨W1,hW1⟩ : ∃ W1,W1 = w.alloc (.cells #[.bool false,.int .i64 0,.bool false,.slice none 0 0,.slice none 0 0,.int .i64 1,.int .i64 2,.bool false,.bool false,.slice none 0 0,.slice none 0 0,.bool p1,.slice a1 n1 c1,.slice y1 m1 d1,.bool true,.int .i64 0,.bool false,.slice none 0 0,.slice none 0 0,.int .i64 0,.int .i64 0,.bool false,.bool false,.slice none 0 0,.slice none 0 0,.bool p2,.slice a2 n2 c2,.slice y2 m2 d2,.bool true,.int .i64 0,.bool false,.slice none 0 0,.slice none 0 0,.int .i64 0,.int .i64 0,.bool false,.bool p3,.slice a3 n3 c3,.slice y3 m3 d3,.bool p4,.slice a4 n4 c4,.slice y4 m4 d4] 48) := ⟨_,rfl⟩
 have hb1 := heap_alloc_new w (.cells #[.bool false,.int .i64 0,.bool false,.slice none 0 0,.slice none 0 0,.int .i64 1,.int .i64 2,.bool false,.bool false,.slice none 0 0,.slice none 0 0,.bool p1,.slice a1 n1 c1,.slice y1 m1 d1,.bool true,.int .i64 0,.bool false,.slice none 0 0,.slice none 0 0,.int .i64 0,.int .i64 0,.bool false,.bool false,.slice none 0 0,.slice none 0 0,.bool p2,.slice a2 n2 c2,.slice y2 m2 d2,.bool true,.int .i64 0,.bool false,.slice none 0 0,.slice none 0 0,.int .i64 0,.int .i64 0,.bool false,.bool p3,.slice a3 n3 c3,.slice y3 m3 d3,.bool p4,.slice a4 n4 c4,.slice y4 m4 d4] 48)
 rw [← hW1] at hb1
 have B1 : Below w.heap.size w W1 := by rw [hW1]; exact (Below.refl _ _).alloc (Nat.le_refl _) _
 have S1 : W1.heap.size = w.heap.size + 1 := by rw [hW1]; simp
 have B2 : Below W1.heap.size W1 (W1.alloc (.cells #[.slice (some ⟨w.heap.size,0,none⟩) 3 3] 22)) := (Below.refl _ _).alloc (Nat.le_refl _) _
 have q1 : RatAt W1 (.agg #[.bool p1,.slice a1 n1 c1,.slice y1 m1 d1]) ((4 : Int) : Rat) 4 := (h1.below B1).at 4 (by decide +kernel)
 have q2 : RatAt W1 (.agg #[.bool p2,.slice a2 n2 c2,.slice y2 m2 d2]) 1 4 := (h2.below B1).at 4 (by decide +kernel)
 have q3 : RatAt W1 (.agg #[.bool p3,.slice a3 n3 c3,.slice y3 m3 d3]) 1 4 := (h3.below B1).at 4 (by decide +kernel)
 have q4 : RatAt W1 (.agg #[.bool p4,.slice a4 n4 c4,.slice y4 m4 d4]) ((3 : Int) : Rat) 4 := (h4.below B1).at 4 (by decide +kernel)
 have z64 : I64 0 := by unfold I64; omega
 have o64 : I64 1 := by unfold I64; omega
 have t64 : I64 2 := by unfold I64; omega
 have TR : TRow W1 (.slice (some ⟨w.heap.size,0,none⟩) 3 3) 3 ex11 4 := by
  refine ⟨fun i j => if i = 0 then [.bool false,.int .i64 0,.bool false,.slice none 0 0,.slice none 0 0,.int .i64 1,.int .i64 2,.bool false,.bool false,.slice none 0 0,.slice none 0 0,.bool p1,.slice a1 n1 c1,.slice y1 m1 d1].getD j undef else if i = 1 then [.bool true,.int .i64 0,.bool false,.slice none 0 0,.slice none 0 0,.int .i64 0,.int .i64 0,.bool false,.bool false,.slice none 0 0,.slice none 0 0,.bool p2,.slice a2 n2 c2,.slice y2 m2 d2].getD j undef else [.bool true,.int .i64 0,.bool false,.slice none 0 0,.slice none 0 0,.int .i64 0,.int .i64 0,.bool false,.bool p3,.slice a3 n3 c3,.slice y3 m3 d3,.bool p4,.slice a4 n4 c4,.slice y4 m4 d4].getD j undef,⟨_,_,rfl,by omega,by omega,fun _ => ⟨_,_,rfl,fun i hi j hj => ?_⟩⟩,fun i hi => ?_⟩
  ·rw [cell_of_row _ _ _ _ _ _ hb1]
   rcases (by omega : i = 0 ∨ i = 1 ∨ i = 2) with rfl | rfl | rfl <;> rcases (by omega : j = 0 ∨ j = 1 ∨ j = 2 ∨ j = 3 ∨ j = 4 ∨ j = 5 ∨ j = 6 ∨ j = 7 ∨ j = 8 ∨ j = 9 ∨ j = 10 ∨ j = 11 ∨ j = 12 ∨ j = 13) with rfl | rfl | rfl | rfl | rfl | rfl | rfl | rfl | rfl | rfl | rfl | rfl | rfl | rfl <;> rfl
  ·rcases (by omega : i = 0 ∨ i = 1 ∨ i = 2) with rfl | rfl | rfl
   ·exact ⟨rfl,rfl,zero_atn11 _,rfl,rfl,rfl,zero_atn11 _,⟨p1,a1,n1,c1,y1,m1,d1,rfl,rfl,rfl,q1⟩,z64,o64,t64⟩
   ·exact ⟨rfl,rfl,zero_atn11 _,rfl,rfl,rfl,zero_atn11 _,⟨p2,a2,n2,c2,y2,m2,d2,rfl,rfl,rfl,q2⟩,z64,z64,z64⟩
   ·exact ⟨rfl,rfl,zero_atn11 _,rfl,rfl,rfl,⟨p3,a3,n3,c3,y3,m3,d3,rfl,rfl,rfl,q3⟩,⟨p4,a4,n4,c4,y4,m4,d4,rfl,rfl,rfl,q4⟩,z64,z64,z64⟩
 refine ⟨_,rfl,?_,?_,?_⟩
 ·rw [← hW1]; exact B1.trans (B2.mono B1.size)
 ·simp
 ·rw [← hW1,← S1]
  exact one_tree TR 22
set_option maxRecDepth 100000 in
set_option maxHeartbeats 8000000 in
theorem awake11_at (w : World) (ht : Tab w) :
  Calls Tryz.prog 9 #[] w fun e w' => e = .returned (.bool true) ∧ Below w.heap.size w w' := by
 have BB : Below w.heap.size w w := Below.refl _ _
 go_enter Tryz.func9,Tryz.ntmps9
 go_wp2_with fail
 refine (qof_at 4 _ (by omega) (by omega)).mono ?_
 rintro e w1 ⟨v1,rfl,h1,b1⟩
 replace ht := ht.below b1
 replace BB := BB.xm b1
 clear b1
 obtain ⟨p1,a1,n1,c1,y1,m1,d1,rfl⟩ := h1.open
 go_wp2_with fail
 refine (qone_at _).mono ?_
 rintro e w2 ⟨v2,rfl,h2,b2⟩
 replace ht := ht.below b2
 replace h1 := h1.below b2
 replace BB := BB.xm b2
 clear b2
 obtain ⟨p2,a2,n2,c2,y2,m2,d2,rfl⟩ := h2.open
 go_wp2_with fail
 refine (qone_at _).mono ?_
 rintro e w3 ⟨v3,rfl,h3,b3⟩
 replace ht := ht.below b3
 replace h1 := h1.below b3
 replace h2 := h2.below b3
 replace BB := BB.xm b3
 clear b3
 obtain ⟨p3,a3,n3,c3,y3,m3,d3,rfl⟩ := h3.open
 go_wp2_with fail
 refine (qof_at 3 _ (by omega) (by omega)).mono ?_
 rintro e w4 ⟨v4,rfl,h4,b4⟩
 replace ht := ht.below b4
 replace h1 := h1.below b4
 replace h2 := h2.below b4
 replace h3 := h3.below b4
 replace BB := BB.xm b4
 clear b4
 obtain ⟨p4,a4,n4,c4,y4,m4,d4,rfl⟩ := h4.open
 obtain ⟨Wb,hWb,hLb,hSb,MR⟩ := ex11_lay w4 h1 h2 h3 h4
 replace ht := ht.below hLb
 replace BB := BB.xm hLb
 obtain ⟨Wc,hWc,hSc,hLc,VM⟩ := V2.lay Wb 27 (.int .i64 1) (.slice (some ⟨w4.heap.size + 1,0,none⟩) 1 1)
 replace ht := ht.below hLc
 replace MR := MR.below hLc
 replace BB := BB.xm hLc
 obtain ⟨VM_0,VM_1,VM_2,VM_3⟩ := id VM
 rw [hWc,hWb] at VM_0 VM_1 VM_2 VM_3
 rw [hSb] at hSc
 go_wp2_with fail
 rw [← hWb,← hWc]
 clear VM_0 VM_1 VM_2 VM_3 hWb hWc hLb hLc VM h1 h2 h3 h4 hSb hSc
 refine (base_yes 1 _ 1 (fun _ => 3) (fun _ => ex11) 4 10 _ MR ht (by omega) (by omega) (by omega) ex11_may (by omega)).mono ?_
 rintro e w5 ⟨v5,rfl,h5,b5⟩
 replace ht := ht.below b5
 replace BB := BB.xm b5
 clear b5
 rw [ex11_sum] at h5
 obtain ⟨p5,a5,n5,c5,y5,m5,d5,rfl⟩ := h5.open
 clear MR
 have hZ1 : w.heap.size ≤ w5.heap.size := BB.size
 obtain ⟨W1,hW1,hS1,hL1,VX⟩ := V3.lay w5 42 (.bool p5) (.slice a5 n5 c5) (.slice y5 m5 d5)
 replace ht := ht.below hL1
 replace h5 := h5.below hL1
 replace BB := BB.xm hL1
 clear hL1
 obtain ⟨VX_0,VX_1,VX_2,VX_3,VX_4,VX_5⟩ := id VX
 rw [hW1] at VX_0 VX_1 VX_2 VX_3 VX_4 VX_5
 go_wp2_with fail
 clear VX_0 VX_1 VX_2 VX_3 VX_4 VX_5
 rw [← hW1]
 generalize w5.heap.size = R1 at *
 clear hW1 hS1
 have hDr : Below W1.heap.size W1 W1.drew := (Below.refl _ _).drew
 replace ht := ht.below hDr
 replace h5 := h5.below hDr
 replace VX := VX.below hDr
 replace BB := BB.xm hDr
 clear hDr
 refine wp_region_held_drew (S := (fun w' => w'.cell? ⟨R1,0,none⟩ = some (.bool p5) ∧ w'.cell? ⟨R1,1,none⟩ = some (.slice a5 n5 c5) ∧ w'.cell? ⟨R1,2,none⟩ = some (.slice y5 m5 d5))) (by kernel_rfl) ?_ (fun hHeld => ?_)
 ·exact ⟨VX.1,VX.2.1,VX.2.2.1⟩
 generalize W1.drew = W2 at *
 refine xV 0 (h := ?_)
 refine xV 1 (h := ?_)
 refine xV 2 (h := ?_)
 refine xV 3 (h := ?_)
 refine xR [4] (h := ?_)
 refine xN (h := fun K hK => ?_)
 go_simp
 refine (qfrac_at 3 4 _ (by omega) (by omega) (by omega) (by omega) ht).mono ?_
 rintro e w6 ⟨v6,rfl,h6,b6⟩
 obtain ⟨p6,a6,n6,c6,y6,m6,d6,rfl⟩ := h6.open
 go_wp2_with fail
 replace ht := ht.below b6
 replace h5 := h5.below b6
 replace VX := VX.below b6
 replace BB := BB.xm b6
 clear b6
 refine hK.out _ _ ?_ (fun hH1 => ?_)
 ·exact ⟨VX.1,VX.2.1,VX.2.2.1⟩
 clear hK K hHeld
 (try simp only [Act.put,xL4,xL5,xL6])
 refine xR [5] (h := ?_)
 refine xN (h := fun K hK => ?_)
 go_simp
 refine (qsame_at _ _ _ _ 2 _ (h5.at 2 ex11_sz) (h6.at 2 ex11_sz) (by omega) (by omega)).mono ?_
 rintro e w7 ⟨rfl,b7⟩
 rw [decide_eq_true rfl]
 go_wp2_with fail
 replace ht := ht.below b7
 replace h5 := h5.below b7
 replace h6 := h6.below b7
 replace VX := VX.below b7
 replace BB := BB.xm b7
 clear b7
 refine hK.out _ _ ?_ (fun hH2 => ?_)
 ·exact ⟨VX.1,VX.2.1,VX.2.2.1⟩
 clear hK K hH1
 (try simp only [Act.put,xL4,xL5,xL6])
 refine xV 6 (h := ?_)
 refine xV 7 (h := ?_)
 refine wpAnyH_done (by kernel_rfl) ?_ _
 clear hH2
 go_wp2
 go_ret
 exact ⟨rfl,BB⟩

theorem step_append_pureM {P : Program} {Q' : Value → Prop} {ops : Array Oper} {o : Oper} {a : Act} {K : Act → World → Prop} {Q : Exit → Act → World → Prop} {E : Prop} {w : World} (hgd : o.guard = none) (s x : Operand) (t : TypeId)
  (ho : o.op = .call { callee := .builtin .append,args := #[s,x],argTypes := #[t,t] }) (base : Nat) (e : TypeId) (z : Value) (size bytes : Nat) (ht : P.underlying t = some (.slice e))
  (hinfo : (P.info? e).map (fun i => (i.zero,i.size,i.bytes)) = some (some z,size,bytes)) (hzs : z.cells.size = size) (hsz : 0 < size)
  (v : Value) (hs : a.eval s = v) (n : Nat) (xs : List Value) (hown : w.ownsRow base e size v n xs) (hpure : ∀ g,v.ownBlock = some g → PureB Q' w g)
  (ad : Addr) (m c : Nat) (hm1 : 1 ≤ m) (hm2 : m ≤ 1000) (hx : a.eval x = .slice (some ad) m c) (news : List Value) (hl : news.length = m * size) (hnews : ∀ j u,news[j]? = some u → w.cell? (ad.add j) = some u) (h1 : ∀ u ∈ news,u.oneCell' = true)
  (hq : ∀ u ∈ news,¬ Q' u) (hqz : ∀ u ∈ z.cells.toList,¬ Q' u) (h63 : n ≤ 1000000000) (hbytes : bytes ≤ 1000) (hbase : base ≤ w.heap.size)
  (h : ∀ g' cap' w',w'.ownsRow base e size (.slice (some ⟨g',0,none⟩) (n + m) cap') (n + m) (xs ++ news) → w.grownBy w' v.ownBlock → (v.ownBlock = some g' ∨ g' = w.heap.size) → PureB Q' w' g' → KeepQ Q' w w' →
   K (a.put o.dst (.slice (some ⟨g',0,none⟩) (n + m) cap')) w') :
  if Region.wanted o (yielded ops a.tmps) = true then Oper.wp P o a w K Q else E := by
 have hw : Region.wanted o (yielded ops a.tmps) = true := by simp [Region.wanted,hgd]
 rw [if_pos hw]
 obtain ⟨i0,hi,hz0,hz1,hz2⟩ := info_parts hinfo
 obtain ⟨g',cap',w',hr,h2,h3,h4,h5,h6⟩ := append_pureM (P := P) (Q := Q') w base t o.type e i0 z size bytes ht hi hz0 hz1 hz2 hzs hsz v n xs hown hpure ad m c hm1 hm2 news hl hnews h1 hq hqz h63 hbytes hbase
 unfold Oper.wp execOp
 simp only [ho,resolve,invoke,builtin,Sem.run_bind,Sem.run_pure,Result.andThen_ok,List.map_toArray,List.map_cons,List.map_nil,hs,hx,hr]
 exact h g' cap' w' h2 h3 h4 h5 h6
theorem MayT.lvs_few {F : Int} {t : Nat → Nd} {n : Nat} (h : MayT F t n) {x : Nat} (hx : x < n) : 1 ≤ (lvs t n x).length ∧ (lvs t n x).length ≤ n := by
 have h1 := h.count hx
 have h2 := h.pre_few hx
 omega
set_option maxRecDepth 100000 in
set_option maxHeartbeats 16000000 in
theorem lleaves_ind (F : Int) (vt : Value) (n : Nat) (t : Nat → Nd) (L : Nat) (hm : MayT F t n) : ∀ (k x : Nat) (w : World),x < n → n + 1 ≤ lvl t n x + k → TRow w vt n t L →
  Calls Tryz.prog 10 #[vt,.int .i64 (x : Int)] w fun e w' => ∃ u,e = .returned u ∧ IntOwn w.heap.size w' u (lvs t n x) ∧ Below w.heap.size w w' := by
 intro k
 induction k with
 | zero =>
  intro x w hx hk
  have := hm.lvl_le hx
  omega
 | succ k ih =>
  intro x w hx hk ht
  obtain ⟨ao,ct,rfl,htc,ht63⟩ := ht.open
  have BB : Below w.heap.size w w := Below.refl _ _
  have g0 : (0 : Int) ≤ (x : Int) := by omega
  have g1 : (x : Int) < (n : Int) := by omega
  have hn255 := hm.few
  obtain ⟨b,off,cc,p1,a1,n1,c1,b1,m1,d1,p2,a2,n2,c2,b2,m2,d2,p3,a3,n3,c3,b3,m3,d3,hvv,hcc,hc6,NN,r1,r2,r3,i1,i2,i3⟩ := ht.at hx
  cases hvv
  obtain ⟨lf,hlf⟩ : ∃ z,(t x).leaf = z := ⟨_,rfl⟩
  rw [hlf] at NN
  have X0 : Cel10 w b (off + x * 14) (.bool lf) := ⟨NN.c0⟩
  have X5 : Cel10 w b (off + x * 14 + 5) (.int .i64 (t x).left) := ⟨NN.c5⟩
  have X6 : Cel10 w b (off + x * 14 + 6) (.int .i64 (t x).right) := ⟨NN.c6⟩
  clear NN r1 r2 r3 i1 i2 i3
  cases lf
  ·obtain ⟨e1,e2,k1,k2,k3,k4,l1,l2⟩ := hm.kids hx hlf
   have HWS : Hid (lvs t n x = lvs t n (kl t x) ++ lvs t n (kr t x)) := hm.lvs_split hx hlf
   have hk1 : n + 1 ≤ lvl t n (kl t x) + k := by omega
   have hk2 : n + 1 ≤ lvl t n (kr t x) + k := by omega
   have IH1 : Hid (∀ w,TRow w (.slice (some ⟨b,off,none⟩) n ct) n t L → Calls Tryz.prog 10 #[.slice (some ⟨b,off,none⟩) n ct,.int .i64 (kl t x : Int)] w fun e w' => ∃ u,e = .returned u ∧ IntOwn w.heap.size w' u (lvs t n (kl t x)) ∧ Below w.heap.size w w') := fun w h => ih (kl t x) w k2 hk1 h
   have IH2 : Hid (∀ w,TRow w (.slice (some ⟨b,off,none⟩) n ct) n t L → Calls Tryz.prog 10 #[.slice (some ⟨b,off,none⟩) n ct,.int .i64 (kr t x : Int)] w fun e w' => ∃ u,e = .returned u ∧ IntOwn w.heap.size w' u (lvs t n (kr t x)) ∧ Below w.heap.size w w') := fun w h => ih (kr t x) w k4 hk2 h
   have hf1 := hm.lvs_few k2
   have hf2 := hm.lvs_few k4
   rw [e1] at X5
   rw [e2] at X6
   clear ih hk1 hk2 hk l1 l2 e1 e2 k1 k3 hlf
   have HMX : Hid (MayT F t n) := hm
   clear hm
   generalize lvs t n (kl t x) = zl at *
   generalize lvs t n (kr t x) = zr at *
   generalize kl t x = lr at *
   generalize kr t x = rr at *
   obtain ⟨ll,hll⟩ : ∃ ll,zl.length = ll := ⟨_,rfl⟩
   obtain ⟨lq,hlq⟩ : ∃ lq,zr.length = lq := ⟨_,rfl⟩
   have HLL : Hid (zl.length = ll) := hll
   have HLQ : Hid (zr.length = lq) := hlq
   rw [hll] at hf1
   rw [hlq] at hf2
   clear hll hlq
   have Z0 := X0.cell
   go_enter Tryz.func10,Tryz.ntmps10
   go_wp2
   clear Z0
   refine wp_region_until 14 #[true,true,true,true,true,true,true,true,true,true,true,true,true,true,false,false] (fun aF lsd a' w' => ∃ vu0 vu1 vu2 vu3 vu4 vu5 vu6 vu7 vu8 vu9 vu10 vu11 vu12 vu13 : Value,a' = (((((((((((((aF.put (some 12) vu0).put (some 13) vu1).put (some 14) vu2).put (some 15) vu3).put (some 16) vu4).put (some 17) vu5).put (some 18) vu6).put (some 19) vu7).put (some 20) vu8).put (some 21) vu9).put (some 22) vu10).put (some 23) vu11).put (some 24) vu12).put (some 25) vu13 ∧ Below w.heap.size w w' ∧ (lsd.getD 0 false = true → vu0 = .slice (some ⟨b,off,none⟩) n ct) ∧ (lsd.getD 1 false = true → vu1 = .slice (some ⟨b,off,none⟩) n ct) ∧ (lsd.getD 2 false = true → vu2 = .int .i64 (x : Int)) ∧ (lsd.getD 3 false = true → vu3 = .pointer (some ⟨b,off + x * 14,none⟩)) ∧ (lsd.getD 4 false = true → vu4 = .pointer (some ⟨b,off + x * 14 + 5,none⟩)) ∧ (lsd.getD 5 false = true → vu5 = .int .i64 (lr : Int)) ∧ (lsd.getD 6 false = true → IntOwn w.heap.size w' vu6 zl) ∧ (lsd.getD 7 false = true → vu7 = .slice (some ⟨b,off,none⟩) n ct) ∧ (lsd.getD 8 false = true → vu8 = .slice (some ⟨b,off,none⟩) n ct) ∧ (lsd.getD 9 false = true → vu9 = .int .i64 (x : Int)) ∧ (lsd.getD 10 false = true → vu10 = .pointer (some ⟨b,off + x * 14,none⟩)) ∧ (lsd.getD 11 false = true → vu11 = .pointer (some ⟨b,off + x * 14 + 6,none⟩)) ∧ (lsd.getD 12 false = true → vu12 = .int .i64 (rr : Int)) ∧ (lsd.getD 13 false = true → IntOwn w.heap.size w' vu13 zr)) (by kernel_rfl) (by decide) (by kernel_rfl) (by rfl) (by kernel_rfl) ?_ ?_ ?_
   ·exact ⟨_,_,_,_,_,_,_,_,_,_,_,_,_,_,by simp only [Act.put,xL4,xL5,xL6]; rfl,(Below.refl _ _).drew,fun h => absurd h (fun h => mark_none h),fun h => absurd h (fun h => mark_none h),fun h => absurd h (fun h => mark_none h),fun h => absurd h (fun h => mark_none h),fun h => absurd h (fun h => mark_none h),fun h => absurd h (fun h => mark_none h),fun h => absurd h (fun h => mark_none h),fun h => absurd h (fun h => mark_none h),fun h => absurd h (fun h => mark_none h),fun h => absurd h (fun h => mark_none h),fun h => absurd h (fun h => mark_none h),fun h => absurd h (fun h => mark_none h),fun h => absurd h (fun h => mark_none h),fun h => absurd h (fun h => mark_none h)⟩
   ·rintro lsd au wn iu hszu ⟨vu0,vu1,vu2,vu3,vu4,vu5,vu6,vu7,vu8,vu9,vu10,vu11,vu12,vu13,rfl,hbu,fu0,fu1,fu2,fu3,fu4,fu5,fu6,fu7,fu8,fu9,fu10,fu11,fu12,fu13⟩ himu hru
    rcases (show iu = 0 ∨ iu = 1 ∨ iu = 2 ∨ iu = 3 ∨ iu = 4 ∨ iu = 5 ∨ iu = 6 ∨ iu = 7 ∨ iu = 8 ∨ iu = 9 ∨ iu = 10 ∨ iu = 11 ∨ iu = 12 ∨ iu = 13 by omega) with rfl | rfl | rfl | rfl | rfl | rfl | rfl | rfl | rfl | rfl | rfl | rfl | rfl | rfl
    ·refine wpOp_shut (by rfl) (fun K hK => ?_)
     simp only [Act.put,xL4,xL5,xL6]
     go_simp
     exact hK.out _ _ ⟨(.slice (some ⟨b,off,none⟩) n ct),vu1,vu2,vu3,vu4,vu5,vu6,vu7,vu8,vu9,vu10,vu11,vu12,vu13,by simp only [Act.put,xL4,xL5,xL6],hbu,fun _ => rfl,fun h => fu1 (mark_of (by decide) h),fun h => fu2 (mark_of (by decide) h),fun h => fu3 (mark_of (by decide) h),fun h => fu4 (mark_of (by decide) h),fun h => fu5 (mark_of (by decide) h),fun h => fu6 (mark_of (by decide) h),fun h => fu7 (mark_of (by decide) h),fun h => fu8 (mark_of (by decide) h),fun h => fu9 (mark_of (by decide) h),fun h => fu10 (mark_of (by decide) h),fun h => fu11 (mark_of (by decide) h),fun h => fu12 (mark_of (by decide) h),fun h => fu13 (mark_of (by decide) h)⟩
    ·refine wpOp_shut (by rfl) (fun K hK => ?_)
     simp only [Act.put,xL4,xL5,xL6]
     go_simp
     exact hK.out _ _ ⟨vu0,(.slice (some ⟨b,off,none⟩) n ct),vu2,vu3,vu4,vu5,vu6,vu7,vu8,vu9,vu10,vu11,vu12,vu13,by simp only [Act.put,xL4,xL5,xL6],hbu,fun h => fu0 (mark_of (by decide) h),fun _ => rfl,fun h => fu2 (mark_of (by decide) h),fun h => fu3 (mark_of (by decide) h),fun h => fu4 (mark_of (by decide) h),fun h => fu5 (mark_of (by decide) h),fun h => fu6 (mark_of (by decide) h),fun h => fu7 (mark_of (by decide) h),fun h => fu8 (mark_of (by decide) h),fun h => fu9 (mark_of (by decide) h),fun h => fu10 (mark_of (by decide) h),fun h => fu11 (mark_of (by decide) h),fun h => fu12 (mark_of (by decide) h),fun h => fu13 (mark_of (by decide) h)⟩
    ·refine wpOp_shut (by rfl) (fun K hK => ?_)
     simp only [Act.put,xL4,xL5,xL6]
     go_simp
     exact hK.out _ _ ⟨vu0,vu1,(.int .i64 (x : Int)),vu3,vu4,vu5,vu6,vu7,vu8,vu9,vu10,vu11,vu12,vu13,by simp only [Act.put,xL4,xL5,xL6],hbu,fun h => fu0 (mark_of (by decide) h),fun h => fu1 (mark_of (by decide) h),fun _ => rfl,fun h => fu3 (mark_of (by decide) h),fun h => fu4 (mark_of (by decide) h),fun h => fu5 (mark_of (by decide) h),fun h => fu6 (mark_of (by decide) h),fun h => fu7 (mark_of (by decide) h),fun h => fu8 (mark_of (by decide) h),fun h => fu9 (mark_of (by decide) h),fun h => fu10 (mark_of (by decide) h),fun h => fu11 (mark_of (by decide) h),fun h => fu12 (mark_of (by decide) h),fun h => fu13 (mark_of (by decide) h)⟩
    ·have eu1 := fu1 (dep_of 1 hru rfl (by kernel_rfl))
     have eu2 := fu2 (dep_of 2 hru rfl (by kernel_rfl))
     replace eu1 := eu1.symm
     subst eu1
     replace eu2 := eu2.symm
     subst eu2
     refine wpOp_shut (by rfl) (fun K hK => ?_)
     simp only [Act.put,xL4,xL5,xL6]
     go_simp
     exact hK.out _ _ ⟨vu0,(.slice (some ⟨b,off,none⟩) n ct),(.int .i64 (x : Int)),(.pointer (some ⟨b,off + x * 14,none⟩)),vu4,vu5,vu6,vu7,vu8,vu9,vu10,vu11,vu12,vu13,by simp only [Act.put,xL4,xL5,xL6],hbu,fun h => fu0 (mark_of (by decide) h),fun _ => rfl,fun _ => rfl,fun _ => rfl,fun h => fu4 (mark_of (by decide) h),fun h => fu5 (mark_of (by decide) h),fun h => fu6 (mark_of (by decide) h),fun h => fu7 (mark_of (by decide) h),fun h => fu8 (mark_of (by decide) h),fun h => fu9 (mark_of (by decide) h),fun h => fu10 (mark_of (by decide) h),fun h => fu11 (mark_of (by decide) h),fun h => fu12 (mark_of (by decide) h),fun h => fu13 (mark_of (by decide) h)⟩
    ·have eu3 := fu3 (dep_of 3 hru rfl (by kernel_rfl))
     replace eu3 := eu3.symm
     subst eu3
     refine wpOp_shut (by rfl) (fun K hK => ?_)
     simp only [Act.put,xL4,xL5,xL6]
     go_simp
     exact hK.out _ _ ⟨vu0,vu1,vu2,(.pointer (some ⟨b,off + x * 14,none⟩)),(.pointer (some ⟨b,off + x * 14 + 5,none⟩)),vu5,vu6,vu7,vu8,vu9,vu10,vu11,vu12,vu13,by simp only [Act.put,xL4,xL5,xL6],hbu,fun h => fu0 (mark_of (by decide) h),fun h => fu1 (mark_of (by decide) h),fun h => fu2 (mark_of (by decide) h),fun _ => rfl,fun _ => rfl,fun h => fu5 (mark_of (by decide) h),fun h => fu6 (mark_of (by decide) h),fun h => fu7 (mark_of (by decide) h),fun h => fu8 (mark_of (by decide) h),fun h => fu9 (mark_of (by decide) h),fun h => fu10 (mark_of (by decide) h),fun h => fu11 (mark_of (by decide) h),fun h => fu12 (mark_of (by decide) h),fun h => fu13 (mark_of (by decide) h)⟩
    ·have eu4 := fu4 (dep_of 4 hru rfl (by kernel_rfl))
     replace eu4 := eu4.symm
     subst eu4
     refine wpOp_shut (by rfl) (fun K hK => ?_)
     simp only [Act.put,xL4,xL5,xL6]
     have z1 := (X5.below hbu).cell
     go_simp
     exact hK.out _ _ ⟨vu0,vu1,vu2,vu3,(.pointer (some ⟨b,off + x * 14 + 5,none⟩)),(.int .i64 (lr : Int)),vu6,vu7,vu8,vu9,vu10,vu11,vu12,vu13,by simp only [Act.put,xL4,xL5,xL6],hbu,fun h => fu0 (mark_of (by decide) h),fun h => fu1 (mark_of (by decide) h),fun h => fu2 (mark_of (by decide) h),fun h => fu3 (mark_of (by decide) h),fun _ => rfl,fun _ => rfl,fun h => fu6 (mark_of (by decide) h),fun h => fu7 (mark_of (by decide) h),fun h => fu8 (mark_of (by decide) h),fun h => fu9 (mark_of (by decide) h),fun h => fu10 (mark_of (by decide) h),fun h => fu11 (mark_of (by decide) h),fun h => fu12 (mark_of (by decide) h),fun h => fu13 (mark_of (by decide) h)⟩
    ·have eu0 := fu0 (dep_of 0 hru rfl (by kernel_rfl))
     have eu5 := fu5 (dep_of 5 hru rfl (by kernel_rfl))
     replace eu0 := eu0.symm
     subst eu0
     replace eu5 := eu5.symm
     subst eu5
     refine wpOp_shut (by rfl) (fun K hK => ?_)
     simp only [Act.put,xL4,xL5,xL6]
     have ht := ht.below hbu
     go_simp
     refine (IH1.out _ ht).mono ?_
     rintro eu wx ⟨u6,rfl,h6,bu⟩
     replace h6 := h6.le (show w.heap.size ≤ _ from Nat.le_trans BB.size hbu.size)
     go_wp2_with fail
     have hbu2 := hbu.trans (bu.mono hbu.size)
     exact hK.out _ _ ⟨(.slice (some ⟨b,off,none⟩) n ct),vu1,vu2,vu3,vu4,(.int .i64 (lr : Int)),_,vu7,vu8,vu9,vu10,vu11,vu12,vu13,by simp only [Act.put,xL4,xL5,xL6],hbu2,fun _ => rfl,fun h => fu1 (mark_of (by decide) h),fun h => fu2 (mark_of (by decide) h),fun h => fu3 (mark_of (by decide) h),fun h => fu4 (mark_of (by decide) h),fun _ => rfl,fun _ => h6,fun h => fu7 (mark_of (by decide) h),fun h => fu8 (mark_of (by decide) h),fun h => fu9 (mark_of (by decide) h),fun h => fu10 (mark_of (by decide) h),fun h => fu11 (mark_of (by decide) h),fun h => fu12 (mark_of (by decide) h),fun h => (fu13 (mark_of (by decide) h)).below bu⟩
    ·refine wpOp_shut (by rfl) (fun K hK => ?_)
     simp only [Act.put,xL4,xL5,xL6]
     go_simp
     exact hK.out _ _ ⟨vu0,vu1,vu2,vu3,vu4,vu5,vu6,(.slice (some ⟨b,off,none⟩) n ct),vu8,vu9,vu10,vu11,vu12,vu13,by simp only [Act.put,xL4,xL5,xL6],hbu,fun h => fu0 (mark_of (by decide) h),fun h => fu1 (mark_of (by decide) h),fun h => fu2 (mark_of (by decide) h),fun h => fu3 (mark_of (by decide) h),fun h => fu4 (mark_of (by decide) h),fun h => fu5 (mark_of (by decide) h),fun h => fu6 (mark_of (by decide) h),fun _ => rfl,fun h => fu8 (mark_of (by decide) h),fun h => fu9 (mark_of (by decide) h),fun h => fu10 (mark_of (by decide) h),fun h => fu11 (mark_of (by decide) h),fun h => fu12 (mark_of (by decide) h),fun h => fu13 (mark_of (by decide) h)⟩
    ·refine wpOp_shut (by rfl) (fun K hK => ?_)
     simp only [Act.put,xL4,xL5,xL6]
     go_simp
     exact hK.out _ _ ⟨vu0,vu1,vu2,vu3,vu4,vu5,vu6,vu7,(.slice (some ⟨b,off,none⟩) n ct),vu9,vu10,vu11,vu12,vu13,by simp only [Act.put,xL4,xL5,xL6],hbu,fun h => fu0 (mark_of (by decide) h),fun h => fu1 (mark_of (by decide) h),fun h => fu2 (mark_of (by decide) h),fun h => fu3 (mark_of (by decide) h),fun h => fu4 (mark_of (by decide) h),fun h => fu5 (mark_of (by decide) h),fun h => fu6 (mark_of (by decide) h),fun h => fu7 (mark_of (by decide) h),fun _ => rfl,fun h => fu9 (mark_of (by decide) h),fun h => fu10 (mark_of (by decide) h),fun h => fu11 (mark_of (by decide) h),fun h => fu12 (mark_of (by decide) h),fun h => fu13 (mark_of (by decide) h)⟩
    ·refine wpOp_shut (by rfl) (fun K hK => ?_)
     simp only [Act.put,xL4,xL5,xL6]
     go_simp
     exact hK.out _ _ ⟨vu0,vu1,vu2,vu3,vu4,vu5,vu6,vu7,vu8,(.int .i64 (x : Int)),vu10,vu11,vu12,vu13,by simp only [Act.put,xL4,xL5,xL6],hbu,fun h => fu0 (mark_of (by decide) h),fun h => fu1 (mark_of (by decide) h),fun h => fu2 (mark_of (by decide) h),fun h => fu3 (mark_of (by decide) h),fun h => fu4 (mark_of (by decide) h),fun h => fu5 (mark_of (by decide) h),fun h => fu6 (mark_of (by decide) h),fun h => fu7 (mark_of (by decide) h),fun h => fu8 (mark_of (by decide) h),fun _ => rfl,fun h => fu10 (mark_of (by decide) h),fun h => fu11 (mark_of (by decide) h),fun h => fu12 (mark_of (by decide) h),fun h => fu13 (mark_of (by decide) h)⟩
    ·have eu8 := fu8 (dep_of 8 hru rfl (by kernel_rfl))
     have eu9 := fu9 (dep_of 9 hru rfl (by kernel_rfl))
     replace eu8 := eu8.symm
     subst eu8
     replace eu9 := eu9.symm
     subst eu9
     refine wpOp_shut (by rfl) (fun K hK => ?_)
     simp only [Act.put,xL4,xL5,xL6]
     go_simp
     exact hK.out _ _ ⟨vu0,vu1,vu2,vu3,vu4,vu5,vu6,vu7,(.slice (some ⟨b,off,none⟩) n ct),(.int .i64 (x : Int)),(.pointer (some ⟨b,off + x * 14,none⟩)),vu11,vu12,vu13,by simp only [Act.put,xL4,xL5,xL6],hbu,fun h => fu0 (mark_of (by decide) h),fun h => fu1 (mark_of (by decide) h),fun h => fu2 (mark_of (by decide) h),fun h => fu3 (mark_of (by decide) h),fun h => fu4 (mark_of (by decide) h),fun h => fu5 (mark_of (by decide) h),fun h => fu6 (mark_of (by decide) h),fun h => fu7 (mark_of (by decide) h),fun _ => rfl,fun _ => rfl,fun _ => rfl,fun h => fu11 (mark_of (by decide) h),fun h => fu12 (mark_of (by decide) h),fun h => fu13 (mark_of (by decide) h)⟩
    ·have eu10 := fu10 (dep_of 10 hru rfl (by kernel_rfl))
     replace eu10 := eu10.symm
     subst eu10
     refine wpOp_shut (by rfl) (fun K hK => ?_)
     simp only [Act.put,xL4,xL5,xL6]
     go_simp
     exact hK.out _ _ ⟨vu0,vu1,vu2,vu3,vu4,vu5,vu6,vu7,vu8,vu9,(.pointer (some ⟨b,off + x * 14,none⟩)),(.pointer (some ⟨b,off + x * 14 + 6,none⟩)),vu12,vu13,by simp only [Act.put,xL4,xL5,xL6],hbu,fun h => fu0 (mark_of (by decide) h),fun h => fu1 (mark_of (by decide) h),fun h => fu2 (mark_of (by decide) h),fun h => fu3 (mark_of (by decide) h),fun h => fu4 (mark_of (by decide) h),fun h => fu5 (mark_of (by decide) h),fun h => fu6 (mark_of (by decide) h),fun h => fu7 (mark_of (by decide) h),fun h => fu8 (mark_of (by decide) h),fun h => fu9 (mark_of (by decide) h),fun _ => rfl,fun _ => rfl,fun h => fu12 (mark_of (by decide) h),fun h => fu13 (mark_of (by decide) h)⟩
    ·have eu11 := fu11 (dep_of 11 hru rfl (by kernel_rfl))
     replace eu11 := eu11.symm
     subst eu11
     refine wpOp_shut (by rfl) (fun K hK => ?_)
     simp only [Act.put,xL4,xL5,xL6]
     have z1 := (X6.below hbu).cell
     go_simp
     exact hK.out _ _ ⟨vu0,vu1,vu2,vu3,vu4,vu5,vu6,vu7,vu8,vu9,vu10,(.pointer (some ⟨b,off + x * 14 + 6,none⟩)),(.int .i64 (rr : Int)),vu13,by simp only [Act.put,xL4,xL5,xL6],hbu,fun h => fu0 (mark_of (by decide) h),fun h => fu1 (mark_of (by decide) h),fun h => fu2 (mark_of (by decide) h),fun h => fu3 (mark_of (by decide) h),fun h => fu4 (mark_of (by decide) h),fun h => fu5 (mark_of (by decide) h),fun h => fu6 (mark_of (by decide) h),fun h => fu7 (mark_of (by decide) h),fun h => fu8 (mark_of (by decide) h),fun h => fu9 (mark_of (by decide) h),fun h => fu10 (mark_of (by decide) h),fun _ => rfl,fun _ => rfl,fun h => fu13 (mark_of (by decide) h)⟩
    ·have eu7 := fu7 (dep_of 7 hru rfl (by kernel_rfl))
     have eu12 := fu12 (dep_of 12 hru rfl (by kernel_rfl))
     replace eu7 := eu7.symm
     subst eu7
     replace eu12 := eu12.symm
     subst eu12
     have h6 := fu6 (dep_of 6 hru rfl (by kernel_rfl))
     refine wpOp_shut (by rfl) (fun K hK => ?_)
     simp only [Act.put,xL4,xL5,xL6]
     have ht := ht.below hbu
     go_simp
     refine (IH2.out _ ht).mono ?_
     rintro eu wx ⟨u13,rfl,h13,bu⟩
     replace h13 := h13.le (show w.heap.size ≤ _ from Nat.le_trans BB.size hbu.size)
     go_wp2_with fail
     have hbu2 := hbu.trans (bu.mono hbu.size)
     exact hK.out _ _ ⟨vu0,vu1,vu2,vu3,vu4,vu5,vu6,(.slice (some ⟨b,off,none⟩) n ct),vu8,vu9,vu10,vu11,(.int .i64 (rr : Int)),_,by simp only [Act.put,xL4,xL5,xL6],hbu2,fun h => fu0 (mark_of (by decide) h),fun h => fu1 (mark_of (by decide) h),fun h => fu2 (mark_of (by decide) h),fun h => fu3 (mark_of (by decide) h),fun h => fu4 (mark_of (by decide) h),fun h => fu5 (mark_of (by decide) h),fun h => (fu6 (mark_of (by decide) h)).below bu,fun _ => rfl,fun h => fu8 (mark_of (by decide) h),fun h => fu9 (mark_of (by decide) h),fun h => fu10 (mark_of (by decide) h),fun h => fu11 (mark_of (by decide) h),fun _ => rfl,fun _ => h13⟩
   rintro au Wu31 ⟨vu0,vu1,vu2,vu3,vu4,vu5,vu6,vu7,vu8,vu9,vu10,vu11,vu12,vu13,rfl,hbu,fu0,fu1,fu2,fu3,fu4,fu5,fu6,fu7,fu8,fu9,fu10,fu11,fu12,fu13⟩
   have eu0 := (fu0 rfl).symm
   subst eu0
   have eu1 := (fu1 rfl).symm
   subst eu1
   have eu2 := (fu2 rfl).symm
   subst eu2
   have eu3 := (fu3 rfl).symm
   subst eu3
   have eu4 := (fu4 rfl).symm
   subst eu4
   have eu5 := (fu5 rfl).symm
   subst eu5
   have h6 := fu6 rfl
   have eu7 := (fu7 rfl).symm
   subst eu7
   have eu8 := (fu8 rfl).symm
   subst eu8
   have eu9 := (fu9 rfl).symm
   subst eu9
   have eu10 := (fu10 rfl).symm
   subst eu10
   have eu11 := (fu11 rfl).symm
   subst eu11
   have eu12 := (fu12 rfl).symm
   subst eu12
   have h13 := fu13 rfl
   clear fu0 fu1 fu2 fu3 fu4 fu5 fu6 fu7 fu8 fu9 fu10 fu11 fu12 fu13
   replace ht := ht.below hbu
   replace BB := BB.xm hbu
   clear hbu
   simp only [Act.put,xL4,xL5,xL6]
   refine xR [14] (h := ?_)
   refine AllReadyH.cons (by rfl) (fun K hK => ?_) AllReadyH.nil
   obtain ⟨gl,cl,rfl,hcl⟩ := h6.open (by have := HLL.out; omega)
   obtain ⟨gu,cu,rfl,hcu⟩ := h13.open (by have := HLQ.out; omega)
   rw [HLL.out] at hcl
   rw [HLQ.out] at hcu
   have hF8 := int_len HLL.out h6
   have hcc : ∀ j u,(zr.map (fun x : Nat => Value.int .i64 (x : Int)))[j]? = some u → Wu31.cell? ((⟨gu,0,none⟩ : Addr).add j) = some u := World.ownsRow.cells h13 (g := gu) rfl
   have hnl : (zr.map (fun x : Nat => Value.int .i64 (x : Int))).length = lq * 1 := by rw [List.length_map,HLQ.out,Nat.mul_one]
   have h1c : ∀ u ∈ zr.map (fun x : Nat => Value.int .i64 (x : Int)),u.oneCell' = true := by intro u hu; rw [List.mem_map] at hu; obtain ⟨y,_,rfl⟩ := hu; rfl
   refine step_append_pureM (Q' := fun _ => False) (by rfl) _ _ _ (by rfl) w.heap.size 3 (.int .i64 0) 1 8 Tryz.underlying35 info_int (by rfl) (by omega) (.slice (some ⟨gl,0,none⟩) zl.length cl) (by rfl) ll (zl.map (fun x : Nat => Value.int .i64 (x : Int))) hF8 (fun _ _ _ _ _ h => h) ⟨gu,0,none⟩ lq cu (by omega) (by omega) (by rw [← HLQ.out]; rfl) (zr.map (fun x : Nat => Value.int .i64 (x : Int))) hnl hcc h1c (by simp) (by simp) (by omega) (by omega) BB.size ?_
   intro gn cn w8 hO8 hg8 hat8 _ _
   have BB8 : Below w.heap.size w w8 := below_grownB BB hg8 BB.size (fun g h => (h6.both g h).1)
   have hO9 := int_app HLL.out HLQ.out hO8
   clear hO8 hg8 hat8 hcc hnl h1c hF8
   refine hK.out _ _ trivial (fun _ => ?_)
   clear hK K
   simp only [Act.put,xL4,xL5,xL6]
   refine xR [15] (h := ?_)
   refine AllReadyH.cons (by rfl) (fun K hK => ?_) AllReadyH.nil
   go_simp
   refine hK.out _ _ trivial (fun _ => ?_)
   clear hK K
   simp only [Act.put,xL4,xL5,xL6]
   refine wpAnyH_done (by kernel_rfl) ?_ _
   go_wp2
   go_ret
   exact ⟨_,rfl,by rw [HWS.out]; exact hO9,BB8⟩
  ·have HW : Hid (lvs t n x = [x]) := lvs_leaf hlf
   clear hlf ht X5 X6
   have hF := int_first w x w.heap.size (Nat.le_refl _)
   have BB2 : Below w.heap.size w (w.alloc (.cells #[.int .i64 (x : Int)] 3)) := BB.alloc (Nat.le_refl _) _
   have Z0 := X0.cell
   go_enter Tryz.func10,Tryz.ntmps10
   go_wp2
   go_ret
   exact ⟨_,rfl,by rw [HW.out]; exact hF,BB2⟩
theorem lleaves_at (F : Int) (vt : Value) (n x : Nat) (t : Nat → Nd) (L : Nat) (w : World) (hm : MayT F t n) (hx : x < n) (ht : TRow w vt n t L) :
  Calls Tryz.prog 10 #[vt,.int .i64 (x : Int)] w fun e w' => ∃ u,e = .returned u ∧ IntOwn w.heap.size w' u (lvs t n x) ∧ Below w.heap.size w w' :=
 lleaves_ind F vt n t L hm (n + 1) x w hx (by omega) ht

theorem lvl_step11 {a b c d : Nat} (l : a = b + 1) (h : c ≤ b + (d + 1)) : c ≤ a + d := by omega
def Tup11 (w : World) (v : Value) (q : Rat) : Prop := ∃ x,v = .tuple #[x,.int .i64 0] ∧ RepQ w x q
theorem Tup11.below {w w' : World} {v : Value} {q : Rat} (h : Tup11 w v q) (hb : Below w.heap.size w w') : Tup11 w' v q := let ⟨x,e,hx⟩ := h; ⟨x,e,hx.below hb⟩
theorem Tup11.keep {w w' : World} {v : Value} {q : Rat} (h : Tup11 w v q) (hk : KeepQ IsNum w w') : Tup11 w' v q := let ⟨x,e,hx⟩ := h; ⟨x,e,hx.keep hk⟩

end Go.Proofs.YtbbliiafkjipbaaGreatDoor

namespace Go.Proofs.YtbbliiafkjipbaaGreatDoor
set_option linter.unusedVariables false
set_option linter.unusedSimpArgs false
theorem MRow.sz11 {w : World} {v : Value} {k : Nat} {N : Nat → Nat} {T : Nat → Nat → Nd} {L : Nat} (h : MRow w v k N T L) (hL : 1 ≤ L) {i : Nat} (hi : i < k) : ∀ j,j < N i → qsz (T i j).val ≤ L ∧ qsz (T i j).cov ≤ L := by
 obtain ⟨b,off,c,a,d,_,_,_,TR⟩ := h.at hi
 exact fun j hj => TR.sz11 hL hj
end Go.Proofs.YtbbliiafkjipbaaGreatDoor

namespace Go.Proofs.YtbbliiafkjipbaaGreatDoor
open Go.RowKit Go.Shelf
set_option linter.unusedVariables false
set_option linter.unusedSimpArgs false
attribute [local go_sem] Oper.semAt_some
end Go.Proofs.YtbbliiafkjipbaaGreatDoor

namespace Go.Proofs.YtbbliiafkjipbaaGreatDoor
open Go.RowKit
set_option linter.unusedVariables false
set_option linter.unusedSimpArgs false
theorem step_make11 {P : Program} (w : World) {ops : Array Oper} {o : Oper} {a : Act} {K : Act → World → Prop} {Q : Exit → Act → World → Prop} {E : Prop} {T : Array Value} (hg : o.guard = none) (l c : Operand) (t : TypeId) (hop : o.op = Op.makeSlice t l c)
  (base : Nat) (e : TypeId) (i : TypeInfo) (z : Value) (size : Nat) (h1 : P.underlying t = some (.slice e)) (h2 : P.info? e = some i) (h3 : i.zero = some z) (h4 : i.size = size)
  (kl kc : IntKind) (L C : Int) (n : Nat) (hl : a.eval l = .int kl L) (hc : a.eval c = .int kc C) (hL : L = (n : Int)) (hC : C = (n : Int)) (b2 : i.bytes * n ≤ 281474976710656) (b3 : n ≤ maxLen) (b4 : base ≤ w.heap.size)
  (hK : ∀ w',w'.ownsRow base e size (.slice (some ⟨w.heap.size,0,none⟩) n n) n (madeCells z.cells (n * size)).toList → w.grownBy w' none → K (a.put o.dst (.slice (some ⟨w.heap.size,0,none⟩) n n)) w') :
  if Region.wanted o (yielded ops T) = true then Oper.wp P o a w K Q else E := by
 have hw : Region.wanted o (yielded ops T) = true := by simp [Region.wanted,hg]
 rw [if_pos hw]
 obtain ⟨w',hrun,r1,r2⟩ := run_make_full (P := P) w base t e i z size h1 h2 h3 h4 kl kc n b2 b3 b4
 subst hL
 subst hC
 unfold Oper.wp
 simp [execOp,hop,hl,hc,hrun,Result.andThen]
 exact hK w' r1 r2
structure IAr (w : World) (g n : Nat) (f : Nat → Int) : Prop where
 cell : ∀ i,i < n → w.cell? ⟨g,i,none⟩ = some (.int .i64 (f i))
 soft : ∀ i,i < n → w.frozen? ⟨g,i,none⟩ = false
theorem IAr.lt {w : World} {g n : Nat} {f : Nat → Int} (h : IAr w g n f) (hn : 0 < n) : g < w.heap.size := World.block_lt_of_cell? _ _ (h.cell 0 hn)
theorem IAr.below {w w' : World} {g n : Nat} {f : Nat → Int} (h : IAr w g n f) (hb : Below w.heap.size w w') : IAr w' g n f :=
 ⟨fun i hi => (hb.cell (p := ⟨g,i,none⟩) (World.block_lt_of_cell? _ _ (h.cell i hi))).trans (h.cell i hi),fun i hi => (hb.frozen (p := ⟨g,i,none⟩) (World.block_lt_of_cell? _ _ (h.cell i hi))).trans (h.soft i hi)⟩
theorem IAr.block {w w' : World} {g n : Nat} {f : Nat → Int} (h : IAr w g n f) (hb : w'.heap[g]? = w.heap[g]?) : IAr w' g n f :=
 ⟨fun i hi => (World.cell?_of_block (a := ⟨g,i,none⟩) hb).trans (h.cell i hi),fun i hi => (World.frozen?_of_block (a := ⟨g,i,none⟩) hb).trans (h.soft i hi)⟩
theorem IAr.put {w : World} {g n : Nat} {f : Nat → Int} (h : IAr w g n f) {i : Nat} (hi : i < n) (v : Int) : IAr (w.setCell ⟨g,i,none⟩ (.int .i64 v)) g n (fun j => if j = i then v else f j) := by
 refine ⟨fun j hj => ?_,fun j hj => by simp [h.soft j hj]⟩
 by_cases e : j = i
 ·subst e
  rw [if_pos rfl]
  exact World.cell?_setCell_same _ _ _ (h.cell j hj)
 ·rw [if_neg e]
  exact cell_set_by (h.cell j hj) e
theorem IAr.keep {w : World} {g n : Nat} {f : Nat → Int} (h : IAr w g n f) {i : Nat} (hi : i < n) (v : Value) : KeepQ IsLimb w (w.setCell ⟨g,i,none⟩ v) := keepL_set (h.cell i hi) (limb_int _) v
theorem IAr.congr {w : World} {g n : Nat} {f f' : Nat → Int} (h : IAr w g n f) (e : ∀ j,j < n → f j = f' j) : IAr w g n f' := ⟨fun i hi => e i hi ▸ h.cell i hi,h.soft⟩
theorem V14.block11 {W W' : World} {R : Nat} {x0 x1 x2 x3 x4 x5 x6 x7 x8 x9 x10 x11 x12 x13 : Value} (h : V14 W R x0 x1 x2 x3 x4 x5 x6 x7 x8 x9 x10 x11 x12 x13) (hb : W'.heap[R]? = W.heap[R]?) : V14 W' R x0 x1 x2 x3 x4 x5 x6 x7 x8 x9 x10 x11 x12 x13 :=
 ⟨(World.cell?_of_block hb).trans h.c0,(World.cell?_of_block hb).trans h.c1,(World.cell?_of_block hb).trans h.c2,(World.cell?_of_block hb).trans h.c3,(World.cell?_of_block hb).trans h.c4,(World.cell?_of_block hb).trans h.c5,(World.cell?_of_block hb).trans h.c6,(World.cell?_of_block hb).trans h.c7,(World.cell?_of_block hb).trans h.c8,(World.cell?_of_block hb).trans h.c9,(World.cell?_of_block hb).trans h.c10,(World.cell?_of_block hb).trans h.c11,(World.cell?_of_block hb).trans h.c12,(World.cell?_of_block hb).trans h.c13⟩
def IMade (B n : Nat) (w : World) (v : Value) : Prop := ∃ g,v = .slice (some ⟨g,0,none⟩) n n ∧ B ≤ g ∧ IAr w g n (fun _ => 0)
theorem IMade.below {B n : Nat} {w w' : World} {v : Value} (h : IMade B n w v) (hb : Below w.heap.size w w') : IMade B n w' v := let ⟨g,e,hB,a⟩ := h; ⟨g,e,hB,a.below hb⟩
def QMade (B n L : Nat) (w : World) (v : Value) : Prop := ∃ g,v = .slice (some ⟨g,0,none⟩) n n ∧ B ≤ g ∧ GArr w g n (fun _ => 0) L
theorem QMade.below {B n L : Nat} {w w' : World} {v : Value} (h : QMade B n L w v) (hb : Below w.heap.size w w') : QMade B n L w' v := let ⟨g,e,hB,a⟩ := h; ⟨g,e,hB,a.below hb⟩
theorem GArr.block11 {w w' : World} {g n : Nat} {q : Nat → Rat} {L : Nat} (h : GArr w g n q L) (hb : w'.heap[g]? = w.heap[g]?) (hk : KeepQ IsLimb w w') : GArr w' g n q L := by
 obtain ⟨el,A,R⟩ := h
 exact ⟨el,⟨fun i hi j hj => (World.cell?_of_block (a := ⟨g,i * 3 + j,none⟩) hb).trans (A.1 i hi j hj),fun i hi j hj => (World.frozen?_of_block (a := ⟨g,i * 3 + j,none⟩) hb).trans (A.2.1 i hi j hj),A.2.2⟩,fun j hj => (R j hj).keepL hk⟩
def LookP (t : Nat → Nd) (r : Nat → Cl) (i : Nat) (fo : Nat → Int) (sh : Nat → Rat) : Prop := ∀ x,x < i → (t x).leaf = false → fo x = (nxt (t x) r : Int) ∧ sh (kl t x) = (t (kl t x)).cov / (t x).cov ∧ sh (kr t x) = (t (kr t x)).cov / (t x).cov
theorem LookP.leaf {t : Nat → Nd} {r : Nat → Cl} {i : Nat} {fo : Nat → Int} {sh : Nat → Rat} (h : LookP t r i fo sh) (hl : (t i).leaf = true) : LookP t r (i + 1) fo sh := fun x hx hx2 => by
 by_cases e : x = i
 ·subst e; rw [hl] at hx2; cases hx2
 ·exact h x (by omega) hx2
theorem MayT.kids_apart {F : Int} {t : Nat → Nd} {n : Nat} (h : MayT F t n) {x y : Nat} (hx : x < n) (hy : y < n) (lx : (t x).leaf = false) (ly : (t y).leaf = false) (hne : x ≠ y) : kl t x ≠ kl t y ∧ kl t x ≠ kr t y ∧ kr t x ≠ kl t y ∧ kr t x ≠ kr t y := by
 obtain ⟨e1,e2,a1,a2,a3,a4,_,_⟩ := h.kids hx lx
 obtain ⟨f1,f2,b1,b2,b3,b4,_,_⟩ := h.kids hy ly
 refine ⟨fun e => hne ?_,fun e => hne ?_,fun e => hne ?_,fun e => hne ?_⟩
 ·exact h.once.one a1 a2 hx hy ⟨lx,.inl e1⟩ ⟨ly,.inl (by rw [e]; exact f1)⟩
 ·exact h.once.one a1 a2 hx hy ⟨lx,.inl e1⟩ ⟨ly,.inr (by rw [e]; exact f2)⟩
 ·exact h.once.one a3 a4 hx hy ⟨lx,.inr e2⟩ ⟨ly,.inl (by rw [e]; exact f1)⟩
 ·exact h.once.one a3 a4 hx hy ⟨lx,.inr e2⟩ ⟨ly,.inr (by rw [e]; exact f2)⟩
theorem LookP.split {F : Int} {t : Nat → Nd} {r : Nat → Cl} {n i : Nat} {fo : Nat → Int} {sh : Nat → Rat} (h : LookP t r i fo sh) (hm : MayT F t n) (hi : i < n) (hl : (t i).leaf = false) : LookP t r (i + 1) (fun j => if j = i then (nxt (t i) r : Int) else fo j) (fun j => if j = kr t i then (t (kr t i)).cov / (t i).cov else if j = kl t i then (t (kl t i)).cov / (t i).cov else sh j) := fun x hx hx2 => by
 by_cases e : x = i
 ·subst e
  exact ⟨by dsimp only; rw [if_pos rfl],by dsimp only; rw [if_neg (hm.kl_ne_kr hi hl),if_pos rfl],by dsimp only; rw [if_pos rfl]⟩
 ·obtain ⟨a,b,c⟩ := h x (by omega) hx2
  obtain ⟨d1,d2,d3,d4⟩ := hm.kids_apart (show x < n by omega) hi hx2 hl e
  exact ⟨by dsimp only; rw [if_neg e]; exact a,by dsimp only; rw [if_neg d2,if_neg d1]; exact b,by dsimp only; rw [if_neg d4,if_neg d3]; exact c⟩
def VMade (B n L : Nat) (at_ : Option Addr) (ct : Nat) (w : World) (v : Value) : Prop := ∃ go gs,v = .agg #[.slice at_ n ct,.slice (some ⟨go,0,none⟩) n n,.slice (some ⟨gs,0,none⟩) n n] ∧ B ≤ go ∧ B ≤ gs ∧ IAr w go n (fun _ => 0) ∧ GArr w gs n (fun _ => 0) L
theorem VMade.below {B n L ct : Nat} {at_ : Option Addr} {w w' : World} {v : Value} (h : VMade B n L at_ ct w v) (hb : Below w.heap.size w w') : VMade B n L at_ ct w' v := let ⟨go,gs,e,h1,h2,a,b⟩ := h; ⟨go,gs,e,h1,h2,a.below hb,b.below hb⟩
set_option maxRecDepth 100000 in
set_option maxHeartbeats 16000000 in
theorem look_at (v vr : Value) (n nr : Nat) (t : Nat → Nd) (r : Nat → Cl) (L : Nat) (w : World) (hT : TRow w v n t L) (hR : CRow w vr nr r L) (hm : MayT (nr : Int) t n) (ht : Tab w) (hL : 1 ≤ L) (hL2 : L ≤ 10000) :
  Calls Tryz.prog 23 #[v,vr] w fun e w' => ∃ go gs sh,e = .returned (.agg #[v,.slice (some ⟨go,0,none⟩) n n,.slice (some ⟨gs,0,none⟩) n n]) ∧ w.heap.size ≤ go ∧ w.heap.size ≤ gs ∧ (∀ x,x < n → (t x).leaf = false → w'.cell? ⟨go,x,none⟩ = some (.int .i64 (nxt (t x) r : Int))) ∧ GArr w' gs n sh (2 * L) ∧ (∀ x,x < n → (t x).leaf = false → sh (kl t x) = (t (kl t x)).cov / (t x).cov ∧ sh (kr t x) = (t (kr t x)).cov / (t x).cov) ∧ Below w.heap.size w w' := by
 obtain ⟨at_,ct,rfl,htc,ht63⟩ := hT.open
 obtain ⟨ar,cr,rfl,hrc,hr63⟩ := hR.open
 obtain ⟨i0,hi,hz0,hz1,hz2⟩ := info_parts info_wrat
 obtain ⟨i1,hj,hy0,hy1,hy2⟩ := info_parts info_int
 have HT0 : Hid (TRow w (.slice at_ n ct) n t L) := hT
 have HR0 : Hid (CRow w (.slice ar nr cr) nr r L) := hR
 have HB0 : Hid (Tab w) := ht
 have HM : Hid (MayT (nr : Int) t n) := hm
 have hn0 : 0 < n := hm.pos
 have hn255 := hm.few
 have HZ : Hid (∀ i,i < n → qsz (t i).val ≤ L ∧ qsz (t i).cov ≤ L) := fun i hi => hT.sz11 hL hi
 clear hT hR ht hm
 have BB : Below w.heap.size w w := Below.refl _ _
 obtain ⟨Wb0,hW0,hS0,hL0,VR⟩ := V3.lay w 70 (.slice none 0 0) (.slice none 0 0) (.slice none 0 0)
 replace BB := BB.xm hL0
 clear hL0
 go_enter Tryz.func23,Tryz.ntmps23
 go_wp2
 rw [← hW0]
 clear hW0 hS0
 refine wp_region_until 9 #[true,true,true,true,true,true,true,true,true,false] (fun aF lsd a' w' => ∃ vu0 vu1 vu2 vu3 vu4 vu5 vu6 vu7 vu8 : Value,a' = ((((((((aF.put (some 8) vu0).put (some 9) vu1).put (some 10) vu2).put (some 11) vu3).put (some 12) vu4).put (some 13) vu5).put (some 14) vu6).put (some 15) vu7).put (some 5) vu8 ∧ Below Wb0.heap.size Wb0 w' ∧ (lsd.getD 0 false = true → vu0 = .slice at_ n ct) ∧ (lsd.getD 1 false = true → vu1 = .slice at_ n ct) ∧ (lsd.getD 2 false = true → vu2 = .int .i64 (n : Int)) ∧ (lsd.getD 3 false = true → IMade Wb0.heap.size n w' vu3) ∧ (lsd.getD 4 false = true → vu4 = .slice at_ n ct) ∧ (lsd.getD 5 false = true → vu5 = .int .i64 (n : Int)) ∧ (lsd.getD 6 false = true → QMade Wb0.heap.size n (2 * L) w' vu6) ∧ (lsd.getD 7 false = true → VMade Wb0.heap.size n (2 * L) at_ ct w' vu7) ∧ (lsd.getD 8 false = true → New3 Wb0.heap.size w' vu8 (.slice none 0 0) (.slice none 0 0) (.slice none 0 0))) (by kernel_rfl) (by decide) (by kernel_rfl) (by rfl) (by kernel_rfl) ?_ ?_ ?_
 ·exact ⟨_,_,_,_,_,_,_,_,_,by simp only [Act.put,xL4,xL5,xL6]; rfl,(Below.refl _ _).drew,fun h => absurd h (fun h => mark_none h),fun h => absurd h (fun h => mark_none h),fun h => absurd h (fun h => mark_none h),fun h => absurd h (fun h => mark_none h),fun h => absurd h (fun h => mark_none h),fun h => absurd h (fun h => mark_none h),fun h => absurd h (fun h => mark_none h),fun h => absurd h (fun h => mark_none h),fun h => absurd h (fun h => mark_none h)⟩
 ·rintro lsd au wn iu hszu ⟨vu0,vu1,vu2,vu3,vu4,vu5,vu6,vu7,vu8,rfl,hbu,fu0,fu1,fu2,fu3,fu4,fu5,fu6,fu7,fu8⟩ himu hru
  rcases (show iu = 0 ∨ iu = 1 ∨ iu = 2 ∨ iu = 3 ∨ iu = 4 ∨ iu = 5 ∨ iu = 6 ∨ iu = 7 ∨ iu = 8 by omega) with rfl | rfl | rfl | rfl | rfl | rfl | rfl | rfl | rfl
  ·refine wpOp_shut (by rfl) (fun K hK => ?_)
   simp only [Act.put,xL4,xL5,xL6]
   go_simp
   exact hK.out _ _ ⟨(.slice at_ n ct),vu1,vu2,vu3,vu4,vu5,vu6,vu7,vu8,by simp only [Act.put,xL4,xL5,xL6],hbu,fun _ => rfl,fun h => fu1 (mark_of (by decide) h),fun h => fu2 (mark_of (by decide) h),fun h => fu3 (mark_of (by decide) h),fun h => fu4 (mark_of (by decide) h),fun h => fu5 (mark_of (by decide) h),fun h => fu6 (mark_of (by decide) h),fun h => fu7 (mark_of (by decide) h),fun h => fu8 (mark_of (by decide) h)⟩
  ·refine wpOp_shut (by rfl) (fun K hK => ?_)
   simp only [Act.put,xL4,xL5,xL6]
   go_simp
   exact hK.out _ _ ⟨vu0,(.slice at_ n ct),vu2,vu3,vu4,vu5,vu6,vu7,vu8,by simp only [Act.put,xL4,xL5,xL6],hbu,fun h => fu0 (mark_of (by decide) h),fun _ => rfl,fun h => fu2 (mark_of (by decide) h),fun h => fu3 (mark_of (by decide) h),fun h => fu4 (mark_of (by decide) h),fun h => fu5 (mark_of (by decide) h),fun h => fu6 (mark_of (by decide) h),fun h => fu7 (mark_of (by decide) h),fun h => fu8 (mark_of (by decide) h)⟩
  ·have eu1 := fu1 (dep_of 1 hru rfl (by kernel_rfl))
   replace eu1 := eu1.symm
   subst eu1
   refine wpOp_shut (by rfl) (fun K hK => ?_)
   simp only [Act.put,xL4,xL5,xL6]
   go_simp
   exact hK.out _ _ ⟨vu0,(.slice at_ n ct),(.int .i64 (n : Int)),vu3,vu4,vu5,vu6,vu7,vu8,by simp only [Act.put,xL4,xL5,xL6],hbu,fun h => fu0 (mark_of (by decide) h),fun _ => rfl,fun _ => rfl,fun h => fu3 (mark_of (by decide) h),fun h => fu4 (mark_of (by decide) h),fun h => fu5 (mark_of (by decide) h),fun h => fu6 (mark_of (by decide) h),fun h => fu7 (mark_of (by decide) h),fun h => fu8 (mark_of (by decide) h)⟩
  ·have eu2 := fu2 (dep_of 2 hru rfl (by kernel_rfl))
   replace eu2 := eu2.symm
   subst eu2
   refine wpOp_shut (by simp only [xL1,xL2,xL3]; rfl) (fun K hK => ?_)
   simp only [Act.put,xL4,xL5,xL6]
   refine step_make11 wn (by rfl) _ _ 35 (by rfl) wn.heap.size 3 i1 (.int .i64 0) 1 Tryz.underlying35 hj hy0 hy1 .i64 .i64 (n : Int) (n : Int) n (by rfl) (by rfl) rfl rfl (by rw [hy2]; omega) (by unfold maxLen; omega) (Nat.le_refl _) ?_
   intro wx hown hgrow
   have bu : Below wn.heap.size wn wx := (Below.refl _ _).grown hgrow (Nat.le_refl _) (fun k e => by cases e)
   obtain ⟨hCi,hSi⟩ := mine_made (k := .i64) (w := wn) hown (fun _ => 0) (fun i hi => made_zero .i64 n i hi)
   have MX : IMade Wb0.heap.size n wx _ := ⟨_,rfl,hbu.size,⟨fun i hi => by have := hCi i hi; rw [Nat.zero_add] at this; exact this,fun i hi => by have := hSi i hi; rw [Nat.zero_add] at this; exact this⟩⟩
   clear hown hgrow hCi hSi
   have hbu2 := hbu.trans (bu.mono hbu.size)
   exact hK.out _ _ ⟨vu0,vu1,(.int .i64 (n : Int)),_,vu4,vu5,vu6,vu7,vu8,by simp only [Act.put,xL4,xL5,xL6],hbu2,fun h => fu0 (mark_of (by decide) h),fun h => fu1 (mark_of (by decide) h),fun _ => rfl,fun _ => MX,fun h => fu4 (mark_of (by decide) h),fun h => fu5 (mark_of (by decide) h),fun h => (fu6 (mark_of (by decide) h)).below bu,fun h => (fu7 (mark_of (by decide) h)).below bu,fun h => (fu8 (mark_of (by decide) h)).below bu⟩
  ·refine wpOp_shut (by rfl) (fun K hK => ?_)
   simp only [Act.put,xL4,xL5,xL6]
   go_simp
   exact hK.out _ _ ⟨vu0,vu1,vu2,vu3,(.slice at_ n ct),vu5,vu6,vu7,vu8,by simp only [Act.put,xL4,xL5,xL6],hbu,fun h => fu0 (mark_of (by decide) h),fun h => fu1 (mark_of (by decide) h),fun h => fu2 (mark_of (by decide) h),fun h => fu3 (mark_of (by decide) h),fun _ => rfl,fun h => fu5 (mark_of (by decide) h),fun h => fu6 (mark_of (by decide) h),fun h => fu7 (mark_of (by decide) h),fun h => fu8 (mark_of (by decide) h)⟩
  ·have eu4 := fu4 (dep_of 4 hru rfl (by kernel_rfl))
   replace eu4 := eu4.symm
   subst eu4
   refine wpOp_shut (by rfl) (fun K hK => ?_)
   simp only [Act.put,xL4,xL5,xL6]
   go_simp
   exact hK.out _ _ ⟨vu0,vu1,vu2,vu3,(.slice at_ n ct),(.int .i64 (n : Int)),vu6,vu7,vu8,by simp only [Act.put,xL4,xL5,xL6],hbu,fun h => fu0 (mark_of (by decide) h),fun h => fu1 (mark_of (by decide) h),fun h => fu2 (mark_of (by decide) h),fun h => fu3 (mark_of (by decide) h),fun _ => rfl,fun _ => rfl,fun h => fu6 (mark_of (by decide) h),fun h => fu7 (mark_of (by decide) h),fun h => fu8 (mark_of (by decide) h)⟩
  ·have eu5 := fu5 (dep_of 5 hru rfl (by kernel_rfl))
   replace eu5 := eu5.symm
   subst eu5
   refine wpOp_shut (by simp only [xL1,xL2,xL3]; rfl) (fun K hK => ?_)
   simp only [Act.put,xL4,xL5,xL6]
   refine step_make11 wn (by rfl) _ _ 68 (by rfl) wn.heap.size 42 i0 (.agg #[.bool false,.slice none 0 0,.slice none 0 0]) 3 Tryz.underlying68 hi hz0 hz1 .i64 .i64 (n : Int) (n : Int) n (by rfl) (by rfl) rfl rfl (by rw [hz2]; omega) (by unfold maxLen; omega) (Nat.le_refl _) ?_
   intro wx hown hgrow
   have bu : Below wn.heap.size wn wx := (Below.refl _ _).grown hgrow (Nat.le_refl _) (fun k e => by cases e)
   have MX : QMade Wb0.heap.size n (2 * L) wx _ := ⟨_,rfl,hbu.size,GArr.made hown (2 * L)⟩
   clear hown hgrow
   have hbu2 := hbu.trans (bu.mono hbu.size)
   exact hK.out _ _ ⟨vu0,vu1,vu2,vu3,vu4,(.int .i64 (n : Int)),_,vu7,vu8,by simp only [Act.put,xL4,xL5,xL6],hbu2,fun h => fu0 (mark_of (by decide) h),fun h => fu1 (mark_of (by decide) h),fun h => fu2 (mark_of (by decide) h),fun h => (fu3 (mark_of (by decide) h)).below bu,fun h => fu4 (mark_of (by decide) h),fun _ => rfl,fun _ => MX,fun h => (fu7 (mark_of (by decide) h)).below bu,fun h => (fu8 (mark_of (by decide) h)).below bu⟩
  ·have eu0 := fu0 (dep_of 0 hru rfl (by kernel_rfl))
   replace eu0 := eu0.symm
   subst eu0
   have MI := fu3 (dep_of 3 hru rfl (by kernel_rfl))
   have MQ := fu6 (dep_of 6 hru rfl (by kernel_rfl))
   obtain ⟨go,rfl,hgo,IA⟩ := MI
   obtain ⟨gs,rfl,hgs,GS⟩ := MQ
   refine wpOp_shut (by rfl) (fun K hK => ?_)
   simp only [Act.put,xL4,xL5,xL6]
   go_simp
   exact hK.out _ _ ⟨(.slice at_ n ct),vu1,vu2,(.slice (some ⟨go,0,none⟩) n n),vu4,vu5,(.slice (some ⟨gs,0,none⟩) n n),(.agg #[.slice at_ n ct,.slice (some ⟨go,0,none⟩) n n,.slice (some ⟨gs,0,none⟩) n n]),vu8,by simp only [Act.put,xL4,xL5,xL6],hbu,fun _ => rfl,fun h => fu1 (mark_of (by decide) h),fun h => fu2 (mark_of (by decide) h),fun h => fu3 (mark_of (by decide) h),fun h => fu4 (mark_of (by decide) h),fun h => fu5 (mark_of (by decide) h),fun h => fu6 (mark_of (by decide) h),fun _ => ⟨go,gs,rfl,hgo,hgs,IA,GS⟩,fun h => fu8 (mark_of (by decide) h)⟩
  ·refine wpOp_shut (by rfl) (fun K hK => ?_)
   simp only [Act.put,xL4,xL5,xL6]
   go_simp
   obtain ⟨wx,hWx,hSx,bu,VXu⟩ := V3.lay wn 70 (.slice none 0 0) (.slice none 0 0) (.slice none 0 0)
   rw [← hWx]
   have hbu2 := hbu.trans (bu.mono hbu.size)
   exact hK.out _ _ ⟨vu0,vu1,vu2,vu3,vu4,vu5,vu6,vu7,_,by simp only [Act.put,xL4,xL5,xL6],hbu2,fun h => fu0 (mark_of (by decide) h),fun h => fu1 (mark_of (by decide) h),fun h => fu2 (mark_of (by decide) h),fun h => (fu3 (mark_of (by decide) h)).below bu,fun h => fu4 (mark_of (by decide) h),fun h => fu5 (mark_of (by decide) h),fun h => (fu6 (mark_of (by decide) h)).below bu,fun h => (fu7 (mark_of (by decide) h)).below bu,fun _ => ⟨_,rfl,hbu.size,VXu⟩⟩
 rintro au Wu1 ⟨vu0,vu1,vu2,vu3,vu4,vu5,vu6,vu7,vu8,rfl,hbu,fu0,fu1,fu2,fu3,fu4,fu5,fu6,fu7,fu8⟩
 have eu0 := (fu0 rfl).symm
 subst eu0
 have eu1 := (fu1 rfl).symm
 subst eu1
 have eu2 := (fu2 rfl).symm
 subst eu2
 have MI := fu3 rfl
 have eu4 := (fu4 rfl).symm
 subst eu4
 have eu5 := (fu5 rfl).symm
 subst eu5
 have MQ := fu6 rfl
 have VB := fu7 rfl
 obtain ⟨RVV,rfl,hRVV,VV⟩ := fu8 rfl
 clear fu0 fu1 fu2 fu3 fu4 fu5 fu6 fu7 fu8
 have hlVR : w.heap.size < Wb0.heap.size := VR.lt
 replace VR := VR.below hbu
 replace BB := BB.xm hbu
 clear hbu
 simp only [Act.put,xL4,xL5,xL6]
 refine xR [9] (h := ?_)
 refine AllReadyH.cons (by rfl) (fun K hK => ?_) AllReadyH.nil
 obtain ⟨go,gs,rfl,hgo,hgs,IA,GS⟩ := VB
 clear MI MQ
 obtain ⟨v1,v2,v3,v4,v5,v6⟩ := id VV
 have hn1 : go ≠ RVV := fun e => by have := IA.cell 0 hn0; rw [e,v1] at this; cases this
 have hn2 : gs ≠ RVV := fun e => by obtain ⟨pp,_,_,_,_,_,_,h0,_,_,_⟩ := GS.at hn0; rw [e,Nat.zero_mul,v1] at h0; cases h0
 have hn3 : go ≠ gs := fun e => by obtain ⟨pp,_,_,_,_,_,_,h0,_,_,_⟩ := GS.at hn0; have := IA.cell 0 hn0; rw [e,← Nat.zero_mul 3,h0] at this; cases this
 have hn4 : w.heap.size ≠ RVV := by have := VR.lt; omega
 have hgl : go < Wu1.heap.size := IA.lt hn0
 have hsl : gs < Wu1.heap.size := GS.lt hn0
 have hvl : RVV < Wu1.heap.size := VV.lt
 have K1 := keepL_set v1 (limb_slice _ _ _) (.slice at_ n ct)
 have K2 := keepL_set (cell_set_by (u := .slice at_ n ct) (j := 0) v2 (by omega)) (limb_slice _ _ _) (.slice (some ⟨go,0,none⟩) n n)
 have K3 := keepL_set (cell_set_by (u := .slice (some ⟨go,0,none⟩) n n) (j := 1) (cell_set_by (u := .slice at_ n ct) (j := 0) v3 (by omega)) (by omega)) (limb_slice _ _ _) (.slice (some ⟨gs,0,none⟩) n n)
 have IA_n := ((IA.block (Below.heap_setCell _ _ _ _ hn1)).block (Below.heap_setCell _ _ _ _ hn1)).block (w' := ((Wu1.setCell ⟨RVV,0,none⟩ (.slice at_ n ct)).setCell ⟨RVV,1,none⟩ (.slice (some ⟨go,0,none⟩) n n)).setCell ⟨RVV,2,none⟩ (.slice (some ⟨gs,0,none⟩) n n)) (Below.heap_setCell _ _ _ _ hn1)
 have GS_n := ((GS.block11 (Below.heap_setCell _ _ _ _ hn2) K1).block11 (Below.heap_setCell _ _ _ _ hn2) K2).block11 (Below.heap_setCell _ _ _ _ hn2) K3
 have VR_n := ((VR.block11 (Below.heap_setCell _ _ _ _ hn4)).block11 (Below.heap_setCell _ _ _ _ hn4)).block11 (W' := ((Wu1.setCell ⟨RVV,0,none⟩ (.slice at_ n ct)).setCell ⟨RVV,1,none⟩ (.slice (some ⟨go,0,none⟩) n n)).setCell ⟨RVV,2,none⟩ (.slice (some ⟨gs,0,none⟩) n n)) (Below.heap_setCell _ _ _ _ hn4)
 have VV_n := VV.same (.slice at_ n ct) (.slice (some ⟨go,0,none⟩) n n) (.slice (some ⟨gs,0,none⟩) n n)
 have BB_n := below_store3 (R := RVV) BB (by omega) (.slice at_ n ct) (.slice (some ⟨go,0,none⟩) n n) (.slice (some ⟨gs,0,none⟩) n n)
 go_simp
 clear v1 v2 v3 v4 v5 v6 K1 K2 K3 VV IA GS VR BB
 generalize ((Wu1.setCell ⟨RVV,0,none⟩ (.slice at_ n ct)).setCell ⟨RVV,1,none⟩ (.slice (some ⟨go,0,none⟩) n n)).setCell ⟨RVV,2,none⟩ (.slice (some ⟨gs,0,none⟩) n n) = WQ at *
 have VV := VV_n
 have IA := IA_n
 have GS := GS_n
 have VR := VR_n
 have BB := BB_n
 clear VV_n IA_n GS_n VR_n BB_n
 refine hK.out _ _ trivial (fun _ => ?_)
 clear hK K
 simp only [Act.put,xL4,xL5,xL6]
 refine wpAnyH_done (by kernel_rfl) ?_ _
 go_wp2
 clear hi hz0 hz1 hz2 hj hy0 hy1 hy2
 have HLP : Hid (LookP t r 0 (fun _ => 0) (fun _ => 0)) := fun x hx => by omega
 have hB1 : w.heap.size ≤ go := by omega
 have hB2 : w.heap.size ≤ gs := by omega
 have hn7 : go ≠ w.heap.size := fun e => by have := IA.cell 0 hn0; rw [e,VR.1] at this; cases this
 have hn8 : gs ≠ w.heap.size := fun e => by obtain ⟨pp,_,_,_,_,_,_,h0,_,_,_⟩ := GS.at hn0; rw [e,Nat.zero_mul,VR.1] at h0; cases h0
 go_loopw [18] (fun vi wr => ∃ (i : Nat) (fo : Nat → Int) (sh : Nat → Rat),i ≤ n ∧ vi = .int .i64 (i : Int) ∧ IAr wr go n fo ∧ GArr wr gs n sh (2 * L) ∧ V3 wr RVV (.slice at_ n ct) (.slice (some ⟨go,0,none⟩) n n) (.slice (some ⟨gs,0,none⟩) n n) ∧ V3 wr w.heap.size (.slice none 0 0) (.slice none 0 0) (.slice none 0 0) ∧ Hid (LookP t r i fo sh) ∧ Below w.heap.size w wr) (fun vi _ => n - (intOf vi).toNat)
 case atStart => exact ⟨0,_,_,by omega,rfl,IA,GS,VV,VR,HLP,BB⟩
 case round =>
  clear IA GS VV VR HLP BB
  obtain ⟨i,fo,sh,hi,rfl,IA,GS,VV,VR,HLP,BB⟩ := hrel
  by_cases hlt : i < n
  ·have g0 : (0 : Int) ≤ (i : Int) := by omega
   have g1 : (i : Int) < (n : Int) := by omega
   obtain ⟨b,off,cc,p1,a1,n1,c1,b1,m1,d1,p2,a2,n2,c2,b2,m2,d2,p3,a3,n3,c3,b3,m3,d3,hvv,hcc,hc6,NN0,r1,r2,r3,i1_,i2_,i3_⟩ := HT0.out.at hlt
   cases hvv
   have NN := NN0.below BB
   have H1 : Hid (RatAt w (.agg #[.bool p1,.slice a1 n1 c1,.slice b1 m1 d1]) (t i).cut L) := r1
   have H3 : Hid (RatAt w (.agg #[.bool p3,.slice a3 n3 c3,.slice b3 m3 d3]) (t i).cov L) := r3
   clear r1 r2 r3 i1_ i2_ i3_ NN0
   cases hlf : (t i).leaf
   ·obtain ⟨e1,e2,k1,k2,k3,k4,_,_⟩ := HM.out.kids hlt hlf
    have HF := HM.out.feat i hlt hlf
    obtain ⟨fn,hfn⟩ : ∃ fn : Nat,(t i).feat = (fn : Int) := ⟨(t i).feat.toNat,by omega⟩
    have hfl : fn < nr := by omega
    obtain ⟨ms,hms⟩ : ∃ z,(t i).miss = z := ⟨_,rfl⟩
    have HO : Hid (Go.Proofs.YtbbliiafkjipbaaGreatDoor.nxt (t i) r = if goL (t i) (r fn) = true then kl t i else kr t i) := by
     show Go.Proofs.YtbbliiafkjipbaaGreatDoor.nxt (t i) r = _
     unfold Go.Proofs.YtbbliiafkjipbaaGreatDoor.nxt kl kr
     rw [hfn]
     rfl
    have HL2 : Hid (LookP t r (i + 1) (fun j => if j = i then (Go.Proofs.YtbbliiafkjipbaaGreatDoor.nxt (t i) r : Int) else fo j) (fun j => if j = kr t i then (t (kr t i)).cov / (t i).cov else if j = kl t i then (t (kl t i)).cov / (t i).cov else sh j)) := HLP.out.split HM.out hlt hlf
    have HCV : Hid ((t i).cov ≠ 0) := fun e => by have := HM.out.cov i hlt; rw [e] at this; exact absurd this (by decide)
    have HCON : Hid (∀ (w : World) (h1 : RatAt w (.agg #[.bool p1,.slice a1 n1 c1,.slice b1 m1 d1]) (t i).cut L) p4 a4 b4 n4 c4 m4 d4 (h2 : RatAt w (.agg #[.bool p4,.slice a4 n4 c4,.slice b4 m4 d4]) (r fn).val L),Calls Tryz.prog 36 #[.agg #[.bool false,.int .i64 (fn : Int),.bool p1,.slice a1 n1 c1,.slice b1 m1 d1,.int .i64 (kl t i : Int),.int .i64 (kr t i : Int),.bool ms,.bool p2,.slice a2 n2 c2,.slice b2 m2 d2,.bool p3,.slice a3 n3 c3,.slice b3 m3 d3],.agg #[.bool (r fn).miss,.bool p4,.slice a4 n4 c4,.slice b4 m4 d4]] w fun e w' => e = .returned (.bool (goL (t i) (r fn))) ∧ Below w.heap.size w w') := fun w h1 p4 a4 b4 n4 c4 m4 d4 h2 => by
     have := rleft_at (t i) (r fn) p1 p2 p3 p4 a1 b1 a2 b2 a3 b3 a4 b4 n1 c1 m1 d1 n2 c2 m2 d2 n3 c3 m3 d3 n4 c4 m4 d4 L w h1 h2 hL (by omega)
     rw [hlf,hfn,e1,e2,hms] at this
     exact this
    rw [hlf,hfn,e1,e2,hms] at NN
    clear hlf hfn e1 e2 hms HF k1 k3 HLP
    generalize kl t i = lr at *
    generalize kr t i = rr at *
    have f0 : (0 : Int) ≤ (lr : Int) := by omega
    have f1 : (lr : Int) < (n : Int) := by omega
    have f2 : (0 : Int) ≤ (rr : Int) := by omega
    have f3 : (rr : Int) < (n : Int) := by omega
    have f4 : (0 : Int) ≤ (fn : Int) := by omega
    have f5 : (fn : Int) < (nr : Int) := by omega
    obtain ⟨N_0,N_1,N_2,N_3,N_4,N_5,N_6,N_7,N_8,N_9,N_10,N_11,N_12,N_13⟩ := id NN
    have hgl : go < wr.heap.size := IA.lt hn0
    have hne7 : go ≠ wr.heap.size := by omega
    have hvn : RVV ≠ wr.heap.size := Nat.ne_of_lt VV.lt
    have hA7 : Below wr.heap.size wr (wr.alloc (.cells #[.bool false,.int .i64 (fn : Int),.bool p1,.slice a1 n1 c1,.slice b1 m1 d1,.int .i64 (lr : Int),.int .i64 (rr : Int),.bool ms,.bool p2,.slice a2 n2 c2,.slice b2 m2 d2,.bool p3,.slice a3 n3 c3,.slice b3 m3 d3] 48)) := (Below.refl _ _).alloc (Nat.le_refl _) _
    have XI := (IA.below hA7).cell i hlt
    have YI := (IA.below hA7).soft i hlt
    obtain ⟨x1,x2,x3,x4,x5,x6⟩ := VV.below hA7
    have VN0 := (V14.lay wr 48 (.bool false) (.int .i64 (fn : Int)) (.bool p1) (.slice a1 n1 c1) (.slice b1 m1 d1) (.int .i64 (lr : Int)) (.int .i64 (rr : Int)) (.bool ms) (.bool p2) (.slice a2 n2 c2) (.slice b2 m2 d2) (.bool p3) (.slice a3 n3 c3) (.slice b3 m3 d3))
    obtain ⟨Wz,rfl,_,_,VNz,_⟩ := VN0
    obtain ⟨V_0,V_1,V_2,V_3,V_4,V_5,V_6,V_7,V_8,V_9,V_10,V_11,V_12,V_13⟩ := id VNz
    have K1 := IA.keep hlt (.int .i64 (rr : Int))
    have IA1 := IA.put hlt (rr : Int)
    have GS1 := GS.block11 (w' := wr.setCell ⟨go,i,none⟩ (.int .i64 (rr : Int))) (Below.heap_setCell _ _ _ _ (fun e => hn3 e.symm)) K1
    have VV1 := VV.block11 (W' := wr.setCell ⟨go,i,none⟩ (.int .i64 (rr : Int))) (Below.heap_setCell _ _ _ _ (fun e => hn1 e.symm))
    have VR1 := VR.block11 (W' := wr.setCell ⟨go,i,none⟩ (.int .i64 (rr : Int))) (Below.heap_setCell _ _ _ _ (fun e => hn7 e.symm))
    have BB1 := BB.setCell (p := ⟨go,i,none⟩) hB1 (.int .i64 (rr : Int))
    obtain ⟨W8,hW8,hS8,hL8,VN,FN⟩ := V14.lay (wr.setCell ⟨go,i,none⟩ (.int .i64 (rr : Int))) 48 (.bool false) (.int .i64 (fn : Int)) (.bool p1) (.slice a1 n1 c1) (.slice b1 m1 d1) (.int .i64 (lr : Int)) (.int .i64 (rr : Int)) (.bool ms) (.bool p2) (.slice a2 n2 c2) (.slice b2 m2 d2) (.bool p3) (.slice a3 n3 c3) (.slice b3 m3 d3)
    replace IA1 := IA1.below hL8
    replace GS1 := GS1.below hL8
    replace VV1 := VV1.below hL8
    replace VR1 := VR1.below hL8
    replace BB1 := BB1.trans (hL8.mono BB1.size)
    clear hL8
    have hSZ : (wr.setCell ⟨go,i,none⟩ (.int .i64 (rr : Int))).heap.size = wr.heap.size := by simp
    rw [hSZ] at VN hS8
    go_wp2
    rw [← hW8]
    clear V_0 V_1 V_2 V_3 V_4 V_5 V_6 V_7 V_8 V_9 V_10 V_11 V_12 V_13 N_0 N_1 N_2 N_3 N_4 N_5 N_6 N_7 N_8 N_9 N_10 N_11 N_12 N_13 XI YI x1 x2 x3 x4 x5 x6 VNz hA7 hW8 FN IA GS VV VR BB K1 NN hSZ
    have IA := IA1
    have GS := GS1
    have VV := VV1
    have VR := VR1
    have BB := BB1
    clear IA1 GS1 VV1 VR1 BB1
    generalize wr.heap.size = R8 at *
    obtain ⟨b4,off4,c94,p4,a4,n4,c4,bb4,m4,d4,hv4,hcc4,hc64,X0,X1,X2,X3,r4w⟩ := HR0.out.at hfl
    cases hv4
    obtain ⟨cm,hcm⟩ : ∃ z,(r fn).miss = z := ⟨_,rfl⟩
    rw [hcm] at X0 HCON
    clear hcm
    have QC0 : Quad10 w b4 (off4 + fn * 4) (.bool cm) (.bool p4) (.slice a4 n4 c4) (.slice bb4 m4 d4) := ⟨X0,X1,X2,X3⟩
    clear X0 X1 X2 X3
    have QC := QC0.below BB
    have r4 := r4w.below BB
    have r1 := H1.out.below BB
    clear QC0 r4w
    have hDr : Below W8.heap.size W8 W8.drew := (Below.refl _ _).drew
    replace IA := IA.below hDr
    replace GS := GS.below hDr
    replace VN := VN.below hDr
    replace QC := QC.below hDr
    replace r1 := r1.below hDr
    replace r4 := r4.below hDr
    replace VV := VV.below hDr
    replace VR := VR.below hDr
    replace BB := BB.xm hDr
    clear hDr
    refine wp_region_held_drew (S := (fun w' => w'.cell? ⟨R8,0,none⟩ = some (.bool false) ∧ w'.cell? ⟨R8,1,none⟩ = some (.int .i64 (fn : Int)) ∧ w'.cell? ⟨R8,2,none⟩ = some (.bool p1) ∧ w'.cell? ⟨R8,3,none⟩ = some (.slice a1 n1 c1) ∧ w'.cell? ⟨R8,4,none⟩ = some (.slice b1 m1 d1) ∧ w'.cell? ⟨R8,5,none⟩ = some (.int .i64 (lr : Int)) ∧ w'.cell? ⟨R8,6,none⟩ = some (.int .i64 (rr : Int)) ∧ w'.cell? ⟨R8,7,none⟩ = some (.bool ms) ∧ w'.cell? ⟨R8,8,none⟩ = some (.bool p2) ∧ w'.cell? ⟨R8,9,none⟩ = some (.slice a2 n2 c2) ∧ w'.cell? ⟨R8,10,none⟩ = some (.slice b2 m2 d2) ∧ w'.cell? ⟨R8,11,none⟩ = some (.bool p3) ∧ w'.cell? ⟨R8,12,none⟩ = some (.slice a3 n3 c3) ∧ w'.cell? ⟨R8,13,none⟩ = some (.slice b3 m3 d3) ∧ w'.cell? ⟨b4,off4 + fn * 4,none⟩ = some (.bool cm) ∧ w'.cell? ⟨b4,off4 + fn * 4 + 1,none⟩ = some (.bool p4) ∧ w'.cell? ⟨b4,off4 + fn * 4 + 2,none⟩ = some (.slice a4 n4 c4) ∧ w'.cell? ⟨b4,off4 + fn * 4 + 3,none⟩ = some (.slice bb4 m4 d4))) (by kernel_rfl) ?_ (fun hHeld => ?_)
    ·exact ⟨VN.c0,VN.c1,VN.c2,VN.c3,VN.c4,VN.c5,VN.c6,VN.c7,VN.c8,VN.c9,VN.c10,VN.c11,VN.c12,VN.c13,QC.out.1,QC.out.2.1,QC.out.2.2.1,QC.out.2.2.2⟩
    generalize W8.drew = W81 at *
    refine xV 0 (h := ?_)
    refine xV 1 (h := ?_)
    refine xV 2 (h := ?_)
    refine xV 3 (h := ?_)
    refine xV 4 (h := ?_)
    refine xV 5 (h := ?_)
    refine xR [6] (h := ?_)
    refine xN (h := fun K hK => ?_)
    go_simp
    refine (HCON.out _ r1 _ _ _ _ _ _ _ r4).mono ?_
    rintro e w41 ⟨rfl,b41⟩
    obtain ⟨gg,hgg⟩ : ∃ gg,goL (t i) (r fn) = gg := ⟨_,rfl⟩
    rw [hgg] at HO ⊢
    clear hgg HCON
    go_wp2_with fail
    replace IA := IA.below b41
    replace GS := GS.below b41
    replace VN := VN.below b41
    replace QC := QC.below b41
    replace r1 := r1.below b41
    replace r4 := r4.below b41
    replace VV := VV.below b41
    replace VR := VR.below b41
    replace BB := BB.xm b41
    clear b41
    refine hK.out _ _ ?_ (fun hH1 => ?_)
    ·exact ⟨VN.c0,VN.c1,VN.c2,VN.c3,VN.c4,VN.c5,VN.c6,VN.c7,VN.c8,VN.c9,VN.c10,VN.c11,VN.c12,VN.c13,QC.out.1,QC.out.2.1,QC.out.2.2.1,QC.out.2.2.2⟩
    clear hK K hHeld
    (try simp only [Act.put,xL4,xL5,xL6])
    refine wpAnyH_done (by kernel_rfl) ?_ _
    clear hH1
    clear QC r1 r4
    have hgR : gs ≠ R8 := fun e => by obtain ⟨pp,aa,mm,dd,bb,kk,ee,h0,h1,h2,_⟩ := GS.at hn0; have := VN.c1; rw [e,Nat.zero_mul] at h1; rw [h1] at this; cases this
    have hgo8 : go ≠ R8 := fun e => by have h1 := IA.cell 0 hn0; have := VN.c0; rw [e] at h1; rw [h1] at this; cases this
    cases gg
    ·have HO2 : Go.Proofs.YtbbliiafkjipbaaGreatDoor.nxt (t i) r = rr := HO.out
     rw [HO2] at HL2
     clear HO HO2
     obtain ⟨V_0,V_1,V_2,V_3,V_4,V_5,V_6,V_7,V_8,V_9,V_10,V_11,V_12,V_13⟩ := id VN
     go_wp2
     clear V_0 V_1 V_2 V_3 V_4 V_5 V_6 V_7 V_8 V_9 V_10 V_11 V_12 V_13
     obtain ⟨bL,oL,ccL,p1L,a1L,n1L,c1L,b1L,m1L,d1L,p2L,a2L,n2L,c2L,b2L,m2L,d2L,p3L,a3L,n3L,c3L,b3L,m3L,d3L,hvvL,hccL,hc6L,NNL,r1L,r2L,r3L,i1L,i2L,i3L⟩ := HT0.out.at k2
     cases hvvL
     have XL0 : Hid (Cel10 w b (off + lr * 14 + 11) (.bool p3L)) := ⟨NNL.c11⟩
     have XL1 : Hid (Cel10 w b (off + lr * 14 + 11 + 1) (.slice a3L n3L c3L)) := ⟨NNL.c12⟩
     have XL2 : Hid (Cel10 w b (off + lr * 14 + 11 + 2) (.slice b3L m3L d3L)) := ⟨NNL.c13⟩
     have HcL : Hid (RatAt w (.agg #[.bool p3L,.slice a3L n3L c3L,.slice b3L m3L d3L]) (t lr).cov L) := r3L
     clear NNL r1L r2L r3L i1L i2L i3L
     have hDr : Below w41.heap.size w41 w41.drew := (Below.refl _ _).drew
     replace IA := IA.below hDr
     replace GS := GS.below hDr
     replace VN := VN.below hDr
     replace VV := VV.below hDr
     replace VR := VR.below hDr
     replace BB := BB.xm hDr
     clear hDr
     refine wp_region_held_drew (S := (fun w' => w'.cell? ⟨RVV,0,none⟩ = some (.slice (some ⟨b,off,none⟩) n ct) ∧ w'.cell? ⟨RVV,1,none⟩ = some (.slice (some ⟨go,0,none⟩) n n) ∧ w'.cell? ⟨RVV,2,none⟩ = some (.slice (some ⟨gs,0,none⟩) n n) ∧ w'.cell? ⟨R8,5,none⟩ = some (.int .i64 (lr : Int)) ∧ w'.cell? ⟨R8,11,none⟩ = some (.bool p3) ∧ w'.cell? ⟨R8,11 + 1,none⟩ = some (.slice a3 n3 c3) ∧ w'.cell? ⟨R8,11 + 2,none⟩ = some (.slice b3 m3 d3) ∧ w'.cell? ⟨b,off + lr * 14 + 11,none⟩ = some (.bool p3L) ∧ w'.cell? ⟨b,off + lr * 14 + 11 + 1,none⟩ = some (.slice a3L n3L c3L) ∧ w'.cell? ⟨b,off + lr * 14 + 11 + 2,none⟩ = some (.slice b3L m3L d3L))) (by kernel_rfl) ?_ (fun hHeld => ?_)
     ·exact ⟨VV.1,VV.2.1,VV.2.2.1,VN.c5,VN.c11,VN.c12,VN.c13,(XL0.out.below BB).cell,(XL1.out.below BB).cell,(XL2.out.below BB).cell⟩
     generalize w41.drew = W82 at *
     refine xV 0 (h := ?_)
     refine xV 1 (h := ?_)
     refine xV 2 (h := ?_)
     refine xV 3 (h := ?_)
     refine xV 4 (h := ?_)
     refine xV 5 (h := ?_)
     refine xV 6 (h := ?_)
     refine xV 7 (h := ?_)
     refine xV 8 (h := ?_)
     refine xV 9 (h := ?_)
     refine xV 10 (h := ?_)
     refine xV 11 (h := ?_)
     refine xR [12] (h := ?_)
     refine xN (h := fun K hK => ?_)
     go_simp
     refine (share_at _ _ (t lr).cov (t i).cov L _ (HcL.out.below BB) (H3.out.below BB) hL (by omega) (HB0.out.below BB) HCV.out).mono ?_
     rintro e w42 ⟨x6,rfl,hx,b42⟩
     obtain ⟨p6,a6,n6,c6,b6,m6,d6,rfl⟩ := hx.open
     go_wp2_with fail
     replace IA := IA.below b42
     replace GS := GS.below b42
     replace VN := VN.below b42
     replace VV := VV.below b42
     replace VR := VR.below b42
     replace BB := BB.xm b42
     clear b42
     refine hK.out _ _ ?_ (fun hH1 => ?_)
     ·exact ⟨VV.1,VV.2.1,VV.2.2.1,VN.c5,VN.c11,VN.c12,VN.c13,(XL0.out.below BB).cell,(XL1.out.below BB).cell,(XL2.out.below BB).cell⟩
     clear hK K hHeld
     (try simp only [Act.put,xL4,xL5,xL6])
     refine xV 13 (h := ?_)
     refine xR [14] (h := ?_)
     refine xN (h := fun K hK => ?_)
     obtain ⟨u0,u1,u2,s0,s1,s2,s3,s4,s5,GS2,KQ⟩ := GS.put k2 (hx.at _ (show _ ≤ 2 * L from Nat.le_trans (qsz_div _ _ (HZ.out lr k2).2 (HZ.out i hlt).2) (by omega)))
     have IA2 : IAr (((w42.setCell ⟨gs,lr * 3,none⟩ (.bool p6)).setCell ⟨gs,lr * 3 + 1,none⟩ (.slice a6 n6 c6)).setCell ⟨gs,lr * 3 + 2,none⟩ (.slice b6 m6 d6)) go n _ := IA.block (put3_block _ _ _ _ _ _ _ hn3)
     have VV2 : V3 (((w42.setCell ⟨gs,lr * 3,none⟩ (.bool p6)).setCell ⟨gs,lr * 3 + 1,none⟩ (.slice a6 n6 c6)).setCell ⟨gs,lr * 3 + 2,none⟩ (.slice b6 m6 d6)) RVV _ _ _ := VV.block11 (put3_block _ _ _ _ _ _ _ (fun e => hn2 e.symm))
     have VR2 : V3 (((w42.setCell ⟨gs,lr * 3,none⟩ (.bool p6)).setCell ⟨gs,lr * 3 + 1,none⟩ (.slice a6 n6 c6)).setCell ⟨gs,lr * 3 + 2,none⟩ (.slice b6 m6 d6)) w.heap.size _ _ _ := VR.block11 (put3_block _ _ _ _ _ _ _ (fun e => hn8 e.symm))
     have VN2 : V14 (((w42.setCell ⟨gs,lr * 3,none⟩ (.bool p6)).setCell ⟨gs,lr * 3 + 1,none⟩ (.slice a6 n6 c6)).setCell ⟨gs,lr * 3 + 2,none⟩ (.slice b6 m6 d6)) R8 _ _ _ _ _ _ _ _ _ _ _ _ _ _ := VN.block11 (put3_block _ _ _ _ _ _ _ (fun e => hgR e.symm))
     have BB2 : Below w.heap.size w (((w42.setCell ⟨gs,lr * 3,none⟩ (.bool p6)).setCell ⟨gs,lr * 3 + 1,none⟩ (.slice a6 n6 c6)).setCell ⟨gs,lr * 3 + 2,none⟩ (.slice b6 m6 d6)) := ((BB.setCell hB2 _).setCell hB2 _).setCell hB2 _
     go_simp
     clear s0 s1 s2 s3 s4 s5 KQ IA VV VR VN BB GS hx
     have IA := IA2
     have VV := VV2
     have VR := VR2
     have VN := VN2
     have BB := BB2
     have GS := GS2
     clear IA2 VV2 VR2 VN2 BB2 GS2
     generalize ((w42.setCell ⟨gs,lr * 3,none⟩ (.bool p6)).setCell ⟨gs,lr * 3 + 1,none⟩ (.slice a6 n6 c6)).setCell ⟨gs,lr * 3 + 2,none⟩ (.slice b6 m6 d6) = WPL at *
     refine hK.out _ _ ?_ (fun hH2 => ?_)
     ·exact ⟨VV.1,VV.2.1,VV.2.2.1,VN.c5,VN.c11,VN.c12,VN.c13,(XL0.out.below BB).cell,(XL1.out.below BB).cell,(XL2.out.below BB).cell⟩
     clear hK K hH1
     (try simp only [Act.put,xL4,xL5,xL6])
     refine wpAnyH_done (by kernel_rfl) ?_ _
     clear hH2
     obtain ⟨V_0,V_1,V_2,V_3,V_4,V_5,V_6,V_7,V_8,V_9,V_10,V_11,V_12,V_13⟩ := id VN
     go_wp2
     clear V_0 V_1 V_2 V_3 V_4 V_5 V_6 V_7 V_8 V_9 V_10 V_11 V_12 V_13
     obtain ⟨bR,oR,ccR,p1R,a1R,n1R,c1R,b1R,m1R,d1R,p2R,a2R,n2R,c2R,b2R,m2R,d2R,p3R,a3R,n3R,c3R,b3R,m3R,d3R,hvvR,hccR,hc6R,NNR,r1R,r2R,r3R,i1R,i2R,i3R⟩ := HT0.out.at k4
     cases hvvR
     have XR0 : Hid (Cel10 w b (off + rr * 14 + 11) (.bool p3R)) := ⟨NNR.c11⟩
     have XR1 : Hid (Cel10 w b (off + rr * 14 + 11 + 1) (.slice a3R n3R c3R)) := ⟨NNR.c12⟩
     have XR2 : Hid (Cel10 w b (off + rr * 14 + 11 + 2) (.slice b3R m3R d3R)) := ⟨NNR.c13⟩
     have HcR : Hid (RatAt w (.agg #[.bool p3R,.slice a3R n3R c3R,.slice b3R m3R d3R]) (t rr).cov L) := r3R
     clear NNR r1R r2R r3R i1R i2R i3R
     have hDr : Below WPL.heap.size WPL WPL.drew := (Below.refl _ _).drew
     replace IA := IA.below hDr
     replace GS := GS.below hDr
     replace VN := VN.below hDr
     replace VV := VV.below hDr
     replace VR := VR.below hDr
     replace BB := BB.xm hDr
     clear hDr
     refine wp_region_held_drew (S := (fun w' => w'.cell? ⟨RVV,0,none⟩ = some (.slice (some ⟨b,off,none⟩) n ct) ∧ w'.cell? ⟨RVV,1,none⟩ = some (.slice (some ⟨go,0,none⟩) n n) ∧ w'.cell? ⟨RVV,2,none⟩ = some (.slice (some ⟨gs,0,none⟩) n n) ∧ w'.cell? ⟨R8,6,none⟩ = some (.int .i64 (rr : Int)) ∧ w'.cell? ⟨R8,11,none⟩ = some (.bool p3) ∧ w'.cell? ⟨R8,11 + 1,none⟩ = some (.slice a3 n3 c3) ∧ w'.cell? ⟨R8,11 + 2,none⟩ = some (.slice b3 m3 d3) ∧ w'.cell? ⟨b,off + rr * 14 + 11,none⟩ = some (.bool p3R) ∧ w'.cell? ⟨b,off + rr * 14 + 11 + 1,none⟩ = some (.slice a3R n3R c3R) ∧ w'.cell? ⟨b,off + rr * 14 + 11 + 2,none⟩ = some (.slice b3R m3R d3R))) (by kernel_rfl) ?_ (fun hHeld => ?_)
     ·exact ⟨VV.1,VV.2.1,VV.2.2.1,VN.c6,VN.c11,VN.c12,VN.c13,(XR0.out.below BB).cell,(XR1.out.below BB).cell,(XR2.out.below BB).cell⟩
     generalize WPL.drew = W83 at *
     refine xV 0 (h := ?_)
     refine xV 1 (h := ?_)
     refine xV 2 (h := ?_)
     refine xV 3 (h := ?_)
     refine xV 4 (h := ?_)
     refine xV 5 (h := ?_)
     refine xV 6 (h := ?_)
     refine xV 7 (h := ?_)
     refine xV 8 (h := ?_)
     refine xV 9 (h := ?_)
     refine xV 10 (h := ?_)
     refine xV 11 (h := ?_)
     refine xR [12] (h := ?_)
     refine xN (h := fun K hK => ?_)
     go_simp
     refine (share_at _ _ (t rr).cov (t i).cov L _ (HcR.out.below BB) (H3.out.below BB) hL (by omega) (HB0.out.below BB) HCV.out).mono ?_
     rintro e w43 ⟨x6,rfl,hx,b43⟩
     obtain ⟨p6,a6,n6,c6,b6,m6,d6,rfl⟩ := hx.open
     go_wp2_with fail
     replace IA := IA.below b43
     replace GS := GS.below b43
     replace VN := VN.below b43
     replace VV := VV.below b43
     replace VR := VR.below b43
     replace BB := BB.xm b43
     clear b43
     refine hK.out _ _ ?_ (fun hH1 => ?_)
     ·exact ⟨VV.1,VV.2.1,VV.2.2.1,VN.c6,VN.c11,VN.c12,VN.c13,(XR0.out.below BB).cell,(XR1.out.below BB).cell,(XR2.out.below BB).cell⟩
     clear hK K hHeld
     (try simp only [Act.put,xL4,xL5,xL6])
     refine xV 13 (h := ?_)
     refine xR [14] (h := ?_)
     refine xN (h := fun K hK => ?_)
     obtain ⟨u0,u1,u2,s0,s1,s2,s3,s4,s5,GS2,KQ⟩ := GS.put k4 (hx.at _ (show _ ≤ 2 * L from Nat.le_trans (qsz_div _ _ (HZ.out rr k4).2 (HZ.out i hlt).2) (by omega)))
     have IA2 : IAr (((w43.setCell ⟨gs,rr * 3,none⟩ (.bool p6)).setCell ⟨gs,rr * 3 + 1,none⟩ (.slice a6 n6 c6)).setCell ⟨gs,rr * 3 + 2,none⟩ (.slice b6 m6 d6)) go n _ := IA.block (put3_block _ _ _ _ _ _ _ hn3)
     have VV2 : V3 (((w43.setCell ⟨gs,rr * 3,none⟩ (.bool p6)).setCell ⟨gs,rr * 3 + 1,none⟩ (.slice a6 n6 c6)).setCell ⟨gs,rr * 3 + 2,none⟩ (.slice b6 m6 d6)) RVV _ _ _ := VV.block11 (put3_block _ _ _ _ _ _ _ (fun e => hn2 e.symm))
     have VR2 : V3 (((w43.setCell ⟨gs,rr * 3,none⟩ (.bool p6)).setCell ⟨gs,rr * 3 + 1,none⟩ (.slice a6 n6 c6)).setCell ⟨gs,rr * 3 + 2,none⟩ (.slice b6 m6 d6)) w.heap.size _ _ _ := VR.block11 (put3_block _ _ _ _ _ _ _ (fun e => hn8 e.symm))
     have VN2 : V14 (((w43.setCell ⟨gs,rr * 3,none⟩ (.bool p6)).setCell ⟨gs,rr * 3 + 1,none⟩ (.slice a6 n6 c6)).setCell ⟨gs,rr * 3 + 2,none⟩ (.slice b6 m6 d6)) R8 _ _ _ _ _ _ _ _ _ _ _ _ _ _ := VN.block11 (put3_block _ _ _ _ _ _ _ (fun e => hgR e.symm))
     have BB2 : Below w.heap.size w (((w43.setCell ⟨gs,rr * 3,none⟩ (.bool p6)).setCell ⟨gs,rr * 3 + 1,none⟩ (.slice a6 n6 c6)).setCell ⟨gs,rr * 3 + 2,none⟩ (.slice b6 m6 d6)) := ((BB.setCell hB2 _).setCell hB2 _).setCell hB2 _
     go_simp
     clear s0 s1 s2 s3 s4 s5 KQ IA VV VR VN BB GS hx
     have IA := IA2
     have VV := VV2
     have VR := VR2
     have VN := VN2
     have BB := BB2
     have GS := GS2
     clear IA2 VV2 VR2 VN2 BB2 GS2
     generalize ((w43.setCell ⟨gs,rr * 3,none⟩ (.bool p6)).setCell ⟨gs,rr * 3 + 1,none⟩ (.slice a6 n6 c6)).setCell ⟨gs,rr * 3 + 2,none⟩ (.slice b6 m6 d6) = WPR at *
     refine hK.out _ _ ?_ (fun hH2 => ?_)
     ·exact ⟨VV.1,VV.2.1,VV.2.2.1,VN.c6,VN.c11,VN.c12,VN.c13,(XR0.out.below BB).cell,(XR1.out.below BB).cell,(XR2.out.below BB).cell⟩
     clear hK K hH1
     (try simp only [Act.put,xL4,xL5,xL6])
     refine wpAnyH_done (by kernel_rfl) ?_ _
     clear hH2
     go_wp2
     go_roundw
     case rel => exact ⟨i + 1,_,_,by omega,by go_num,IA,GS,VV,VR,HL2,BB⟩
     case measure => simp [intOf]; omega
    ·have HO2 : Go.Proofs.YtbbliiafkjipbaaGreatDoor.nxt (t i) r = lr := HO.out
     rw [HO2] at HL2
     clear HO HO2
     have K1 := IA.keep hlt (.int .i64 (lr : Int))
     have IA1 := IA.put hlt (lr : Int)
     have GS1 := GS.block11 (w' := w41.setCell ⟨go,i,none⟩ (.int .i64 (lr : Int))) (Below.heap_setCell _ _ _ _ (fun e => hn3 e.symm)) K1
     have VV1 := VV.block11 (W' := w41.setCell ⟨go,i,none⟩ (.int .i64 (lr : Int))) (Below.heap_setCell _ _ _ _ (fun e => hn1 e.symm))
     have VR1 := VR.block11 (W' := w41.setCell ⟨go,i,none⟩ (.int .i64 (lr : Int))) (Below.heap_setCell _ _ _ _ (fun e => hn7 e.symm))
     have VN1 := VN.block11 (W' := w41.setCell ⟨go,i,none⟩ (.int .i64 (lr : Int))) (Below.heap_setCell _ _ _ _ (fun e => hgo8 e.symm))
     have BB1 := BB.setCell (p := ⟨go,i,none⟩) hB1 (.int .i64 (lr : Int))
     have XI := IA.cell i hlt
     have YI := IA.soft i hlt
     obtain ⟨x1,x2,x3,x4,x5,x6⟩ := id VV
     obtain ⟨V_0,V_1,V_2,V_3,V_4,V_5,V_6,V_7,V_8,V_9,V_10,V_11,V_12,V_13⟩ := id VN
     go_wp2
     clear XI YI x1 x2 x3 x4 x5 x6 K1 IA GS VV VR VN BB V_0 V_1 V_2 V_3 V_4 V_5 V_6 V_7 V_8 V_9 V_10 V_11 V_12 V_13
     have IA := IA1
     have GS := GS1
     have VV := VV1
     have VR := VR1
     have VN := VN1
     have BB := BB1
     clear IA1 GS1 VV1 VR1 VN1 BB1
     generalize w41.setCell ⟨go,i,none⟩ (.int .i64 (lr : Int)) = WS at *
     replace IA := IA.congr (f' := fun j => if j = i then ((lr : Nat) : Int) else fo j) (fun j _ => by by_cases e : j = i <;> simp [e])
     obtain ⟨bL,oL,ccL,p1L,a1L,n1L,c1L,b1L,m1L,d1L,p2L,a2L,n2L,c2L,b2L,m2L,d2L,p3L,a3L,n3L,c3L,b3L,m3L,d3L,hvvL,hccL,hc6L,NNL,r1L,r2L,r3L,i1L,i2L,i3L⟩ := HT0.out.at k2
     cases hvvL
     have XL0 : Hid (Cel10 w b (off + lr * 14 + 11) (.bool p3L)) := ⟨NNL.c11⟩
     have XL1 : Hid (Cel10 w b (off + lr * 14 + 11 + 1) (.slice a3L n3L c3L)) := ⟨NNL.c12⟩
     have XL2 : Hid (Cel10 w b (off + lr * 14 + 11 + 2) (.slice b3L m3L d3L)) := ⟨NNL.c13⟩
     have HcL : Hid (RatAt w (.agg #[.bool p3L,.slice a3L n3L c3L,.slice b3L m3L d3L]) (t lr).cov L) := r3L
     clear NNL r1L r2L r3L i1L i2L i3L
     have hDr : Below WS.heap.size WS WS.drew := (Below.refl _ _).drew
     replace IA := IA.below hDr
     replace GS := GS.below hDr
     replace VN := VN.below hDr
     replace VV := VV.below hDr
     replace VR := VR.below hDr
     replace BB := BB.xm hDr
     clear hDr
     refine wp_region_held_drew (S := (fun w' => w'.cell? ⟨RVV,0,none⟩ = some (.slice (some ⟨b,off,none⟩) n ct) ∧ w'.cell? ⟨RVV,1,none⟩ = some (.slice (some ⟨go,0,none⟩) n n) ∧ w'.cell? ⟨RVV,2,none⟩ = some (.slice (some ⟨gs,0,none⟩) n n) ∧ w'.cell? ⟨R8,5,none⟩ = some (.int .i64 (lr : Int)) ∧ w'.cell? ⟨R8,11,none⟩ = some (.bool p3) ∧ w'.cell? ⟨R8,11 + 1,none⟩ = some (.slice a3 n3 c3) ∧ w'.cell? ⟨R8,11 + 2,none⟩ = some (.slice b3 m3 d3) ∧ w'.cell? ⟨b,off + lr * 14 + 11,none⟩ = some (.bool p3L) ∧ w'.cell? ⟨b,off + lr * 14 + 11 + 1,none⟩ = some (.slice a3L n3L c3L) ∧ w'.cell? ⟨b,off + lr * 14 + 11 + 2,none⟩ = some (.slice b3L m3L d3L))) (by kernel_rfl) ?_ (fun hHeld => ?_)
     ·exact ⟨VV.1,VV.2.1,VV.2.2.1,VN.c5,VN.c11,VN.c12,VN.c13,(XL0.out.below BB).cell,(XL1.out.below BB).cell,(XL2.out.below BB).cell⟩
     generalize WS.drew = W82 at *
     refine xV 0 (h := ?_)
     refine xV 1 (h := ?_)
     refine xV 2 (h := ?_)
     refine xV 3 (h := ?_)
     refine xV 4 (h := ?_)
     refine xV 5 (h := ?_)
     refine xV 6 (h := ?_)
     refine xV 7 (h := ?_)
     refine xV 8 (h := ?_)
     refine xV 9 (h := ?_)
     refine xV 10 (h := ?_)
     refine xV 11 (h := ?_)
     refine xR [12] (h := ?_)
     refine xN (h := fun K hK => ?_)
     go_simp
     refine (share_at _ _ (t lr).cov (t i).cov L _ (HcL.out.below BB) (H3.out.below BB) hL (by omega) (HB0.out.below BB) HCV.out).mono ?_
     rintro e w42 ⟨x6,rfl,hx,b42⟩
     obtain ⟨p6,a6,n6,c6,b6,m6,d6,rfl⟩ := hx.open
     go_wp2_with fail
     replace IA := IA.below b42
     replace GS := GS.below b42
     replace VN := VN.below b42
     replace VV := VV.below b42
     replace VR := VR.below b42
     replace BB := BB.xm b42
     clear b42
     refine hK.out _ _ ?_ (fun hH1 => ?_)
     ·exact ⟨VV.1,VV.2.1,VV.2.2.1,VN.c5,VN.c11,VN.c12,VN.c13,(XL0.out.below BB).cell,(XL1.out.below BB).cell,(XL2.out.below BB).cell⟩
     clear hK K hHeld
     (try simp only [Act.put,xL4,xL5,xL6])
     refine xV 13 (h := ?_)
     refine xR [14] (h := ?_)
     refine xN (h := fun K hK => ?_)
     obtain ⟨u0,u1,u2,s0,s1,s2,s3,s4,s5,GS2,KQ⟩ := GS.put k2 (hx.at _ (show _ ≤ 2 * L from Nat.le_trans (qsz_div _ _ (HZ.out lr k2).2 (HZ.out i hlt).2) (by omega)))
     have IA2 : IAr (((w42.setCell ⟨gs,lr * 3,none⟩ (.bool p6)).setCell ⟨gs,lr * 3 + 1,none⟩ (.slice a6 n6 c6)).setCell ⟨gs,lr * 3 + 2,none⟩ (.slice b6 m6 d6)) go n _ := IA.block (put3_block _ _ _ _ _ _ _ hn3)
     have VV2 : V3 (((w42.setCell ⟨gs,lr * 3,none⟩ (.bool p6)).setCell ⟨gs,lr * 3 + 1,none⟩ (.slice a6 n6 c6)).setCell ⟨gs,lr * 3 + 2,none⟩ (.slice b6 m6 d6)) RVV _ _ _ := VV.block11 (put3_block _ _ _ _ _ _ _ (fun e => hn2 e.symm))
     have VR2 : V3 (((w42.setCell ⟨gs,lr * 3,none⟩ (.bool p6)).setCell ⟨gs,lr * 3 + 1,none⟩ (.slice a6 n6 c6)).setCell ⟨gs,lr * 3 + 2,none⟩ (.slice b6 m6 d6)) w.heap.size _ _ _ := VR.block11 (put3_block _ _ _ _ _ _ _ (fun e => hn8 e.symm))
     have VN2 : V14 (((w42.setCell ⟨gs,lr * 3,none⟩ (.bool p6)).setCell ⟨gs,lr * 3 + 1,none⟩ (.slice a6 n6 c6)).setCell ⟨gs,lr * 3 + 2,none⟩ (.slice b6 m6 d6)) R8 _ _ _ _ _ _ _ _ _ _ _ _ _ _ := VN.block11 (put3_block _ _ _ _ _ _ _ (fun e => hgR e.symm))
     have BB2 : Below w.heap.size w (((w42.setCell ⟨gs,lr * 3,none⟩ (.bool p6)).setCell ⟨gs,lr * 3 + 1,none⟩ (.slice a6 n6 c6)).setCell ⟨gs,lr * 3 + 2,none⟩ (.slice b6 m6 d6)) := ((BB.setCell hB2 _).setCell hB2 _).setCell hB2 _
     go_simp
     clear s0 s1 s2 s3 s4 s5 KQ IA VV VR VN BB GS hx
     have IA := IA2
     have VV := VV2
     have VR := VR2
     have VN := VN2
     have BB := BB2
     have GS := GS2
     clear IA2 VV2 VR2 VN2 BB2 GS2
     generalize ((w42.setCell ⟨gs,lr * 3,none⟩ (.bool p6)).setCell ⟨gs,lr * 3 + 1,none⟩ (.slice a6 n6 c6)).setCell ⟨gs,lr * 3 + 2,none⟩ (.slice b6 m6 d6) = WPL at *
     refine hK.out _ _ ?_ (fun hH2 => ?_)
     ·exact ⟨VV.1,VV.2.1,VV.2.2.1,VN.c5,VN.c11,VN.c12,VN.c13,(XL0.out.below BB).cell,(XL1.out.below BB).cell,(XL2.out.below BB).cell⟩
     clear hK K hH1
     (try simp only [Act.put,xL4,xL5,xL6])
     refine wpAnyH_done (by kernel_rfl) ?_ _
     clear hH2
     obtain ⟨V_0,V_1,V_2,V_3,V_4,V_5,V_6,V_7,V_8,V_9,V_10,V_11,V_12,V_13⟩ := id VN
     go_wp2
     clear V_0 V_1 V_2 V_3 V_4 V_5 V_6 V_7 V_8 V_9 V_10 V_11 V_12 V_13
     obtain ⟨bR,oR,ccR,p1R,a1R,n1R,c1R,b1R,m1R,d1R,p2R,a2R,n2R,c2R,b2R,m2R,d2R,p3R,a3R,n3R,c3R,b3R,m3R,d3R,hvvR,hccR,hc6R,NNR,r1R,r2R,r3R,i1R,i2R,i3R⟩ := HT0.out.at k4
     cases hvvR
     have XR0 : Hid (Cel10 w b (off + rr * 14 + 11) (.bool p3R)) := ⟨NNR.c11⟩
     have XR1 : Hid (Cel10 w b (off + rr * 14 + 11 + 1) (.slice a3R n3R c3R)) := ⟨NNR.c12⟩
     have XR2 : Hid (Cel10 w b (off + rr * 14 + 11 + 2) (.slice b3R m3R d3R)) := ⟨NNR.c13⟩
     have HcR : Hid (RatAt w (.agg #[.bool p3R,.slice a3R n3R c3R,.slice b3R m3R d3R]) (t rr).cov L) := r3R
     clear NNR r1R r2R r3R i1R i2R i3R
     have hDr : Below WPL.heap.size WPL WPL.drew := (Below.refl _ _).drew
     replace IA := IA.below hDr
     replace GS := GS.below hDr
     replace VN := VN.below hDr
     replace VV := VV.below hDr
     replace VR := VR.below hDr
     replace BB := BB.xm hDr
     clear hDr
     refine wp_region_held_drew (S := (fun w' => w'.cell? ⟨RVV,0,none⟩ = some (.slice (some ⟨b,off,none⟩) n ct) ∧ w'.cell? ⟨RVV,1,none⟩ = some (.slice (some ⟨go,0,none⟩) n n) ∧ w'.cell? ⟨RVV,2,none⟩ = some (.slice (some ⟨gs,0,none⟩) n n) ∧ w'.cell? ⟨R8,6,none⟩ = some (.int .i64 (rr : Int)) ∧ w'.cell? ⟨R8,11,none⟩ = some (.bool p3) ∧ w'.cell? ⟨R8,11 + 1,none⟩ = some (.slice a3 n3 c3) ∧ w'.cell? ⟨R8,11 + 2,none⟩ = some (.slice b3 m3 d3) ∧ w'.cell? ⟨b,off + rr * 14 + 11,none⟩ = some (.bool p3R) ∧ w'.cell? ⟨b,off + rr * 14 + 11 + 1,none⟩ = some (.slice a3R n3R c3R) ∧ w'.cell? ⟨b,off + rr * 14 + 11 + 2,none⟩ = some (.slice b3R m3R d3R))) (by kernel_rfl) ?_ (fun hHeld => ?_)
     ·exact ⟨VV.1,VV.2.1,VV.2.2.1,VN.c6,VN.c11,VN.c12,VN.c13,(XR0.out.below BB).cell,(XR1.out.below BB).cell,(XR2.out.below BB).cell⟩
     generalize WPL.drew = W83 at *
     refine xV 0 (h := ?_)
     refine xV 1 (h := ?_)
     refine xV 2 (h := ?_)
     refine xV 3 (h := ?_)
     refine xV 4 (h := ?_)
     refine xV 5 (h := ?_)
     refine xV 6 (h := ?_)
     refine xV 7 (h := ?_)
     refine xV 8 (h := ?_)
     refine xV 9 (h := ?_)
     refine xV 10 (h := ?_)
     refine xV 11 (h := ?_)
     refine xR [12] (h := ?_)
     refine xN (h := fun K hK => ?_)
     go_simp
     refine (share_at _ _ (t rr).cov (t i).cov L _ (HcR.out.below BB) (H3.out.below BB) hL (by omega) (HB0.out.below BB) HCV.out).mono ?_
     rintro e w43 ⟨x6,rfl,hx,b43⟩
     obtain ⟨p6,a6,n6,c6,b6,m6,d6,rfl⟩ := hx.open
     go_wp2_with fail
     replace IA := IA.below b43
     replace GS := GS.below b43
     replace VN := VN.below b43
     replace VV := VV.below b43
     replace VR := VR.below b43
     replace BB := BB.xm b43
     clear b43
     refine hK.out _ _ ?_ (fun hH1 => ?_)
     ·exact ⟨VV.1,VV.2.1,VV.2.2.1,VN.c6,VN.c11,VN.c12,VN.c13,(XR0.out.below BB).cell,(XR1.out.below BB).cell,(XR2.out.below BB).cell⟩
     clear hK K hHeld
     (try simp only [Act.put,xL4,xL5,xL6])
     refine xV 13 (h := ?_)
     refine xR [14] (h := ?_)
     refine xN (h := fun K hK => ?_)
     obtain ⟨u0,u1,u2,s0,s1,s2,s3,s4,s5,GS2,KQ⟩ := GS.put k4 (hx.at _ (show _ ≤ 2 * L from Nat.le_trans (qsz_div _ _ (HZ.out rr k4).2 (HZ.out i hlt).2) (by omega)))
     have IA2 : IAr (((w43.setCell ⟨gs,rr * 3,none⟩ (.bool p6)).setCell ⟨gs,rr * 3 + 1,none⟩ (.slice a6 n6 c6)).setCell ⟨gs,rr * 3 + 2,none⟩ (.slice b6 m6 d6)) go n _ := IA.block (put3_block _ _ _ _ _ _ _ hn3)
     have VV2 : V3 (((w43.setCell ⟨gs,rr * 3,none⟩ (.bool p6)).setCell ⟨gs,rr * 3 + 1,none⟩ (.slice a6 n6 c6)).setCell ⟨gs,rr * 3 + 2,none⟩ (.slice b6 m6 d6)) RVV _ _ _ := VV.block11 (put3_block _ _ _ _ _ _ _ (fun e => hn2 e.symm))
     have VR2 : V3 (((w43.setCell ⟨gs,rr * 3,none⟩ (.bool p6)).setCell ⟨gs,rr * 3 + 1,none⟩ (.slice a6 n6 c6)).setCell ⟨gs,rr * 3 + 2,none⟩ (.slice b6 m6 d6)) w.heap.size _ _ _ := VR.block11 (put3_block _ _ _ _ _ _ _ (fun e => hn8 e.symm))
     have VN2 : V14 (((w43.setCell ⟨gs,rr * 3,none⟩ (.bool p6)).setCell ⟨gs,rr * 3 + 1,none⟩ (.slice a6 n6 c6)).setCell ⟨gs,rr * 3 + 2,none⟩ (.slice b6 m6 d6)) R8 _ _ _ _ _ _ _ _ _ _ _ _ _ _ := VN.block11 (put3_block _ _ _ _ _ _ _ (fun e => hgR e.symm))
     have BB2 : Below w.heap.size w (((w43.setCell ⟨gs,rr * 3,none⟩ (.bool p6)).setCell ⟨gs,rr * 3 + 1,none⟩ (.slice a6 n6 c6)).setCell ⟨gs,rr * 3 + 2,none⟩ (.slice b6 m6 d6)) := ((BB.setCell hB2 _).setCell hB2 _).setCell hB2 _
     go_simp
     clear s0 s1 s2 s3 s4 s5 KQ IA VV VR VN BB GS hx
     have IA := IA2
     have VV := VV2
     have VR := VR2
     have VN := VN2
     have BB := BB2
     have GS := GS2
     clear IA2 VV2 VR2 VN2 BB2 GS2
     generalize ((w43.setCell ⟨gs,rr * 3,none⟩ (.bool p6)).setCell ⟨gs,rr * 3 + 1,none⟩ (.slice a6 n6 c6)).setCell ⟨gs,rr * 3 + 2,none⟩ (.slice b6 m6 d6) = WPR at *
     refine hK.out _ _ ?_ (fun hH2 => ?_)
     ·exact ⟨VV.1,VV.2.1,VV.2.2.1,VN.c6,VN.c11,VN.c12,VN.c13,(XR0.out.below BB).cell,(XR1.out.below BB).cell,(XR2.out.below BB).cell⟩
     clear hK K hH1
     (try simp only [Act.put,xL4,xL5,xL6])
     refine wpAnyH_done (by kernel_rfl) ?_ _
     clear hH2
     go_wp2
     go_roundw
     case rel => exact ⟨i + 1,_,_,by omega,by go_num,IA,GS,VV,VR,HL2,BB⟩
     case measure => simp [intOf]; omega
   ·have HL2 : Hid (LookP t r (i + 1) fo sh) := HLP.out.leaf hlf
    rw [hlf] at NN
    clear hlf
    obtain ⟨N_0,N_1,N_2,N_3,N_4,N_5,N_6,N_7,N_8,N_9,N_10,N_11,N_12,N_13⟩ := id NN
    obtain ⟨W7,hW7,hS7,hL7,VN,FN⟩ := V14.lay wr 48 (.bool true) (.int .i64 (t i).feat) (.bool p1) (.slice a1 n1 c1) (.slice b1 m1 d1) (.int .i64 (t i).left) (.int .i64 (t i).right) (.bool (t i).miss) (.bool p2) (.slice a2 n2 c2) (.slice b2 m2 d2) (.bool p3) (.slice a3 n3 c3) (.slice b3 m3 d3)
    replace IA := IA.below hL7
    replace GS := GS.below hL7
    replace VV := VV.below hL7
    replace VR := VR.below hL7
    replace BB := BB.xm hL7
    clear hL7
    obtain ⟨V_0,V_1,V_2,V_3,V_4,V_5,V_6,V_7,V_8,V_9,V_10,V_11,V_12,V_13⟩ := id VN
    rw [hW7] at V_0 V_1 V_2 V_3 V_4 V_5 V_6 V_7 V_8 V_9 V_10 V_11 V_12 V_13
    go_wp2
    rw [← hW7]
    go_roundw
    case rel => exact ⟨i + 1,fo,sh,by omega,by go_num,IA,GS,VV,VR,HL2,BB⟩
    case measure => simp [intOf]; omega
  ·obtain rfl : i = n := by omega
   have g1 : ¬ (i : Int) < (i : Int) := by omega
   obtain ⟨v1,v2,v3,v4,v5,v6⟩ := id VV
   obtain ⟨q1,q2,q3,q4,q5,q6⟩ := id VR
   have hn5 : go ≠ w.heap.size := fun e => by have := IA.cell 0 hn0; rw [e,q1] at this; cases this
   have hn6 : gs ≠ w.heap.size := fun e => by obtain ⟨pp,_,_,_,_,_,_,h0,_,_,_⟩ := GS.at hn0; rw [e,Nat.zero_mul,q1] at h0; cases h0
   have K1 := keepL_set q1 (limb_slice _ _ _) (.slice at_ i ct)
   have K2 := keepL_set (cell_set_by (u := .slice at_ i ct) (j := 0) q2 (by omega)) (limb_slice _ _ _) (.slice (some ⟨go,0,none⟩) i i)
   have K3 := keepL_set (cell_set_by (u := .slice (some ⟨go,0,none⟩) i i) (j := 1) (cell_set_by (u := .slice at_ i ct) (j := 0) q3 (by omega)) (by omega)) (limb_slice _ _ _) (.slice (some ⟨gs,0,none⟩) i i)
   have IA_n := ((IA.block (Below.heap_setCell _ _ _ _ hn5)).block (Below.heap_setCell _ _ _ _ hn5)).block (w' := ((wr.setCell ⟨w.heap.size,0,none⟩ (.slice at_ i ct)).setCell ⟨w.heap.size,1,none⟩ (.slice (some ⟨go,0,none⟩) i i)).setCell ⟨w.heap.size,2,none⟩ (.slice (some ⟨gs,0,none⟩) i i)) (Below.heap_setCell _ _ _ _ hn5)
   have GS_n := ((GS.block11 (Below.heap_setCell _ _ _ _ hn6) K1).block11 (Below.heap_setCell _ _ _ _ hn6) K2).block11 (Below.heap_setCell _ _ _ _ hn6) K3
   have BB_n := below_store3 (R := w.heap.size) BB (Nat.le_refl _) (.slice at_ i ct) (.slice (some ⟨go,0,none⟩) i i) (.slice (some ⟨gs,0,none⟩) i i)
   go_wp2
   (try simp only [Exit.inBlock,Exit.then])
   refine bodyPost_ret (v := .agg #[.slice at_ i ct,.slice (some ⟨go,0,none⟩) i i,.slice (some ⟨gs,0,none⟩) i i]) (by simp [results,go_sem,q1,q2,q3]) rfl ?_
   exact ⟨go,gs,rfl,hB1,hB2,fun x hx hl => by rw [← (HLP.out x hx hl).1]; exact IA_n.cell x hx,sh,GS_n,fun x hx hl => (HLP.out x hx hl).2,BB_n⟩

end Go.Proofs.YtbbliiafkjipbaaGreatDoor

namespace Go.Proofs.YtbbliiafkjipbaaGreatDoor
set_option linter.unusedVariables false
set_option linter.unusedSimpArgs false
theorem insP_len (p : Pt) : ∀ l : List Pt,(insP l p).length ≤ l.length + 1
 | [] => by simp [insP]
 | a :: l => by
  have := insP_len p l
  unfold insP
  split
  ·simp
  ·split
   ·simp
   ·simp; omega
theorem plN_len (t : Nat → Nd) (n : Nat) (r : Nat → Cl) : ∀ k x,(plN t n r k x).length ≤ k
 | 0,x => by simp [plN]
 | k + 1,x => by
  rw [plN]
  split
  ·simp
  ·cases upOf t x n with
   | none => simp
   | some p =>
    have h1 := insP_len (stepP t r p x) (plN t n r k p)
    have h2 := plN_len t n r k p
    show (insP (plN t n r k p) (stepP t r p x)).length ≤ k + 1
    omega
theorem pl_len (t : Nat → Nd) (n : Nat) (r : Nat → Cl) (x : Nat) : (pl t n r x).length ≤ n + 1 := plN_len t n r (n + 1) x
end Go.Proofs.YtbbliiafkjipbaaGreatDoor

namespace Go.Proofs.YtbbliiafkjipbaaGreatDoor
open Go.RowKit
set_option linter.unusedVariables false
set_option linter.unusedSimpArgs false
theorem srt_few {F : Nat} {l : List Pt} (h : SrtP l) (hF : ∀ a ∈ l,a.feat < F) : l.length ≤ F := by
 have h1 : (l.map Pt.feat).Nodup := List.pairwise_map.2 (h.imp (fun hab => Nat.ne_of_lt hab))
 have h2 := nodup_len F _ h1 (fun x hx => by obtain ⟨a,ha,rfl⟩ := List.mem_map.1 hx; exact hF a ha)
 rwa [List.length_map] at h2
def okD (t : Nat → Nd) (zs : List Nat) (k x : Nat) : Prop := x = 0 ∨ ∃ j y,j < k ∧ zs[j]? = some y ∧ (t y).leaf = false ∧ (x = kl t y ∨ x = kr t y)
theorem okD_at {F : Int} {t : Nat → Nd} {n : Nat} {r : Nat → Cl} {zs : List Nat} (hm : MayT F t n) (h : QInv t n r 0 zs zs.length) {k i : Nat} (hk : zs[k]? = some i) : okD t zs k i := by
 by_cases e : i = 0
 ·exact .inl e
 ·obtain ⟨j,y,hj,hy,hkid⟩ := h.up i (List.mem_of_getElem? hk) e
  have hyn := h.small y (List.mem_of_getElem? hy)
  have hl := hkid.1
  obtain ⟨e1,e2,_⟩ := hm.kids hyn hl
  have hc : i = kl t y ∨ i = kr t y := by
   rcases hkid.2 with g | g
   ·left; omega
   ·right; omega
  have hmem : i ∈ kidS t r 0 y := by
   unfold kidS
   rw [if_neg (by rw [hl]; simp),inS_none,if_neg (by simp)]
   simpa using hc
  obtain ⟨m,hjm,hm2⟩ := h.kids j y hj hy i hmem
  have hmk : m = k := (List.getElem?_inj (i := m) (j := k) (l := zs) (List.getElem?_eq_some_iff.1 hm2).1 h.nodup).1 (hm2.trans hk.symm)
  exact .inr ⟨j,y,by omega,hy,hl,hc⟩
theorem okD_all {F : Int} {t : Nat → Nd} {n : Nat} {r : Nat → Cl} {zs : List Nat} (hm : MayT F t n) (h : QInv t n r 0 zs zs.length) {x : Nat} (hx : x < n) : okD t zs zs.length x := by
 obtain ⟨k,hk⟩ := List.getElem?_of_mem (h.all hm x hx)
 rcases okD_at hm h hk with e | ⟨j,y,hj,hy,h1,h2⟩
 ·exact .inl e
 ·exact .inr ⟨j,y,(List.getElem?_eq_some_iff.1 hy).1,hy,h1,h2⟩
theorem okD_leaf {t : Nat → Nd} {zs : List Nat} {k i x : Nat} (hk : zs[k]? = some i) (hl : (t i).leaf = true) (h : okD t zs (k + 1) x) : okD t zs k x := by
 rcases h with h | ⟨j,y,hj,hy,h1,h2⟩
 ·exact .inl h
 ·refine .inr ⟨j,y,?_,hy,h1,h2⟩
  have : j ≠ k := fun e => by subst e; rw [hk] at hy; cases hy; rw [hl] at h1; cases h1
  omega
theorem okD_split {t : Nat → Nd} {zs : List Nat} {k i x : Nat} (hk : zs[k]? = some i) (h : okD t zs (k + 1) x) : (okD t zs k x ∨ x = kl t i) ∨ x = kr t i := by
 rcases h with h | ⟨j,y,hj,hy,h1,h2⟩
 ·exact .inl (.inl (.inl h))
 ·by_cases e : j = k
  ·subst e
   rw [hk] at hy
   cases hy
   rcases h2 with h2 | h2
   ·exact .inl (.inr h2)
   ·exact .inr h2
  ·exact .inl (.inl (.inr ⟨j,y,by omega,hy,h1,h2⟩))
def GoodP (M : Nat) (w : World) (g : Nat) (v : Value) (l : List Pt) : Prop := PRw M w v (l.map Pt.z) ∧ (l = [] → v = .slice none 0 0) ∧ ∀ b o n c,v = .slice (some ⟨b,o,none⟩) n c → b ≠ g
theorem GoodP.below {M : Nat} {w w' : World} {g : Nat} {v : Value} {l : List Pt} (h : GoodP M w g v l) (hb : Below w.heap.size w w') : GoodP M w' g v l := ⟨h.1.below hb,h.2⟩
theorem GoodP.set {M : Nat} {w : World} {g : Nat} {v : Value} {l : List Pt} (h : GoodP M w g v l) {x : Nat} {old : Value} (hc : w.cell? ⟨g,x,none⟩ = some old) (ho : ¬ IsLimb old) (u : Value) : GoodP M (w.setCell ⟨g,x,none⟩ u) g v l := by
 obtain ⟨⟨el,⟨a,c,e,h1,h2,h3⟩,h4⟩,h5,h6⟩ := h
 refine ⟨⟨el,⟨a,c,e,h1,h2,fun h0 => ?_⟩,fun i d hd => (ptEl M).keep (h4 i d hd) (keepL_set hc ho u)⟩,h5,h6⟩
 obtain ⟨b,off,rfl,hcell⟩ := h3 h0
 refine ⟨b,off,rfl,fun i hi j hj => ?_⟩
 have hne := h6 b off _ c e
 rw [World.cell?_setCell_other _ _ _ _ (fun e9 => hne (by have := congrArg Addr.block e9; first | exact this | exact this.symm))]
 exact hcell i hi j hj
def RArr (M : Nat) (w : World) (g n : Nat) (f : Nat → List Pt) (ok : Nat → Prop) : Prop := ∃ vs : Nat → Value,(∀ x,x < n → w.cell? ⟨g,x,none⟩ = some (vs x) ∧ w.frozen? ⟨g,x,none⟩ = false) ∧ (∀ x,x < n → ∃ a k c,vs x = .slice a k c) ∧ ∀ x,x < n → ok x → GoodP M w g (vs x) (f x)
theorem RArr.lt {M : Nat} {w : World} {g n : Nat} {f : Nat → List Pt} {ok : Nat → Prop} (h : RArr M w g n f ok) (h0 : 0 < n) : g < w.heap.size := by
 obtain ⟨vs,h1,_⟩ := h
 exact World.block_lt_of_cell? _ _ (h1 0 h0).1
theorem RArr.below {M : Nat} {w w' : World} {g n : Nat} {f : Nat → List Pt} {ok : Nat → Prop} (h : RArr M w g n f ok) (hb : Below w.heap.size w w') : RArr M w' g n f ok := by
 obtain ⟨vs,h1,h2,h3⟩ := h
 refine ⟨vs,fun x hx => ?_,h2,fun x hx ho => (h3 x hx ho).below hb⟩
 obtain ⟨c1,c2⟩ := h1 x hx
 have hl := World.block_lt_of_cell? _ _ c1
 exact ⟨(hb.cell (p := ⟨g,x,none⟩) hl).trans c1,(hb.frozen (p := ⟨g,x,none⟩) hl).trans c2⟩
theorem RArr.mono {M : Nat} {w : World} {g n : Nat} {f : Nat → List Pt} {ok ok' : Nat → Prop} (h : RArr M w g n f ok) (hi : ∀ x,ok' x → ok x) : RArr M w g n f ok' := by
 obtain ⟨vs,h1,h2,h3⟩ := h
 exact ⟨vs,h1,h2,fun x hx ho => h3 x hx (hi x ho)⟩
theorem RArr.at {M : Nat} {w : World} {g n : Nat} {f : Nat → List Pt} {ok : Nat → Prop} (h : RArr M w g n f ok) {x : Nat} (hx : x < n) (ho : ok x) : ∃ a k c,w.cell? ⟨g,x,none⟩ = some (.slice a k c) ∧ GoodP M w g (.slice a k c) (f x) := by
 obtain ⟨vs,h1,h2,h3⟩ := h
 obtain ⟨a,k,c,e⟩ := h2 x hx
 have := h3 x hx ho
 rw [e] at this
 exact ⟨a,k,c,by rw [← e]; exact (h1 x hx).1,this⟩
theorem RArr.put {M : Nat} {w : World} {g n : Nat} {f : Nat → List Pt} {ok : Nat → Prop} (h : RArr M w g n f ok) {x : Nat} (hx : x < n) {a : Option Addr} {k c : Nat} (hu : GoodP M w g (.slice a k c) (f x)) :
  (∃ a1 k1 c1,w.cell? ⟨g,x,none⟩ = some (.slice a1 k1 c1)) ∧ w.frozen? ⟨g,x,none⟩ = false ∧ RArr M (w.setCell ⟨g,x,none⟩ (.slice a k c)) g n f (fun y => ok y ∨ y = x) := by
 obtain ⟨vs,h1,h2,h3⟩ := h
 obtain ⟨a1,k1,c1,e⟩ := h2 x hx
 have hc := (h1 x hx).1
 have ho : ¬ IsLimb (vs x) := by rw [e]; exact limb_slice _ _ _
 refine ⟨⟨a1,k1,c1,by rw [← e]; exact hc⟩,(h1 x hx).2,fun y => if y = x then .slice a k c else vs y,fun y hy => ⟨?_,by simp [(h1 y hy).2]⟩,fun y hy => ?_,fun y hy hoy => ?_⟩
 ·dsimp only
  by_cases e1 : y = x
  ·subst e1
   rw [if_pos rfl]
   exact World.cell?_setCell_same _ _ _ hc
  ·rw [if_neg e1,World.cell?_setCell_other _ _ _ _ (fun e9 => e1 (by have := congrArg Addr.off e9; first | exact this | exact this.symm))]
   exact (h1 y hy).1
 ·by_cases e1 : y = x
  ·exact ⟨a,k,c,by dsimp only; rw [if_pos e1]⟩
  ·obtain ⟨a2,k2,c2,e2⟩ := h2 y hy
   exact ⟨a2,k2,c2,by dsimp only; rw [if_neg e1]; exact e2⟩
 ·by_cases e1 : y = x
  ·subst e1
   simp only [if_pos]
   exact hu.set hc ho _
  ·simp only [if_neg e1]
   exact (h3 y hy (hoy.resolve_right e1)).set hc ho _
theorem RArr.made {M : Nat} {w : World} {g n : Nat} {f : Nat → List Pt} (h : ∀ j,j < n → w.cell? ⟨g,j,none⟩ = some (.slice none 0 0) ∧ w.frozen? ⟨g,j,none⟩ = false) (h0 : f 0 = []) : RArr M w g n f (fun x => x = 0) := by
 refine ⟨fun _ => .slice none 0 0,h,fun x hx => ⟨_,_,_,rfl⟩,fun x hx e => ?_⟩
 subst e
 rw [h0]
 exact ⟨⟨fun _ _ => undef,⟨none,0,rfl,Nat.le_refl _,by omega,fun h => absurd h (by simp)⟩,fun i d hd => by simp at hd⟩,fun _ => rfl,fun b o n c e => by cases e⟩

theorem info_parts11 : (Tryz.prog.info? 43).map (fun i => (i.zero,i.size,i.bytes)) = some (some (.slice none 0 0),1,24) := by kernel_rfl
theorem made_nilp (n i : Nat) (h : i < n) : (madeCells (Value.slice none 0 0).cells (n * 1)).toList[i]? = some (.slice none 0 0) := by
 simp [madeCells,Value.cells,h,Nat.mod_one]
structure KNum (w0 w : World) : Prop where
 out : KeepQ IsNum w0 w
theorem KNum.below {w0 w w' : World} (h : KNum w0 w) (hb : Below w.heap.size w w') : KNum w0 w' := ⟨h.out.trans (KeepQ.below hb)⟩
theorem KNum.set {w0 w : World} {a : Addr} {old : Value} (h : KNum w0 w) (hc : w.cell? a = some old) (hn : ¬ IsNum old) (x : Value) : KNum w0 (w.setCell a x) := ⟨fun b o v hv hv2 => by
 have h1 := h.out b o v hv hv2
 rw [World.cell?_setCell_other _ _ _ _ (fun e => by rw [← e,hc] at h1; cases h1; exact hn hv)]
 exact h1⟩
def CelG (w : World) (g i : Nat) (v : Value) : Prop := w.cell? ⟨g,i,none⟩ = some v
theorem CelG.below {w w' : World} {g i : Nat} {v : Value} (h : CelG w g i v) (hb : Below w.heap.size w w') : CelG w' g i v := (hb.cell (p := ⟨g,i,none⟩) (World.block_lt_of_cell? _ _ h)).trans h
theorem CelG.set {w : World} {g i x : Nat} {v u : Value} (h : CelG w g i v) (hne : x ≠ i) : CelG (w.setCell ⟨g,x,none⟩ u) g i v := by
 unfold CelG
 rw [World.cell?_setCell_other _ _ _ _ (fun e9 => hne (by have := congrArg Addr.off e9; first | exact this | exact this.symm))]
 exact h
theorem V14.blockP {w w' : World} {R : Nat} {x0 x1 x2 x3 x4 x5 x6 x7 x8 x9 x10 x11 x12 x13 : Value} (h : V14 w R x0 x1 x2 x3 x4 x5 x6 x7 x8 x9 x10 x11 x12 x13) (hb : w'.heap[R]? = w.heap[R]?) : V14 w' R x0 x1 x2 x3 x4 x5 x6 x7 x8 x9 x10 x11 x12 x13 := by
 obtain ⟨h0,h1,h2,h3,h4,h5,h6,h7,h8,h9,h10,h11,h12,h13⟩ := h
 refine ⟨?_,?_,?_,?_,?_,?_,?_,?_,?_,?_,?_,?_,?_,?_⟩ <;> (refine (World.cell?_of_block (a := ⟨R,_,none⟩) hb).trans ?_; assumption)
set_option maxRecDepth 100000 in
set_option maxHeartbeats 8000000 in
theorem vparts_at (F : Int) (v : Value) (go gs n : Nat) (t : Nat → Nd) (r : Nat → Cl) (sh : Nat → Rat) (S L M : Nat) (w : World) (hT : TRow w v n t L) (hO : ∀ x,x < n → (t x).leaf = false → w.cell? ⟨go,x,none⟩ = some (.int .i64 (nxt (t x) r : Int))) (hSh : GArr w gs n sh (2 * L)) (hse : ∀ x,x < n → (t x).leaf = false → sh (kl t x) = (t (kl t x)).cov / (t x).cov ∧ sh (kr t x) = (t (kr t x)).cov / (t x).cov) (hm : MayT F t n) (hF : F ≤ 64) (hz : ∀ x y,x < n → y < n → qsz ((t x).cov / (t y).cov) ≤ S) (hS : 1 ≤ S) (hSM : (n + 1) * S ≤ M) (hLM : 2 * L ≤ M) (hM : M ≤ 100000) (ht : Tab w) :
  Calls Tryz.prog 24 #[.agg #[v,.slice (some ⟨go,0,none⟩) n n,.slice (some ⟨gs,0,none⟩) n n]] w fun e w' => ∃ g,e = .returned (.slice (some ⟨g,0,none⟩) n n) ∧ w.heap.size ≤ g ∧ RArr M w' g n (pl t n r) (fun _ => True) ∧ Below w.heap.size w w' := by
 obtain ⟨at_,ct,rfl,htc,ht63⟩ := hT.open
 obtain ⟨i0,hi,hz0,hz1,hz2⟩ := info_parts info_parts11
 have HT0 : Hid (TRow w (.slice at_ n ct) n t L) := hT
 have HTB : Hid (Tab w) := ht
 have HM : Hid (MayT F t n) := hm
 have HO : Hid (∀ x,x < n → (t x).leaf = false → w.cell? ⟨go,x,none⟩ = some (.int .i64 (nxt (t x) r : Int))) := hO
 have HSH : Hid (GArr w gs n sh (2 * L)) := hSh
 have HSE : Hid (∀ x,x < n → (t x).leaf = false → sh (kl t x) = (t (kl t x)).cov / (t x).cov ∧ sh (kr t x) = (t (kr t x)).cov / (t x).cov) := hse
 have HZS : Hid (∀ x y,x < n → y < n → qsz ((t x).cov / (t y).cov) ≤ S) := hz
 have hn0 : 0 < n := hm.pos
 have hn255 := hm.few
 clear hT ht hm hO hSh hse hz
 have BB : Below w.heap.size w w := Below.refl _ _
 obtain ⟨Wb0,hW0,hS0,hL0,VV⟩ := V3.lay w 70 (.slice at_ n ct) (.slice (some ⟨go,0,none⟩) n n) (.slice (some ⟨gs,0,none⟩) n n)
 replace BB := BB.xm hL0
 clear hL0
 go_enter Tryz.func24,Tryz.ntmps24
 obtain ⟨v0,v1,v2,v3,v4,v5⟩ := id VV
 rw [hW0] at v0 v1 v2
 clear v3 v4 v5
 go_wp2_with (at_make; rw [← hW0]; refine wpList_make_full _ rfl _ _ 67 rfl _ 43 i0 (.slice none 0 0) 1 Tryz.underlying67 hi hz0 hz1 _ _ _ _ n rfl rfl (by omega) (by omega) (by rw [hz2]; omega) (by unfold maxLen; omega) (Nat.le_refl _) ?_; intro w2 hown hgrow; have hb1 := below_grown hgrow; have VV2 := VV.below hb1; obtain ⟨v0,v1,v2,v3,v4,v5⟩ := id VV2; clear v1 v2 v3 v4 v5)
 have RA : RArr M w2 Wb0.heap.size n (pl t n r) (fun x => x = 0) := RArr.made (fun j hj => ⟨owns_cell hown (made_nilp n j hj),hown.frozenAt _⟩) (pl_root t n r)
 have hGV : Wb0.heap.size ≠ w.heap.size := fun e => by have := VV.lt; omega
 have hGB : w.heap.size ≤ Wb0.heap.size := BB.size
 replace BB := BB.xm hb1
 rw [hS0] at RA hGV hGB
 clear VV v0 hown hgrow hb1 hi hz0 hz1 hz2 hW0 hS0
 have VV := VV2
 clear VV2
 generalize w.heap.size + 1 = G at *
 refine (downwards_at F _ n t r L _ (HT0.out.below BB) HM.out hF).mono ?_
 rintro e w3 ⟨u,zs,rfl,hI,hQ,b3⟩
 have HQ : Hid (QInv t n r 0 zs zs.length) := hQ
 have HZL : Hid (zs.length = n) := hQ.full HM.out
 obtain ⟨b0,cz,rfl,hcz⟩ := hI.open (by have := HZL.out; omega)
 have HC : Hid (∀ j x : Nat,zs[j]? = some x → w3.cell? ⟨b0,j,none⟩ = some (.int .i64 (x : Int))) := fun j x hj => hI.cell rfl hj
 rw [HZL.out] at hcz ⊢
 replace RA := RA.below b3
 replace VV := VV.below b3
 replace BB := BB.xm b3
 clear b3 hI hQ
 have KN : KNum w3 w3 := ⟨KeepQ.refl _ _⟩
 have RA0 : RArr M w3 G n (pl t n r) (okD t zs 0) := RA.mono (fun x hx => by rcases hx with h | ⟨j,y,hj,_⟩; exact h; omega)
 clear RA
 go_wp2
 go_loopw [17] (fun vi wr => ∃ k : Nat,k ≤ n ∧ vi = .int .i64 (k : Int) ∧ RArr M wr G n (pl t n r) (okD t zs k) ∧ V3 wr w.heap.size (.slice at_ n ct) (.slice (some ⟨go,0,none⟩) n n) (.slice (some ⟨gs,0,none⟩) n n) ∧ KNum w3 wr ∧ Below w.heap.size w wr) (fun vi _ => n - (intOf vi).toNat)
 case atStart => exact ⟨0,by omega,rfl,RA0,VV,KN,BB⟩
 case round =>
  clear RA0 VV KN BB
  obtain ⟨k,hk,rfl,RA,VV,KN,BB⟩ := hrel
  by_cases hlt : k < n
  ·have g0 : (0 : Int) ≤ (k : Int) := by omega
   have g1 : (k : Int) < (n : Int) := by omega
   have wk : IntKind.i64.wrap ((k : Int) + 1) = (k : Int) + 1 := by rw [IntKind.wrap_i64]; omega
   obtain ⟨i,hi⟩ : ∃ i,zs[k]? = some i := ⟨_,List.getElem?_eq_getElem (by have := HZL.out; omega)⟩
   have HZI : Hid (zs[k]? = some i) := hi
   have hin : i < n := HQ.out.small i (List.mem_of_getElem? hi)
   have CI : wr.cell? ⟨b0,k,none⟩ = some (.int .i64 (i : Int)) := KN.out _ _ _ ⟨_,_,rfl⟩ (HC.out k i hi)
   clear hi
   have k0 : (0 : Int) ≤ (i : Int) := by omega
   have k1 : (i : Int) < (n : Int) := by omega
   obtain ⟨b,off,cc,p1,a1,n1,c1,b1,m1,d1,p2,a2,n2,c2,b2,m2,d2,p3,a3,n3,c3,b3,m3,d3,hvv,hcc,hc6,NN0,r1,r2,r3,i1_,i2_,i3_⟩ := HT0.out.at hin
   cases hvv
   have NN := NN0.below BB
   clear r1 r2 r3 i1_ i2_ i3_ NN0
   obtain ⟨v0,v1,v2,v3,v4,v5⟩ := id VV
   clear v1 v2 v3 v4 v5
   cases hlf : (t i).leaf
   ·have HLF : Hid ((t i).leaf = false) := hlf
    obtain ⟨e1,e2,a1l,a2l,a3l,a4l,l1,l2⟩ := HM.out.kids hin hlf
    have HFT := HM.out.feat i hin hlf
    obtain ⟨fn,hfn⟩ : ∃ fn : Nat,(t i).feat = (fn : Int) := ⟨(t i).feat.toNat,by omega⟩
    have HNC : Hid (1 ≤ kl t i ∧ kl t i < n ∧ 1 ≤ kr t i ∧ kr t i < n ∧ kl t i ≠ i ∧ kr t i ≠ i) := ⟨a1l,a2l,a3l,a4l,fun e => by rw [e] at l1; omega,fun e => by rw [e] at l2; omega⟩
    have HFN : Hid ((t i).feat = (fn : Int) ∧ fn < 64 ∧ (fn : Int) < F) := ⟨hfn,by omega,by omega⟩
    rw [hlf,hfn,e1,e2] at NN
    have HSP : Hid (∀ c,c = kl t i ∨ c = kr t i → sh c = (t c).cov / (t i).cov ∧ pl t n r c = insP (pl t n r i) (stepP t r i c)) := fun c hc => by
     rcases hc with rfl | rfl
     ·exact ⟨(HSE.out i hin hlf).1,HM.out.pl_kid r hin a2l a1l ⟨hlf,.inl e1⟩⟩
     ·exact ⟨(HSE.out i hin hlf).2,HM.out.pl_kid r hin a4l a3l ⟨hlf,.inr e2⟩⟩
    have HGO : Hid (w.cell? ⟨go,i,none⟩ = some (.int .i64 (nxt (t i) r : Int))) := HO.out i hin hlf
    clear hlf hfn e1 e2 a1l a2l a3l a4l l1 l2 HFT
    obtain ⟨lc,hlc⟩ : ∃ lc,kl t i = lc := ⟨_,rfl⟩
    obtain ⟨rc,hrc⟩ : ∃ rc,kr t i = rc := ⟨_,rfl⟩
    have HLR : Hid (kl t i = lc ∧ kr t i = rc) := ⟨hlc,hrc⟩
    rw [hlc,hrc] at NN HNC HSP
    clear hlc hrc
    have hGw : G < wr.heap.size := RA.lt hn0
    obtain ⟨N_0,N_1,N_2,N_3,N_4,N_5,N_6,N_7,N_8,N_9,N_10,N_11,N_12,N_13⟩ := id NN
    obtain ⟨W7,hW7,hS7,hL7,VN,FN⟩ := V14.lay wr 48 (.bool false) (.int .i64 (fn : Int)) (.bool p1) (.slice a1 n1 c1) (.slice b1 m1 d1) (.int .i64 (lc : Int)) (.int .i64 (rc : Int)) (.bool (t i).miss) (.bool p2) (.slice a2 n2 c2) (.slice b2 m2 d2) (.bool p3) (.slice a3 n3 c3) (.slice b3 m3 d3)
    replace BB := BB.xm hL7
    replace RA := RA.below hL7
    replace VV := VV.below hL7
    replace KN := KN.below hL7
    clear hL7
    obtain ⟨V_0,V_1,V_2,V_3,V_4,V_5,V_6,V_7,V_8,V_9,V_10,V_11,V_12,V_13⟩ := id VN
    rw [hW7] at V_0 V_1 V_2 V_3 V_4 V_5 V_6 V_7 V_8 V_9 V_10 V_11 V_12 V_13
    go_wp2_with fail
    rw [← hW7]
    clear hW7 hS7 FN V_0 V_1 V_2 V_3 V_4 V_5 V_6 V_7 V_8 V_9 V_10 V_11 V_12 V_13 N_0 N_1 N_2 N_3 N_4 N_5 N_6 N_7 N_8 N_9 N_10 N_11 N_12 N_13
    generalize wr.heap.size = R7 at *
    go_loopw [33] (fun vj wq => ∃ j : Nat,j ≤ 2 ∧ vj = .int .i64 (j : Int) ∧ RArr M wq G n (pl t n r) (fun x => okD t zs k x ∨ (1 ≤ j ∧ x = lc) ∨ (2 ≤ j ∧ x = rc)) ∧ V3 wq w.heap.size (.slice (some ⟨b,off,none⟩) n ct) (.slice (some ⟨go,0,none⟩) n n) (.slice (some ⟨gs,0,none⟩) n n) ∧ V14 wq R7 (.bool false) (.int .i64 (fn : Int)) (.bool p1) (.slice a1 n1 c1) (.slice b1 m1 d1) (.int .i64 (lc : Int)) (.int .i64 (rc : Int)) (.bool (t i).miss) (.bool p2) (.slice a2 n2 c2) (.slice b2 m2 d2) (.bool p3) (.slice a3 n3 c3) (.slice b3 m3 d3) ∧ KNum w3 wq ∧ Below w.heap.size w wq) (fun vj _ => 2 - (intOf vj).toNat)
    case atStart => exact ⟨0,by omega,rfl,RA.mono (fun x hx => by rcases hx with h | ⟨h,_⟩ | ⟨h,_⟩; exact h; omega; omega),VV,VN,KN,BB⟩
    case round =>
     clear RA VV VN KN BB
     obtain ⟨j,hj,rfl,RA,VV,VN,KN,BB⟩ := hrel
     rcases (show j = 0 ∨ j = 1 ∨ j = 2 by omega) with rfl | rfl | rfl
     ·obtain ⟨hs,hp⟩ := HSP.out lc (.inl rfl)
      have HCN : Hid (lc < n ∧ lc ≠ i) := ⟨HNC.out.2.1,HNC.out.2.2.2.2.1⟩
      have hcn : lc < n := HCN.out.1
      have hc0 : (0 : Int) ≤ (lc : Int) := by omega
      have hc1 : (lc : Int) < (n : Int) := by omega
      obtain ⟨a5,k5,c5,CG,GP⟩ := RA.at hin (.inl (okD_at HM.out HQ.out HZI.out))
      replace CG : CelG wr G i (.slice a5 k5 c5) := CG
      obtain ⟨p6,a6,n6,c6,y6,m6,d6,z0,z1,z2,hr6⟩ := HSH.out.at hcn
      have HR6 : Hid (RatAt w (.agg #[.bool p6,.slice a6 n6 c6,.slice y6 m6 d6]) (sh lc) M) := hr6.le hLM
      have HZ0 : Hid (w.cell? ⟨gs,lc * 3,none⟩ = some (.bool p6) ∧ w.cell? ⟨gs,lc * 3 + 1,none⟩ = some (.slice a6 n6 c6) ∧ w.cell? ⟨gs,lc * 3 + 2,none⟩ = some (.slice y6 m6 d6)) := ⟨z0,z1,z2⟩
      have HGS : Hid (gs < w.heap.size ∧ go < w.heap.size) := ⟨HSH.out.lt hn0,World.block_lt_of_cell? _ _ HGO.out⟩
      clear z0 z1 z2 hr6
      have HG2 := HGO.out
      obtain ⟨nx,hnx⟩ : ∃ nx,nxt (t i) r = nx := ⟨_,rfl⟩
      rw [hnx] at HG2
      replace HG2 : Hid (w.cell? ⟨go,i,none⟩ = some (.int .i64 (nx : Int))) := HG2
      obtain ⟨bk,hbk⟩ : ∃ bk,decide (nx = lc) = bk := ⟨_,rfl⟩
      have e9 : ((nx : Int) == (lc : Int)) = bk := by rw [← hbk,Bool.eq_iff_iff,beq_iff_eq,decide_eq_true_iff]; omega
      have e9b : decide ((nx : Int) = (lc : Int)) = bk := by rw [← hbk]; exact decide_eq_decide.2 (by omega)
      have HPL : Hid (pl t n r lc = insP (pl t n r i) ⟨fn,sh lc,bk⟩) := by
       show _ = _
       rw [hp]
       unfold stepP
       rw [HFN.out.1,Int.toNat_natCast,← hs,hnx,hbk]
      have hq6 : qsz (sh lc) ≤ S := by rw [hs]; exact HZS.out _ _ hcn hin
      have hlv := HM.out.lvl_le hin
      have PSM := HM.out.pl_small r hS HZS.out hin
      have HQS : Hid (∀ d ∈ pl t n r i,qsz (d.sh * sh lc) ≤ M) := fun d hd => by
       have h1 := qsz_mul _ _ (PSM d hd).2 hq6
       have h2 : lvl t n i * S + S ≤ (n + 1) * S := by
        rw [← Nat.succ_mul]
        exact Nat.mul_le_mul_right S (by omega)
       omega
      have HLN : Hid ((pl t n r i).length ≤ 1000) := by
       have h1 := srt_few (F := 64) (HM.out.pl_srt r i) (fun a ha => by have := (PSM a ha).1; omega)
       show _ ≤ _
       omega
      have HM1 : Hid (1 ≤ M) := Nat.le_trans hS (Nat.le_trans (Nat.le_mul_of_pos_left S (Nat.succ_pos n)) hSM)
      have HI64 : Hid (I64 ((fn : Nat) : Int)) := by have := HFN.out.2.1; show I64 _; unfold I64; omega
      clear hs hp hnx hbk hq6 hlv PSM
      have qix : ∀ w8 : World,Sem.run Tryz.prog (Instr.index 99 (.agg #[.int .i64 (lc : Int),.int .i64 (rc : Int)]) (.int .i64 0)) w8 = .ok (.int .i64 (lc : Int)) w8 := fun w8 => by kernel_rfl
      go_wp2_with fail
      have hDr : Below wr.heap.size wr wr.drew := (Below.refl _ _).drew
      replace RA := RA.below hDr
      replace VV := VV.below hDr
      replace VN := VN.below hDr
      replace KN := KN.below hDr
      replace CG := CG.below hDr
      replace GP := GP.below hDr
      replace BB := BB.xm hDr
      clear hDr
      refine wp_region_held_drew (S := (fun w' => w'.cell? ⟨G,i,none⟩ = some (.slice a5 k5 c5) ∧ w'.cell? ⟨R7,1,none⟩ = some (.int .i64 (fn : Int)) ∧ w'.cell? ⟨w.heap.size,2,none⟩ = some (.slice (some ⟨gs,0,none⟩) n n) ∧ w'.cell? ⟨w.heap.size,1,none⟩ = some (.slice (some ⟨go,0,none⟩) n n) ∧ w'.cell? ⟨gs,lc * 3,none⟩ = some (.bool p6) ∧ w'.cell? ⟨gs,lc * 3 + 1,none⟩ = some (.slice a6 n6 c6) ∧ w'.cell? ⟨gs,lc * 3 + 2,none⟩ = some (.slice y6 m6 d6) ∧ w'.cell? ⟨go,i,none⟩ = some (.int .i64 (nx : Int)))) (by kernel_rfl) ?_ (fun hHeld => ?_)
      ·exact ⟨CG,VN.c1,VV.2.2.1,VV.2.1,(BB.cell (p := ⟨gs,lc * 3,none⟩) HGS.out.1).trans HZ0.out.1,(BB.cell (p := ⟨gs,lc * 3 + 1,none⟩) HGS.out.1).trans HZ0.out.2.1,(BB.cell (p := ⟨gs,lc * 3 + 2,none⟩) HGS.out.1).trans HZ0.out.2.2,(BB.cell (p := ⟨go,i,none⟩) HGS.out.2).trans HG2.out⟩
      generalize wr.drew = W41 at *
      refine xV 0 (h := ?_)
      refine xV 1 (h := ?_)
      refine xV 2 (h := ?_)
      refine xV 3 (h := ?_)
      refine xV 4 (h := ?_)
      refine xV 5 (h := ?_)
      refine xV 6 (h := ?_)
      refine xV 7 (h := ?_)
      refine xV 8 (h := ?_)
      refine xV 9 (h := ?_)
      refine xV 10 (h := ?_)
      refine xV 11 (h := ?_)
      refine xV 12 (h := ?_)
      refine xV 13 (h := ?_)
      refine xV 14 (h := ?_)
      refine xV 15 (h := ?_)
      refine xV 16 (h := ?_)
      refine xV 17 (h := ?_)
      refine xV 18 (h := ?_)
      refine xV 19 (h := ?_)
      refine xV 20 (h := ?_)
      refine xR [21] (h := ?_)
      refine xN (h := fun K hK => ?_)
      go_simp
      refine (laidp_at _ (pl t n r i) ⟨fn,sh lc,bk⟩ M p6 a6 y6 n6 c6 m6 d6 _ GP.1 GP.2.1 (HM.out.pl_srt r i) ((HR6.out.below BB)) HQS.out HLN.out HM1.out hM HI64.out (HTB.out.below BB)).mono ?_
      rintro e w21 ⟨v21,rfl,h21,hN21,b21⟩
      obtain ⟨a21,k21,c21,rfl⟩ : ∃ a k c,v21 = .slice a k c := by obtain ⟨a,c,e,_⟩ := GRow.open h21; exact ⟨_,_,_,e⟩
      have hGb := RA.lt hn0
      have GD : GoodP M w21 G (.slice a21 k21 c21) (pl t n r lc) := by rw [HPL.out]; exact ⟨h21,fun e => absurd e (insP_ne _ _),fun b8 o8 n8 c8 e8 => by have := hN21 b8 o8 n8 c8 e8; omega⟩
      clear h21 hN21 hGb
      go_wp2_with fail
      replace RA := RA.below b21
      replace VV := VV.below b21
      replace VN := VN.below b21
      replace KN := KN.below b21
      replace CG := CG.below b21
      replace GP := GP.below b21
      replace BB := BB.xm b21
      clear b21
      refine hK.out _ _ ?_ (fun hH1 => ?_)
      ·exact ⟨CG,VN.c1,VV.2.2.1,VV.2.1,(BB.cell (p := ⟨gs,lc * 3,none⟩) HGS.out.1).trans HZ0.out.1,(BB.cell (p := ⟨gs,lc * 3 + 1,none⟩) HGS.out.1).trans HZ0.out.2.1,(BB.cell (p := ⟨gs,lc * 3 + 2,none⟩) HGS.out.1).trans HZ0.out.2.2,(BB.cell (p := ⟨go,i,none⟩) HGS.out.2).trans HG2.out⟩
      clear hK K hHeld
      (try simp only [Act.put,xL4,xL5,xL6])
      refine xV 22 (h := ?_)
      refine xR [23] (h := ?_)
      refine xN (h := fun K hK => ?_)
      obtain ⟨⟨a7,k7,c7,C7⟩,s7,RA_n⟩ := RA.put hcn GD
      have VV_n : V3 (w21.setCell ⟨G,lc,none⟩ (.slice a21 k21 c21)) w.heap.size (.slice (some ⟨b,off,none⟩) n ct) (.slice (some ⟨go,0,none⟩) n n) (.slice (some ⟨gs,0,none⟩) n n) := VV.block11 (Below.heap_setCell _ _ _ _ (fun e => hGV e.symm))
      have VN_n : V14 (w21.setCell ⟨G,lc,none⟩ (.slice a21 k21 c21)) R7 (.bool false) (.int .i64 (fn : Int)) (.bool p1) (.slice a1 n1 c1) (.slice b1 m1 d1) (.int .i64 (lc : Int)) (.int .i64 (rc : Int)) (.bool (t i).miss) (.bool p2) (.slice a2 n2 c2) (.slice b2 m2 d2) (.bool p3) (.slice a3 n3 c3) (.slice b3 m3 d3) := VN.blockP (Below.heap_setCell _ _ _ _ (Nat.ne_of_gt hGw))
      have KN_n : KNum w3 (w21.setCell ⟨G,lc,none⟩ (.slice a21 k21 c21)) := KN.set C7 (num_slice _ _ _) _
      have CG_n : CelG (w21.setCell ⟨G,lc,none⟩ (.slice a21 k21 c21)) G i (.slice a5 k5 c5) := CG.set HCN.out.2
      have BB_n : Below w.heap.size w (w21.setCell ⟨G,lc,none⟩ (.slice a21 k21 c21)) := BB.setCell (p := ⟨G,lc,none⟩) hGB _
      go_simp
      clear C7 s7 RA VV VN KN CG GP GD BB
      generalize (w21.setCell ⟨G,lc,none⟩ (.slice a21 k21 c21)) = W9 at *
      have RA := RA_n
      have VV := VV_n
      have VN := VN_n
      have KN := KN_n
      have CG := CG_n
      have BB := BB_n
      clear RA_n VV_n VN_n KN_n CG_n BB_n
      refine hK.out _ _ ?_ (fun hH2 => ?_)
      ·exact ⟨CG,VN.c1,VV.2.2.1,VV.2.1,(BB.cell (p := ⟨gs,lc * 3,none⟩) HGS.out.1).trans HZ0.out.1,(BB.cell (p := ⟨gs,lc * 3 + 1,none⟩) HGS.out.1).trans HZ0.out.2.1,(BB.cell (p := ⟨gs,lc * 3 + 2,none⟩) HGS.out.1).trans HZ0.out.2.2,(BB.cell (p := ⟨go,i,none⟩) HGS.out.2).trans HG2.out⟩
      clear hK K hH1
      (try simp only [Act.put,xL4,xL5,xL6])
      refine wpAnyH_done (by kernel_rfl) ?_ _
      clear hH2
      have RA2 := RA.mono (ok' := fun x => okD t zs k x ∨ (1 ≤ 1 ∧ x = lc) ∨ (2 ≤ 1 ∧ x = rc)) (fun x hx => by rcases hx with h | ⟨_,h⟩ | ⟨h,_⟩; exact .inl (.inl h); exact .inr h; omega)
      clear RA CG
      go_wp2
      go_roundw
      case rel => exact ⟨1,by omega,by go_num,RA2,VV,VN,KN,BB⟩
      case measure => simp [intOf]
     ·obtain ⟨hs,hp⟩ := HSP.out rc (.inr rfl)
      have HCN : Hid (rc < n ∧ rc ≠ i) := ⟨HNC.out.2.2.2.1,HNC.out.2.2.2.2.2⟩
      have hcn : rc < n := HCN.out.1
      have hc0 : (0 : Int) ≤ (rc : Int) := by omega
      have hc1 : (rc : Int) < (n : Int) := by omega
      obtain ⟨a5,k5,c5,CG,GP⟩ := RA.at hin (.inl (okD_at HM.out HQ.out HZI.out))
      replace CG : CelG wr G i (.slice a5 k5 c5) := CG
      obtain ⟨p6,a6,n6,c6,y6,m6,d6,z0,z1,z2,hr6⟩ := HSH.out.at hcn
      have HR6 : Hid (RatAt w (.agg #[.bool p6,.slice a6 n6 c6,.slice y6 m6 d6]) (sh rc) M) := hr6.le hLM
      have HZ0 : Hid (w.cell? ⟨gs,rc * 3,none⟩ = some (.bool p6) ∧ w.cell? ⟨gs,rc * 3 + 1,none⟩ = some (.slice a6 n6 c6) ∧ w.cell? ⟨gs,rc * 3 + 2,none⟩ = some (.slice y6 m6 d6)) := ⟨z0,z1,z2⟩
      have HGS : Hid (gs < w.heap.size ∧ go < w.heap.size) := ⟨HSH.out.lt hn0,World.block_lt_of_cell? _ _ HGO.out⟩
      clear z0 z1 z2 hr6
      have HG2 := HGO.out
      obtain ⟨nx,hnx⟩ : ∃ nx,nxt (t i) r = nx := ⟨_,rfl⟩
      rw [hnx] at HG2
      replace HG2 : Hid (w.cell? ⟨go,i,none⟩ = some (.int .i64 (nx : Int))) := HG2
      obtain ⟨bk,hbk⟩ : ∃ bk,decide (nx = rc) = bk := ⟨_,rfl⟩
      have e9 : ((nx : Int) == (rc : Int)) = bk := by rw [← hbk,Bool.eq_iff_iff,beq_iff_eq,decide_eq_true_iff]; omega
      have e9b : decide ((nx : Int) = (rc : Int)) = bk := by rw [← hbk]; exact decide_eq_decide.2 (by omega)
      have HPL : Hid (pl t n r rc = insP (pl t n r i) ⟨fn,sh rc,bk⟩) := by
       show _ = _
       rw [hp]
       unfold stepP
       rw [HFN.out.1,Int.toNat_natCast,← hs,hnx,hbk]
      have hq6 : qsz (sh rc) ≤ S := by rw [hs]; exact HZS.out _ _ hcn hin
      have hlv := HM.out.lvl_le hin
      have PSM := HM.out.pl_small r hS HZS.out hin
      have HQS : Hid (∀ d ∈ pl t n r i,qsz (d.sh * sh rc) ≤ M) := fun d hd => by
       have h1 := qsz_mul _ _ (PSM d hd).2 hq6
       have h2 : lvl t n i * S + S ≤ (n + 1) * S := by
        rw [← Nat.succ_mul]
        exact Nat.mul_le_mul_right S (by omega)
       omega
      have HLN : Hid ((pl t n r i).length ≤ 1000) := by
       have h1 := srt_few (F := 64) (HM.out.pl_srt r i) (fun a ha => by have := (PSM a ha).1; omega)
       show _ ≤ _
       omega
      have HM1 : Hid (1 ≤ M) := Nat.le_trans hS (Nat.le_trans (Nat.le_mul_of_pos_left S (Nat.succ_pos n)) hSM)
      have HI64 : Hid (I64 ((fn : Nat) : Int)) := by have := HFN.out.2.1; show I64 _; unfold I64; omega
      clear hs hp hnx hbk hq6 hlv PSM
      have qix : ∀ w8 : World,Sem.run Tryz.prog (Instr.index 99 (.agg #[.int .i64 (lc : Int),.int .i64 (rc : Int)]) (.int .i64 1)) w8 = .ok (.int .i64 (rc : Int)) w8 := fun w8 => by kernel_rfl
      go_wp2_with fail
      have hDr : Below wr.heap.size wr wr.drew := (Below.refl _ _).drew
      replace RA := RA.below hDr
      replace VV := VV.below hDr
      replace VN := VN.below hDr
      replace KN := KN.below hDr
      replace CG := CG.below hDr
      replace GP := GP.below hDr
      replace BB := BB.xm hDr
      clear hDr
      refine wp_region_held_drew (S := (fun w' => w'.cell? ⟨G,i,none⟩ = some (.slice a5 k5 c5) ∧ w'.cell? ⟨R7,1,none⟩ = some (.int .i64 (fn : Int)) ∧ w'.cell? ⟨w.heap.size,2,none⟩ = some (.slice (some ⟨gs,0,none⟩) n n) ∧ w'.cell? ⟨w.heap.size,1,none⟩ = some (.slice (some ⟨go,0,none⟩) n n) ∧ w'.cell? ⟨gs,rc * 3,none⟩ = some (.bool p6) ∧ w'.cell? ⟨gs,rc * 3 + 1,none⟩ = some (.slice a6 n6 c6) ∧ w'.cell? ⟨gs,rc * 3 + 2,none⟩ = some (.slice y6 m6 d6) ∧ w'.cell? ⟨go,i,none⟩ = some (.int .i64 (nx : Int)))) (by kernel_rfl) ?_ (fun hHeld => ?_)
      ·exact ⟨CG,VN.c1,VV.2.2.1,VV.2.1,(BB.cell (p := ⟨gs,rc * 3,none⟩) HGS.out.1).trans HZ0.out.1,(BB.cell (p := ⟨gs,rc * 3 + 1,none⟩) HGS.out.1).trans HZ0.out.2.1,(BB.cell (p := ⟨gs,rc * 3 + 2,none⟩) HGS.out.1).trans HZ0.out.2.2,(BB.cell (p := ⟨go,i,none⟩) HGS.out.2).trans HG2.out⟩
      generalize wr.drew = W41 at *
      refine xV 0 (h := ?_)
      refine xV 1 (h := ?_)
      refine xV 2 (h := ?_)
      refine xV 3 (h := ?_)
      refine xV 4 (h := ?_)
      refine xV 5 (h := ?_)
      refine xV 6 (h := ?_)
      refine xV 7 (h := ?_)
      refine xV 8 (h := ?_)
      refine xV 9 (h := ?_)
      refine xV 10 (h := ?_)
      refine xV 11 (h := ?_)
      refine xV 12 (h := ?_)
      refine xV 13 (h := ?_)
      refine xV 14 (h := ?_)
      refine xV 15 (h := ?_)
      refine xV 16 (h := ?_)
      refine xV 17 (h := ?_)
      refine xV 18 (h := ?_)
      refine xV 19 (h := ?_)
      refine xV 20 (h := ?_)
      refine xR [21] (h := ?_)
      refine xN (h := fun K hK => ?_)
      go_simp
      refine (laidp_at _ (pl t n r i) ⟨fn,sh rc,bk⟩ M p6 a6 y6 n6 c6 m6 d6 _ GP.1 GP.2.1 (HM.out.pl_srt r i) ((HR6.out.below BB)) HQS.out HLN.out HM1.out hM HI64.out (HTB.out.below BB)).mono ?_
      rintro e w21 ⟨v21,rfl,h21,hN21,b21⟩
      obtain ⟨a21,k21,c21,rfl⟩ : ∃ a k c,v21 = .slice a k c := by obtain ⟨a,c,e,_⟩ := GRow.open h21; exact ⟨_,_,_,e⟩
      have hGb := RA.lt hn0
      have GD : GoodP M w21 G (.slice a21 k21 c21) (pl t n r rc) := by rw [HPL.out]; exact ⟨h21,fun e => absurd e (insP_ne _ _),fun b8 o8 n8 c8 e8 => by have := hN21 b8 o8 n8 c8 e8; omega⟩
      clear h21 hN21 hGb
      go_wp2_with fail
      replace RA := RA.below b21
      replace VV := VV.below b21
      replace VN := VN.below b21
      replace KN := KN.below b21
      replace CG := CG.below b21
      replace GP := GP.below b21
      replace BB := BB.xm b21
      clear b21
      refine hK.out _ _ ?_ (fun hH1 => ?_)
      ·exact ⟨CG,VN.c1,VV.2.2.1,VV.2.1,(BB.cell (p := ⟨gs,rc * 3,none⟩) HGS.out.1).trans HZ0.out.1,(BB.cell (p := ⟨gs,rc * 3 + 1,none⟩) HGS.out.1).trans HZ0.out.2.1,(BB.cell (p := ⟨gs,rc * 3 + 2,none⟩) HGS.out.1).trans HZ0.out.2.2,(BB.cell (p := ⟨go,i,none⟩) HGS.out.2).trans HG2.out⟩
      clear hK K hHeld
      (try simp only [Act.put,xL4,xL5,xL6])
      refine xV 22 (h := ?_)
      refine xR [23] (h := ?_)
      refine xN (h := fun K hK => ?_)
      obtain ⟨⟨a7,k7,c7,C7⟩,s7,RA_n⟩ := RA.put hcn GD
      have VV_n : V3 (w21.setCell ⟨G,rc,none⟩ (.slice a21 k21 c21)) w.heap.size (.slice (some ⟨b,off,none⟩) n ct) (.slice (some ⟨go,0,none⟩) n n) (.slice (some ⟨gs,0,none⟩) n n) := VV.block11 (Below.heap_setCell _ _ _ _ (fun e => hGV e.symm))
      have VN_n : V14 (w21.setCell ⟨G,rc,none⟩ (.slice a21 k21 c21)) R7 (.bool false) (.int .i64 (fn : Int)) (.bool p1) (.slice a1 n1 c1) (.slice b1 m1 d1) (.int .i64 (lc : Int)) (.int .i64 (rc : Int)) (.bool (t i).miss) (.bool p2) (.slice a2 n2 c2) (.slice b2 m2 d2) (.bool p3) (.slice a3 n3 c3) (.slice b3 m3 d3) := VN.blockP (Below.heap_setCell _ _ _ _ (Nat.ne_of_gt hGw))
      have KN_n : KNum w3 (w21.setCell ⟨G,rc,none⟩ (.slice a21 k21 c21)) := KN.set C7 (num_slice _ _ _) _
      have CG_n : CelG (w21.setCell ⟨G,rc,none⟩ (.slice a21 k21 c21)) G i (.slice a5 k5 c5) := CG.set HCN.out.2
      have BB_n : Below w.heap.size w (w21.setCell ⟨G,rc,none⟩ (.slice a21 k21 c21)) := BB.setCell (p := ⟨G,rc,none⟩) hGB _
      go_simp
      clear C7 s7 RA VV VN KN CG GP GD BB
      generalize (w21.setCell ⟨G,rc,none⟩ (.slice a21 k21 c21)) = W9 at *
      have RA := RA_n
      have VV := VV_n
      have VN := VN_n
      have KN := KN_n
      have CG := CG_n
      have BB := BB_n
      clear RA_n VV_n VN_n KN_n CG_n BB_n
      refine hK.out _ _ ?_ (fun hH2 => ?_)
      ·exact ⟨CG,VN.c1,VV.2.2.1,VV.2.1,(BB.cell (p := ⟨gs,rc * 3,none⟩) HGS.out.1).trans HZ0.out.1,(BB.cell (p := ⟨gs,rc * 3 + 1,none⟩) HGS.out.1).trans HZ0.out.2.1,(BB.cell (p := ⟨gs,rc * 3 + 2,none⟩) HGS.out.1).trans HZ0.out.2.2,(BB.cell (p := ⟨go,i,none⟩) HGS.out.2).trans HG2.out⟩
      clear hK K hH1
      (try simp only [Act.put,xL4,xL5,xL6])
      refine wpAnyH_done (by kernel_rfl) ?_ _
      clear hH2
      have RA2 := RA.mono (ok' := fun x => okD t zs k x ∨ (1 ≤ 2 ∧ x = lc) ∨ (2 ≤ 2 ∧ x = rc)) (fun x hx => by rcases hx with h | ⟨_,h⟩ | ⟨_,h⟩; exact .inl (.inl h); exact .inl (.inr (.inl ⟨by omega,h⟩)); exact .inr h)
      clear RA CG
      go_wp2
      go_roundw
      case rel => exact ⟨2,by omega,by go_num,RA2,VV,VN,KN,BB⟩
      case measure => simp [intOf]
     ·have RA2 := RA.mono (ok' := fun x => okD t zs (k + 1) x) (fun x hx => by rcases okD_split HZI.out hx with (h | h) | h; exact .inl h; exact .inr (.inl ⟨by omega,h.trans HLR.out.1⟩); exact .inr (.inr ⟨by omega,h.trans HLR.out.2⟩))
      clear RA
      go_wp2
      go_roundw
      case rel => exact ⟨k + 1,by omega,by go_num,RA2,VV,KN,BB⟩
      case measure => simp [intOf]; omega
   ·have HLF : Hid ((t i).leaf = true) := hlf
    rw [hlf] at NN
    clear hlf
    obtain ⟨N_0,N_1,N_2,N_3,N_4,N_5,N_6,N_7,N_8,N_9,N_10,N_11,N_12,N_13⟩ := id NN
    obtain ⟨W7,hW7,hS7,hL7,VN,FN⟩ := V14.lay wr 48 (.bool true) (.int .i64 (t i).feat) (.bool p1) (.slice a1 n1 c1) (.slice b1 m1 d1) (.int .i64 (t i).left) (.int .i64 (t i).right) (.bool (t i).miss) (.bool p2) (.slice a2 n2 c2) (.slice b2 m2 d2) (.bool p3) (.slice a3 n3 c3) (.slice b3 m3 d3)
    replace BB := BB.xm hL7
    replace RA := RA.below hL7
    replace VV := VV.below hL7
    replace KN := KN.below hL7
    clear hL7
    obtain ⟨V_0,V_1,V_2,V_3,V_4,V_5,V_6,V_7,V_8,V_9,V_10,V_11,V_12,V_13⟩ := id VN
    rw [hW7] at V_0 V_1 V_2 V_3 V_4 V_5 V_6 V_7 V_8 V_9 V_10 V_11 V_12 V_13
    have RA2 := RA.mono (fun x hx => okD_leaf HZI.out HLF.out hx)
    clear RA
    go_wp2
    rw [← hW7]
    go_roundw
    case rel => exact ⟨k + 1,by omega,by go_num,RA2,VV,KN,BB⟩
    case measure => simp [intOf]; omega
  ·obtain rfl : k = n := by omega
   have g1 : ¬ (k : Int) < (k : Int) := by omega
   have RF : RArr M wr G k (pl t k r) (fun _ => True) := by
    have hz := HZL.out
    obtain ⟨vs,h1,h2,h3⟩ := RA
    refine ⟨vs,h1,h2,fun x hx _ => h3 x hx ?_⟩
    have := okD_all HM.out HQ.out hx
    rw [hz] at this
    exact this
   clear RA
   go_wp2
   go_ret
   exact ⟨_,rfl,hGB,RF,BB⟩

theorem step_store_in {P : Program} {ops : Array Oper} {o : Oper} {a : Act} {w : World} {K : Act → World → Prop} {Q : Exit → Act → World → Prop} {E : Prop} (hgd : o.guard = none) (t : TypeId) (x y : Operand) (ho : o.op = .store t x y) (i0 : TypeInfo) (hi : P.info? t = some i0) (g off : Nat) (hx : a.eval x = .pointer (some ⟨g,off,none⟩)) (vs : Array Value) (hy : a.eval y = .agg vs)
  (cur : Array Value) (t' : TypeId) (hg : w.heap[g]? = some (.cells cur t' (0,0))) (hl : off + vs.size ≤ cur.size) (hs : i0.size = vs.size) (h1 : ∀ v ∈ vs.toList,v.oneCell' = true)
  (h : K (a.put o.dst undef) (w.setRow g (spl10 cur.toList off vs.toList).toArray)) :
  if Region.wanted o (yielded ops a.tmps) = true then Oper.wp P o a w K Q else E := by
 have hw : Region.wanted o (yielded ops a.tmps) = true := by simp [Region.wanted,hgd]
 rw [if_pos hw]
 have hst := run_storeCells_at (P := P) g off t' vs.toList 0 cur w hg (by simpa using hl) h1
 rw [Nat.add_zero] at hst
 have hst2 : (storeCells ⟨g,off,none⟩ vs.toList).run P w = .ok () (w.setRow g (spl10 cur.toList off vs.toList).toArray) := hst
 unfold Oper.wp execOp
 simp [ho,hx,hy,Instr.storeAt,Instr.sureAddr,storeVar,sizeOf,typeInfo,hi,hs,hst2,Result.andThen,Value.cells]
 exact h
structure RawL (w : World) (g : Nat) (us : List Value) : Prop where
 heap : w.heap[g]? = some (.cells us.toArray 45 (0,0))
 pur : ∀ u ∈ us,¬ IsLimb u
theorem RawL.lt {w : World} {g : Nat} {us : List Value} (h : RawL w g us) : g < w.heap.size := (Array.getElem?_eq_some_iff.1 h.heap).1
theorem RawL.below {w w' : World} {g : Nat} {us : List Value} (h : RawL w g us) (hb : Below w.heap.size w w') : RawL w' g us := ⟨(hb.block g h.lt).trans h.heap,h.pur⟩
theorem RawL.splice {w : World} {g o : Nat} {us cs : List Value} (h : RawL w g us) (hc : ∀ u ∈ cs,¬ IsLimb u) : RawL (w.setRow g (spl10 us o cs).toArray) g (spl10 us o cs) ∧ KeepQ IsLimb w (w.setRow g (spl10 us o cs).toArray) := by
 have hp : PureB IsLimb w g := pure_of_cells h.heap (fun u hu => h.pur u (by simpa using hu))
 refine ⟨⟨setRow_heap w g us.toArray _ _ _ h.heap,fun u hu => ?_⟩,?_⟩
 ·rcases spl10_mem hu with h1 | h1
  ·exact h.pur u h1
  ·exact hc u h1
 ·exact (pure_splice (cur := us.toArray) (o := o) (cs := cs) h.heap hp hc).2
theorem RawL.cell {w : World} {g : Nat} {us : List Value} (h : RawL w g us) {j : Nat} {u : Value} (hj : us[j]? = some u) : w.cell? ⟨g,j,none⟩ = some u := by
 rw [cell_of_row _ _ _ _ _ _ h.heap]
 simpa using hj
theorem made_legs (n : Nat) : ∀ u ∈ (madeCells (Value.agg #[.int .i64 0,.bool false,.slice none 0 0,.slice none 0 0,.slice none 0 0]).cells (n * 5)).toList,¬ IsLimb u := by
 intro u hu
 obtain ⟨k,hk⟩ := List.getElem?_of_mem hu
 have hlt : k < n * 5 := by
  have := (List.getElem?_eq_some_iff.1 hk).1
  simpa [madeCells] using this
 simp [madeCells,Value.cells,hlt] at hk
 rcases (show k % 5 = 0 ∨ k % 5 = 1 ∨ k % 5 = 2 ∨ k % 5 = 3 ∨ k % 5 = 4 by omega) with e | e | e | e | e <;> (rw [e] at hk; simp at hk; subst hk; first | exact limb_int _ | exact limb_bool _ | exact limb_slice _ _ _)
theorem rawl_made {w : World} {B g n : Nat} (h : w.ownsRow B 45 5 (.slice (some ⟨g,0,none⟩) n n) n (madeCells (Value.agg #[.int .i64 0,.bool false,.slice none 0 0,.slice none 0 0,.slice none 0 0]).cells (n * 5)).toList) : RawL w g (madeCells (Value.agg #[.int .i64 0,.bool false,.slice none 0 0,.slice none 0 0,.slice none 0 0]).cells (n * 5)).toList := by
 rcases h.2 with ⟨e,_⟩ | ⟨g2,c2,cur,e,_,hgh,_,_,hcs,ht⟩
 ·cases e
 ·cases e
  have : cur.toList = (madeCells (Value.agg #[.int .i64 0,.bool false,.slice none 0 0,.slice none 0 0,.slice none 0 0]).cells (n * 5)).toList := by
   rw [← ht,List.take_of_length_le (by simp [hcs])]
  refine ⟨?_,made_legs n⟩
  rw [← this]
  simpa using hgh
theorem info_leg11 : (Tryz.prog.info? 45).map (fun i => (i.zero,i.size,i.bytes)) = some (some (.agg #[.int .i64 0,.bool false,.slice none 0 0,.slice none 0 0,.slice none 0 0]),5,88) := by kernel_rfl
def LgAt (w : World) (B g : Nat) (el : Nat → Value) (x : Nat) (q : Rat) (l : List PtZ) : Prop := el 0 = .int .i64 (x : Int) ∧ (∃ p a n c b m d,el 1 = .bool p ∧ el 2 = .slice a n c ∧ el 3 = .slice b m d ∧ RepQ w (.agg #[.bool p,.slice a n c,.slice b m d]) q) ∧ PRr w (el 4) l ∧ (0 < l.length → ∀ b o n c,el 4 = .slice (some ⟨b,o,none⟩) n c → B ≤ b ∧ b ≠ g)
theorem LgAt.below {w w' : World} {B g : Nat} {el : Nat → Value} {x : Nat} {q : Rat} {l : List PtZ} (h : LgAt w B g el x q l) (hb : Below w.heap.size w w') : LgAt w' B g el x q l := by
 obtain ⟨a,⟨p,a1,n,c,b,m,d,e1,e2,e3,e4⟩,f,h4⟩ := h
 exact ⟨a,⟨p,a1,n,c,b,m,d,e1,e2,e3,e4.below hb⟩,f.below hb,h4⟩
theorem LgAt.row {w : World} {B g : Nat} {el : Nat → Value} {x : Nat} {q : Rat} {l : List PtZ} (h : LgAt w B g el x q l) {cs : Array Value} (hk : KeepQ IsLimb w (w.setRow g cs)) : LgAt (w.setRow g cs) B g el x q l := by
 obtain ⟨a,⟨p,a1,n,c,b,m,d,e1,e2,e3,e4⟩,⟨el5,⟨a5,c5,f1,f2,f3,f4⟩,f5⟩,h4⟩ := h
 refine ⟨a,⟨p,a1,n,c,b,m,d,e1,e2,e3,e4.keepL hk⟩,⟨el5,⟨a5,c5,f1,f2,f3,fun h0 => ?_⟩,fun i d hd => ptrEl.keep (f5 i d hd) hk⟩,h4⟩
 obtain ⟨b5,off,rfl,hc⟩ := f4 h0
 have hne := (h4 h0 b5 off _ c5 f1).2
 exact ⟨b5,off,rfl,fun i hi j hj => (World.cell?_of_block (w := w) (a := ⟨b5,off + i * 5 + j,none⟩) (setRow_other w g b5 _ hne)).trans (hc i hi j hj)⟩
theorem LgAt.other {w w' : World} {B g : Nat} {el : Nat → Value} {x : Nat} {q : Rat} {l : List PtZ} (h : LgAt w B g el x q l) (hk : KeepQ IsLimb w w') (hb : ∀ b,B ≤ b → w'.heap[b]? = w.heap[b]?) : LgAt w' B g el x q l := by
 obtain ⟨a,⟨p,a1,n,c,b,m,d,e1,e2,e3,e4⟩,⟨el5,⟨a5,c5,f1,f2,f3,f4⟩,f5⟩,h4⟩ := h
 refine ⟨a,⟨p,a1,n,c,b,m,d,e1,e2,e3,e4.keepL hk⟩,⟨el5,⟨a5,c5,f1,f2,f3,fun h0 => ?_⟩,fun i d hd => ptrEl.keep (f5 i d hd) hk⟩,h4⟩
 obtain ⟨b5,off,rfl,hc⟩ := f4 h0
 have hne := (h4 h0 b5 off _ c5 f1).1
 exact ⟨b5,off,rfl,fun i hi j hj => (World.cell?_of_block (w := w) (a := ⟨b5,off + i * 5 + j,none⟩) (hb b5 hne)).trans (hc i hi j hj)⟩
def LegI (w : World) (B g m k : Nat) (ys : List Nat) (q : Nat → Rat) (f : Nat → List PtZ) : Prop := ∃ (us : List Value) (el : Nat → Nat → Value),RawL w g us ∧ us.length = m * 5 ∧ (∀ x,x < k → ∀ j,j < 5 → us[x * 5 + j]? = some (el x j)) ∧ ∀ x y,x < k → ys[x]? = some y → LgAt w B g (el x) y (q y) (f y)
theorem LegI.below {w w' : World} {B g m k : Nat} {ys : List Nat} {q : Nat → Rat} {f : Nat → List PtZ} (h : LegI w B g m k ys q f) (hb : Below w.heap.size w w') : LegI w' B g m k ys q f := by
 obtain ⟨us,el,h1,h2,h3,h4⟩ := h
 exact ⟨us,el,h1.below hb,h2,h3,fun x y hx hy => (h4 x y hx hy).below hb⟩
theorem LegI.lt {w : World} {B g m k : Nat} {ys : List Nat} {q : Nat → Rat} {f : Nat → List PtZ} (h : LegI w B g m k ys q f) : g < w.heap.size := by
 obtain ⟨us,el,h1,_⟩ := h
 exact h1.lt
theorem LegI.put {w : World} {B g m k : Nat} {ys : List Nat} {q : Nat → Rat} {f : Nat → List PtZ} (h : LegI w B g m k ys q f) (hk : k < m) {y : Nat} (hy : ys[k]? = some y) {p : Bool} {a b a4 : Option Addr} {n c m1 d n4 c4 : Nat} (hr : RepQ w (.agg #[.bool p,.slice a n c,.slice b m1 d]) (q y)) (hp : PRr w (.slice a4 n4 c4) (f y)) (hn : 0 < (f y).length → ∀ b o n c,(.slice a4 n4 c4 : Value) = .slice (some ⟨b,o,none⟩) n c → B ≤ b ∧ b ≠ g) :
  ∃ us,w.heap[g]? = some (.cells us.toArray 45 (0,0)) ∧ us.length = m * 5 ∧ LegI (w.setRow g (spl10 us (k * 5) [.int .i64 (y : Int),.bool p,.slice a n c,.slice b m1 d,.slice a4 n4 c4]).toArray) B g m (k + 1) ys q f := by
 obtain ⟨us,el,h1,h2,h3,h4⟩ := h
 have hcl : ([.int .i64 (y : Int),.bool p,.slice a n c,.slice b m1 d,.slice a4 n4 c4] : List Value).length = 5 := rfl
 have hfit : k * 5 + ([.int .i64 (y : Int),.bool p,.slice a n c,.slice b m1 d,.slice a4 n4 c4] : List Value).length ≤ us.length := by rw [hcl,h2]; omega
 obtain ⟨R,KQ⟩ := h1.splice (o := k * 5) (cs := [.int .i64 (y : Int),.bool p,.slice a n c,.slice b m1 d,.slice a4 n4 c4]) (by intro u hu; simp at hu; rcases hu with rfl | rfl | rfl | rfl | rfl <;> first | exact limb_int _ | exact limb_bool _ | exact limb_slice _ _ _)
 refine ⟨us,h1.heap,h2,_,fun x j => if x = k then ([.int .i64 (y : Int),.bool p,.slice a n c,.slice b m1 d,.slice a4 n4 c4] : List Value).getD j undef else el x j,R,by rw [spl10_len hfit,h2],fun x hx j hj => ?_,fun x y' hx hy' => ?_⟩
 ·rw [spl10_at hfit]
  dsimp only
  by_cases e : x = k
  ·subst e
   rw [if_neg (by omega),if_pos (by rw [hcl]; omega),if_pos rfl,show x * 5 + j - x * 5 = j by omega,List.getD_eq_getElem?_getD,List.getElem?_eq_getElem (by rw [hcl]; omega)]
   rfl
  ·rw [if_pos (by omega),if_neg e]
   exact h3 x (by omega) j hj
 ·dsimp only
  by_cases e : x = k
  ·subst e
   rw [hy] at hy'
   cases hy'
   simp only [if_pos]
   exact LgAt.row (w := w) (B := B) (g := g) ⟨rfl,⟨p,a,n,c,b,m1,d,rfl,rfl,rfl,hr⟩,hp,hn⟩ KQ
  ·simp only [if_neg e]
   exact (h4 x y' (by omega) hy').row KQ
theorem LegI.other {w w' : World} {B g m k : Nat} {ys : List Nat} {q : Nat → Rat} {f : Nat → List PtZ} (h : LegI w B g m k ys q f) (hg : B ≤ g) (hk : KeepQ IsLimb w w') (hb : ∀ b,B ≤ b → w'.heap[b]? = w.heap[b]?) : LegI w' B g m k ys q f := by
 obtain ⟨us,el,h1,h2,h3,h4⟩ := h
 exact ⟨us,el,⟨(hb g hg).trans h1.heap,h1.pur⟩,h2,h3,fun x y hx hy => (h4 x y hx hy).other hk hb⟩
theorem LegI.at {w : World} {B g m k : Nat} {ys : List Nat} {q : Nat → Rat} {f : Nat → List PtZ} (h : LegI w B g m k ys q f) {j y : Nat} (hj : j < k) (hy : ys[j]? = some y) : ∃ p a n c b m1 d u,w.cell? ⟨g,j * 5,none⟩ = some (.int .i64 (y : Int)) ∧ w.cell? ⟨g,j * 5 + 1,none⟩ = some (.bool p) ∧ w.cell? ⟨g,j * 5 + 2,none⟩ = some (.slice a n c) ∧ w.cell? ⟨g,j * 5 + 3,none⟩ = some (.slice b m1 d) ∧ w.cell? ⟨g,j * 5 + 4,none⟩ = some u ∧ RepQ w (.agg #[.bool p,.slice a n c,.slice b m1 d]) (q y) ∧ PRr w u (f y) := by
 obtain ⟨us,el,h1,h2,h3,h4⟩ := h
 obtain ⟨a0,⟨p,a1,n,c,b,m1,d,e1,e2,e3,e4⟩,e5,_⟩ := h4 j y hj hy
 have k0 := h1.cell (h3 j hj 0 (by omega)); have k1 := h1.cell (h3 j hj 1 (by omega)); have k2 := h1.cell (h3 j hj 2 (by omega)); have k3 := h1.cell (h3 j hj 3 (by omega)); have k4 := h1.cell (h3 j hj 4 (by omega))
 rw [a0] at k0; rw [e1] at k1; rw [e2] at k2; rw [e3] at k3
 exact ⟨p,a1,n,c,b,m1,d,_,k0,k1,k2,k3,k4,e4,e5⟩

theorem MayT.lvs_few11 {F : Int} {t : Nat → Nd} {n : Nat} (h : MayT F t n) : 1 ≤ (lvs t n 0).length ∧ (lvs t n 0).length ≤ n := by
 have h1 := h.count h.pos
 have h2 := h.pre_few h.pos
 have h3 := pre_pos t n 0
 have h4 := h.pos
 omega
set_option maxRecDepth 100000 in
set_option maxHeartbeats 2000000 in
theorem legs_no (v vr : Value) (n nr : Nat) (t : Nat → Nd) (r : Nat → Cl) (L : Nat) (w : World) (hT : TRow w v n t L) (hR : CRow w vr nr r L) (ht : Tab w) (hL : 1 ≤ L) (hL2 : L ≤ 10000) (hw : mayB (nr : Int) 1 (fun _ => n) (fun _ => t) = false) :
  Calls Tryz.prog 7 #[v,vr] w fun e w' => e = .returned (.tuple #[.slice none 0 0,.int .i64 1]) ∧ Below w.heap.size w w' := by
 obtain ⟨at_,ct,rfl,htc,ht63⟩ := hT.open
 obtain ⟨ar,cr,rfl,hrc,hr63⟩ := hR.open
 have BB : Below w.heap.size w w := Below.refl _ _
 have HT0 : Hid (TRow w (.slice at_ n ct) n t L) := hT
 have HR0 : Hid (CRow w (.slice ar nr cr) nr r L) := hR
 have HB0 : Hid (Tab w) := ht
 have HWW : Hid (mayB (nr : Int) 1 (fun _ => n) (fun _ => t) = false) := hw
 clear hT hR ht hw
 go_enter Tryz.func7,Tryz.ntmps7
 go_wp2_with fail
 refine (tree_may (nr : Int) _ n t L _ HT0.out HB0.out hL (by omega)).mono ?_
 rintro e w1 ⟨rfl,b1⟩
 replace BB := BB.xm b1
 clear b1
 rw [HWW.out]
 go_wp2
 go_ret2
 exact ⟨rfl,BB⟩
set_option maxRecDepth 100000 in
set_option maxHeartbeats 8000000 in
theorem legs_yes (v vr : Value) (n nr : Nat) (t : Nat → Nd) (r : Nat → Cl) (L : Nat) (w : World) (hT : TRow w v n t L) (hR : CRow w vr nr r L) (ht : Tab w) (hL : 1 ≤ L) (hL2 : L ≤ 10000) (S M : Nat) (hz : ∀ x y,x < n → y < n → qsz ((t x).cov / (t y).cov) ≤ S) (hS : 1 ≤ S) (hSM : (n + 1) * S ≤ M) (hLM : 2 * L ≤ M) (hM : M ≤ 100000) (hw : mayB (nr : Int) 1 (fun _ => n) (fun _ => t) = true) :
  Calls Tryz.prog 7 #[v,vr] w fun e w' => ∃ g m,e = .returned (.tuple #[.slice (some ⟨g,0,none⟩) m m,.int .i64 0]) ∧ w.heap.size ≤ g ∧ m = (lvs t n 0).length ∧ LegI w' w.heap.size g m m (lvs t n 0) (fun y => (t y).val) (fun y => (pl t n r y).map Pt.z) ∧ Below w.heap.size w w' := by
 obtain ⟨at_,ct,rfl,htc,ht63⟩ := hT.open
 obtain ⟨ar,cr,rfl,hrc,hr63⟩ := hR.open
 have BB : Below w.heap.size w w := Below.refl _ _
 have HT0 : Hid (TRow w (.slice at_ n ct) n t L) := hT
 have HR0 : Hid (CRow w (.slice ar nr cr) nr r L) := hR
 have HB0 : Hid (Tab w) := ht
 have HWW : Hid (mayB (nr : Int) 1 (fun _ => n) (fun _ => t) = true) := hw
 clear hT hR ht hw
 go_enter Tryz.func7,Tryz.ntmps7
 go_wp2_with fail
 refine (tree_may (nr : Int) _ n t L _ HT0.out HB0.out hL (by omega)).mono ?_
 rintro e w1 ⟨rfl,b1⟩
 replace BB := BB.xm b1
 clear b1
 rw [HWW.out]
 obtain ⟨hF0,hF64,_,hmy⟩ := mayB_may HWW.out
 have HM : Hid (MayT (nr : Int) t n) := hmy 0 (by omega)
 clear hmy
 have HZS : Hid (∀ x y,x < n → y < n → qsz ((t x).cov / (t y).cov) ≤ S) := hz
 clear hz
 have hn0 : 0 < n := HM.out.pos
 have hn255 := HM.out.few
 go_wp2_with fail
 refine (look_at _ _ n nr t r L _ (HT0.out.below BB) (HR0.out.below BB) HM.out (HB0.out.below BB) hL hL2).mono ?_
 rintro e w2 ⟨go,gs,sh,rfl,hgo,hgs,hO,GA,hse,b2⟩
 have HO : Hid (∀ x,x < n → (t x).leaf = false → w2.cell? ⟨go,x,none⟩ = some (.int .i64 (nxt (t x) r : Int))) := hO
 have HSE : Hid (∀ x,x < n → (t x).leaf = false → sh (kl t x) = (t (kl t x)).cov / (t x).cov ∧ sh (kr t x) = (t (kr t x)).cov / (t x).cov) := hse
 replace BB := BB.xm b2
 clear b2 hgo hgs hO hse
 go_wp2_with fail
 refine (vparts_at (nr : Int) _ go gs n t r sh S L M _ (HT0.out.below BB) HO.out GA HSE.out HM.out hF64 HZS.out hS hSM hLM hM (HB0.out.below BB)).mono ?_
 rintro e w3 ⟨gp,rfl,hgp,RA,b3⟩
 replace BB := BB.xm b3
 clear b3 GA HO HSE hgp
 go_wp2_with fail
 refine (leaves8_yes (nr : Int) _ n t L _ (HT0.out.below BB) (HB0.out.below BB) hL (by omega) HWW.out HM.out).mono ?_
 rintro e w4 ⟨u,rfl,LO,b4⟩
 replace RA := RA.below b4
 replace BB := BB.xm b4
 clear b4
 obtain ⟨ys,hys⟩ : ∃ ys,lvs t n 0 = ys := ⟨_,rfl⟩
 obtain ⟨m,hm⟩ : ∃ m,ys.length = m := ⟨_,rfl⟩
 have HYS : Hid (lvs t n 0 = ys) := hys
 have HYM : Hid (ys.length = m ∧ 1 ≤ m ∧ m ≤ n) := by
  have h1 := HM.out.lvs_few11
  rw [hys,hm] at h1
  exact ⟨hm,h1⟩
 have HYI : Hid (∀ x ∈ ys,x < n) := by
  rw [← hys]
  exact fun y hy => ((HM.out.pre_sub hn0) y ((List.mem_filter.1 hy).1)).1
 rw [hys] at LO
 obtain ⟨gl,cl,rfl,hlc⟩ := LO.open (by have := HYM.out; omega)
 have HLO : Hid (∀ j x : Nat,ys[j]? = some x → w4.cell? ⟨gl,j,none⟩ = some (.int .i64 (x : Int))) := fun j x hj => LO.cell rfl hj
 rw [hm] at hlc ⊢
 clear LO hys hm
 have hm0 := HYM.out.2.1
 have hmn := HYM.out.2.2
 obtain ⟨i0,hi,hz0,hz1,hz2⟩ := info_parts info_leg11
 have HI0 : Hid (Tryz.prog.info? 45 = some i0 ∧ i0.size = 5) := ⟨hi,hz1⟩
 go_wp2_with (at_make; refine wpList_make_full _ rfl _ _ 29 rfl _ 45 i0 (.agg #[.int .i64 0,.bool false,.slice none 0 0,.slice none 0 0,.slice none 0 0]) 5 Tryz.underlying29 hi hz0 hz1 _ _ _ _ m rfl rfl (by omega) (by omega) (by rw [hz2]; omega) (by unfold maxLen; omega) (Nat.le_refl _) ?_; intro w5 hown hgrow)
 have hb1 := below_grown hgrow
 have HLI : LegI w5 w.heap.size w4.heap.size m 0 ys (fun y => (t y).val) (fun y => (pl t n r y).map Pt.z) := ⟨_,fun _ _ => undef,rawl_made hown,by simp [madeCells],fun x hx => by omega,fun x y hx => by omega⟩
 have BX : BwP w4.heap.size w4 w5 := ⟨hb1,hb1.size⟩
 have hGB : w.heap.size ≤ w4.heap.size := BB.size
 have HGP : Hid (gp < w4.heap.size) := RA.lt hn0
 have HGL : Hid (gl < w4.heap.size) := World.block_lt_of_cell? _ _ (HLO.out 0 _ (List.getElem?_eq_getElem (show 0 < ys.length by have := HYM.out; omega)))
 have HRA : Hid (RArr M w4 gp n (pl t n r) (fun _ => True)) := RA
 have HB4 : Hid (Below w.heap.size w w4) := BB
 replace BB := BB.xm hb1
 clear hown hgrow hb1 hi hz0 hz1 hz2 RA
 go_loopw [29] (fun vi wr => ∃ k : Nat,k ≤ m ∧ vi = .int .i64 (k : Int) ∧ LegI wr w.heap.size w4.heap.size m k ys (fun y => (t y).val) (fun y => (pl t n r y).map Pt.z) ∧ BwP w4.heap.size w4 wr ∧ Below w.heap.size w wr) (fun vi _ => m - (intOf vi).toNat)
 case atStart => exact ⟨0,by omega,rfl,HLI,BX,BB⟩
 case round =>
  clear HLI BX BB
  obtain ⟨k,hk,rfl,HLI,BX,BB⟩ := hrel
  by_cases hlt : k < m
  ·have g0 : (0 : Int) ≤ (k : Int) := by omega
   have g1 : (k : Int) < (m : Int) := by omega
   have wk : IntKind.i64.wrap ((k : Int) + 1) = (k : Int) + 1 := by rw [IntKind.wrap_i64]; omega
   obtain ⟨i,hi⟩ : ∃ i,ys[k]? = some i := ⟨_,List.getElem?_eq_getElem (by have := HYM.out; omega)⟩
   have HYK : Hid (ys[k]? = some i) := hi
   have hin : i < n := HYI.out i (List.mem_of_getElem? hi)
   have CI : wr.cell? ⟨gl,k,none⟩ = some (.int .i64 (i : Int)) := (BX.out.cell (p := ⟨gl,k,none⟩) HGL.out).trans (HLO.out k i hi)
   clear hi
   have k0 : (0 : Int) ≤ (i : Int) := by omega
   have k1 : (i : Int) < (n : Int) := by omega
   obtain ⟨b,off,cc,p1,a1,n1,c1,b1,m1,d1,p2,a2,n2,c2,b2,m2,d2,p3,a3,n3,c3,b3,m3,d3,hvv,hcc,hc6,NN0,r1,r2,r3,i1_,i2_,i3_⟩ := HT0.out.at hin
   cases hvv
   have HR2 : Hid (RatAt w (.agg #[.bool p2,.slice a2 n2 c2,.slice b2 m2 d2]) (t i).val L) := r2
   obtain ⟨N_0,N_1,N_2,N_3,N_4,N_5,N_6,N_7,N_8,N_9,N_10,N_11,N_12,N_13⟩ := id NN0
   have HN8 : Hid (w.cell? ⟨b,off + i * 14 + 8,none⟩ = some (.bool p2) ∧ w.cell? ⟨b,off + i * 14 + 9,none⟩ = some (.slice a2 n2 c2) ∧ w.cell? ⟨b,off + i * 14 + 10,none⟩ = some (.slice b2 m2 d2)) := ⟨N_8,N_9,N_10⟩
   have HBW : Hid (b < w.heap.size) := World.block_lt_of_cell? _ _ N_8
   clear r1 r2 r3 i1_ i2_ i3_ NN0 N_0 N_1 N_2 N_3 N_4 N_5 N_6 N_7 N_8 N_9 N_10 N_11 N_12 N_13
   obtain ⟨a5,k5,c5,CG,GP⟩ := HRA.out.at hin trivial
   have HCG : Hid (w4.cell? ⟨gp,i,none⟩ = some (.slice a5 k5 c5)) := CG
   have HGD : Hid (PRw M w4 (.slice a5 k5 c5) ((pl t n r i).map Pt.z)) := GP.1
   clear CG GP
   have PSM := HM.out.pl_small r hS HZS.out hin
   have HLN : Hid (((pl t n r i).map Pt.z).length ≤ 1000) := by
    have h1 := srt_few (F := 64) (HM.out.pl_srt r i) (fun a ha => by have := (PSM a ha).1; omega)
    show _ ≤ _
    rw [List.length_map]
    omega
   have HM1 : Hid (1 ≤ M) := Nat.le_trans hS (Nat.le_trans (Nat.le_mul_of_pos_left S (Nat.succ_pos n)) hSM)
   clear PSM
   go_wp2_with fail
   clear CI
   have hDr : Below wr.heap.size wr wr.drew := (Below.refl _ _).drew
   replace HLI := HLI.below hDr
   replace BX := BX.below hDr
   replace BB := BB.xm hDr
   clear hDr
   refine wp_region_held_drew (S := (fun w' => w'.cell? ⟨b,off + i * 14 + 8,none⟩ = some (.bool p2) ∧ w'.cell? ⟨b,off + i * 14 + 9,none⟩ = some (.slice a2 n2 c2) ∧ w'.cell? ⟨b,off + i * 14 + 10,none⟩ = some (.slice b2 m2 d2) ∧ w'.cell? ⟨gp,i,none⟩ = some (.slice a5 k5 c5))) (by kernel_rfl) ?_ (fun hHeld => ?_)
   ·exact ⟨(BB.cell (p := ⟨b,off + i * 14 + 8,none⟩) HBW.out).trans HN8.out.1,(BB.cell (p := ⟨b,off + i * 14 + 9,none⟩) HBW.out).trans HN8.out.2.1,(BB.cell (p := ⟨b,off + i * 14 + 10,none⟩) HBW.out).trans HN8.out.2.2,(BX.out.cell (p := ⟨gp,i,none⟩) HGP.out).trans HCG.out⟩
   generalize wr.drew = W21 at *
   refine xV 0 (h := ?_)
   refine xV 1 (h := ?_)
   refine xV 2 (h := ?_)
   refine xV 3 (h := ?_)
   refine xV 4 (h := ?_)
   refine xV 5 (h := ?_)
   refine xV 6 (h := ?_)
   refine xV 7 (h := ?_)
   refine xV 9 (h := ?_)
   refine xV 10 (h := ?_)
   refine xV 11 (h := ?_)
   refine xV 12 (h := ?_)
   refine xR [8] (h := ?_)
   refine xN (h := fun K hK => ?_)
   go_simp
   refine (qclean_at _ (t i).val L _ (HR2.out.below BB) hL (by omega) (HB0.out.below BB)).mono ?_
   rintro e w21 ⟨v9,rfl,h9,b21⟩
   obtain ⟨p9,a9,n9,c9,y9,m9,d9,rfl⟩ := h9.open
   go_wp2_with fail
   replace HLI := HLI.below b21
   replace BX := BX.below b21
   replace BB := BB.xm b21
   clear b21
   refine hK.out _ _ ?_ (fun hH1 => ?_)
   ·exact ⟨(BB.cell (p := ⟨b,off + i * 14 + 8,none⟩) HBW.out).trans HN8.out.1,(BB.cell (p := ⟨b,off + i * 14 + 9,none⟩) HBW.out).trans HN8.out.2.1,(BB.cell (p := ⟨b,off + i * 14 + 10,none⟩) HBW.out).trans HN8.out.2.2,(BX.out.cell (p := ⟨gp,i,none⟩) HGP.out).trans HCG.out⟩
   clear hK K hHeld
   (try simp only [Act.put,xL4,xL5,xL6])
   refine xR [13] (h := ?_)
   refine xN (h := fun K hK => ?_)
   go_simp
   refine (own_at _ ((pl t n r i).map Pt.z) M _ (HGD.out.below BX.out) HLN.out HM1.out hM (HB0.out.below BB)).mono ?_
   rintro e w22 ⟨v8,rfl,h8,hN8,b22⟩
   obtain ⟨a8,k8,c8,rfl⟩ : ∃ a k c,v8 = .slice a k c := by obtain ⟨a,c,e,_⟩ := GRow.open h8; exact ⟨_,_,_,e⟩
   have hGl := HLI.lt
   go_wp2_with fail
   replace HLI := HLI.below b22
   replace BX := BX.below b22
   replace h9 := h9.below b22
   replace BB := BB.xm b22
   clear b22
   refine hK.out _ _ ?_ (fun hH2 => ?_)
   ·exact ⟨(BB.cell (p := ⟨b,off + i * 14 + 8,none⟩) HBW.out).trans HN8.out.1,(BB.cell (p := ⟨b,off + i * 14 + 9,none⟩) HBW.out).trans HN8.out.2.1,(BB.cell (p := ⟨b,off + i * 14 + 10,none⟩) HBW.out).trans HN8.out.2.2,(BX.out.cell (p := ⟨gp,i,none⟩) HGP.out).trans HCG.out⟩
   clear hK K hH1
   (try simp only [Act.put,xL4,xL5,xL6])
   refine xV 14 (h := ?_)
   refine xV 15 (h := ?_)
   refine xR [16] (h := ?_)
   refine xN (h := fun K hK => ?_)
   obtain ⟨us,hus,husl,HLI_n⟩ := HLI.put hlt HYK.out (p := p9) (a := a9) (n := n9) (c := c9) (b := y9) (m1 := m9) (d := d9) h9 h8 (fun h0 b7 o7 n7 c7 e7 => by obtain ⟨g7,c72,e72,hg7⟩ := hN8 h0; rw [e72] at e7; cases e7; exact ⟨by omega,by omega⟩)
   have BX_n : BwP w4.heap.size w4 (w22.setRow w4.heap.size (spl10 us (k * 5) [.int .i64 (i : Int),.bool p9,.slice a9 n9 c9,.slice y9 m9 d9,.slice a8 k8 c8]).toArray) := BX.row
   have BB_n : Below w.heap.size w (w22.setRow w4.heap.size (spl10 us (k * 5) [.int .i64 (i : Int),.bool p9,.slice a9 n9 c9,.slice y9 m9 d9,.slice a8 k8 c8]).toArray) := below_setRow BB hGB _
   obtain ⟨W9,hW9⟩ : ∃ W9,w22.setRow w4.heap.size (spl10 us (k * 5) [.int .i64 (i : Int),.bool p9,.slice a9 n9 c9,.slice y9 m9 d9,.slice a8 k8 c8]).toArray = W9 := ⟨_,rfl⟩
   rw [hW9] at HLI_n BX_n BB_n
   refine step_store_in rfl 45 _ _ rfl i0 HI0.out.1 w4.heap.size (k * 5) rfl #[.int .i64 (i : Int),.bool p9,.slice a9 n9 c9,.slice y9 m9 d9,.slice a8 k8 c8] rfl us.toArray 45 hus (by simp only [List.size_toArray,husl]; show k * 5 + 5 ≤ _; omega) HI0.out.2 (by simp [Value.oneCell']) ?_
   rw [show w22.setRow w4.heap.size (spl10 (us.toArray).toList (k * 5) (#[.int .i64 (i : Int),.bool p9,.slice a9 n9 c9,.slice y9 m9 d9,.slice a8 k8 c8] : Array Value).toList).toArray = W9 from hW9]
   clear hW9 hus husl HLI BX BB h8 h9 hN8
   have HLI := HLI_n
   have BX := BX_n
   have BB := BB_n
   clear HLI_n BX_n BB_n
   refine hK.out _ _ ?_ (fun hH3 => ?_)
   ·exact ⟨(BB.cell (p := ⟨b,off + i * 14 + 8,none⟩) HBW.out).trans HN8.out.1,(BB.cell (p := ⟨b,off + i * 14 + 9,none⟩) HBW.out).trans HN8.out.2.1,(BB.cell (p := ⟨b,off + i * 14 + 10,none⟩) HBW.out).trans HN8.out.2.2,(BX.out.cell (p := ⟨gp,i,none⟩) HGP.out).trans HCG.out⟩
   clear hK K hH2
   (try simp only [Act.put,xL4,xL5,xL6])
   refine wpAnyH_done (by kernel_rfl) ?_ _
   clear hH3
   go_wp2
   go_roundw
   case rel => exact ⟨k + 1,by omega,by go_num,HLI,BX,BB⟩
   case measure => simp [intOf]; omega
  ·obtain rfl : k = m := by omega
   have g1 : ¬ (k : Int) < (k : Int) := by omega
   have HLR : Hid (LegI wr w.heap.size w4.heap.size k k (lvs t n 0) (fun y => (t y).val) (fun y => (pl t n r y).map Pt.z)) := by rw [HYS.out]; exact HLI
   have HKL : Hid (k = (lvs t n 0).length) := by rw [HYS.out]; exact HYM.out.1.symm
   clear HLI
   go_wp2
   go_ret2
   exact ⟨_,_,rfl,hGB,HKL.out,HLR.out,BB⟩
end Go.Proofs.YtbbliiafkjipbaaGreatDoor
