/-
  Texts of mine, joined: what lies beneath the statement.
-/
import Derived.Test.YtjmagcgobhaenaaGreatDoorJc66f179fb5
import Derived.Test.YtjmagcgobhaenaaGreatDoorJ0589be54bf
import Derived.Test.YtjmagcgobhaenaaGreatDoorJ41e68ea379
import Derived.Laws.AppendOwnNone
import Derived.Test.YtjmagcgobhaenaaGreatDoorJc35467fed7
namespace Go.Proofs.YtjmagcgobhaenaaGreatDoor
open Go.RowKit Go.Shelf
set_option linter.unusedVariables false
set_option linter.unusedSimpArgs false
attribute [local go_sem] Oper.semAt_some
theorem nthB_mem (zs : List Nat) {k : Nat} (h : k < zs.length) : nthB zs zs.length k ∈ zs := by
 unfold nthB
 rw [List.getD_eq_getElem?_getD,List.getElem?_eq_getElem (by omega)]
 exact List.getElem_mem _
theorem TRow.sz11 {w : World} {v : Value} {n : Nat} {t : Nat → Nd} {L : Nat} (h : TRow w v n t L) (hL : 1 ≤ L) {i : Nat} (hi : i < n) : qsz (t i).val ≤ L ∧ qsz (t i).cov ≤ L := by
 obtain ⟨b,off,c,p1,a1,n1,c1,b1,m1,d1,p2,a2,n2,c2,b2,m2,d2,p3,a3,n3,c3,b3,m3,d3,e,hc,hm,hN,r1,r2,r3,i1,i2,i3⟩ := h.at hi
 exact ⟨r2.qsz hL,r3.qsz hL⟩
theorem RInv.run {t : Nat → Nd} {n : Nat} : ∀ d (out wait : List Nat),n - out.length ≤ d → RInv t n out wait → ∃ out',RInv t n out' [] := by
 intro d
 induction d with
 | zero =>
  intro out wait hd h
  rcases List.eq_nil_or_concat wait with rfl | ⟨ws,i,rfl⟩
  ·exact ⟨out,h⟩
  ·have := h.len
   simp at this
   omega
 | succ d ih =>
  intro out wait hd h
  rcases List.eq_nil_or_concat wait with rfl | ⟨ws,i,rfl⟩
  ·exact ⟨out,h⟩
  ·rw [List.concat_eq_append] at h
   have hl := h.len
   simp at hl
   obtain ⟨F,hm⟩ := h.m
   have hi : i < n := h.d.small i (by simp)
   cases e : (t i).leaf with
   | true => exact ih _ _ (by simp; omega) (h.leaf e)
   | false =>
    obtain ⟨e1,e2,a1,a2,a3,a4,_,_⟩ := hm.kids hi e
    exact ih _ _ (by simp; omega) (h.split hm.once e e1 e2 a1 a2 a3 a4)
theorem MayT.pre_count {F : Int} {t : Nat → Nd} {n : Nat} (h : MayT F t n) : (pre t n 0).length = n := by
 obtain ⟨out,ho⟩ := RInv.run n [] [0] (by simp) (RInv.start (t := t) h.pos ⟨F,h⟩)
 rw [← ho.all]
 exact ho.count
theorem MayT.pre_few {F : Int} {t : Nat → Nd} {n : Nat} (h : MayT F t n) {x : Nat} (hx : x < n) : (pre t n x).length ≤ n := by
 have h0 : 0 < n := h.pos
 have h1 := ((h.pre_sub h0) x (h.pre_all x hx)).2.1
 have h2 := h.pre_count
 omega
theorem MayT.bnd_le {F : Int} {t : Nat → Nd} {n : Nat} (h : MayT F t n) (C : Nat) {x : Nat} (hx : x < n) : bnd t n C x ≤ n * C := Nat.mul_le_mul_right C (h.pre_few hx)
theorem sum_sz {F : Int} {t : Nat → Nd} {n L C : Nat} (hm : MayT F t n) (hz : ∀ i,i < n → qsz (t i).val ≤ L ∧ qsz (t i).cov ≤ L) (hC : 2 * L + 2 ≤ C) (q : Nat → Rat) (i : Nat) (hi : i < n) (hq : ∀ j,j < n → qsz (q j) ≤ bnd t n C j) : qsz (fSum t q i) ≤ bnd t n C i := by
 unfold fSum
 cases hl : (t i).leaf with
 | true =>
  rw [if_pos rfl]
  have h1 := qsz_mul _ _ (hz i hi).1 (hz i hi).2
  have h2 := bnd_pos (t := t) (n := n) (C := C) (by omega) i
  omega
 | false =>
  rw [if_neg (by simp)]
  obtain ⟨_,_,_,a2,_,a4,_,_⟩ := hm.kids hi hl
  have h1 := qsz_add _ _ (hq _ a2) (hq _ a4)
  have h2 := hm.bnd_split C hi hl
  omega
set_option maxRecDepth 100000 in
set_option maxHeartbeats 2000000 in
theorem share_at (u v : Value) (q r : Rat) (L : Nat) (w : World) (hu : RatAt w u q L) (hv : RatAt w v r L) (hL : 1 ≤ L) (hM : L ≤ 100000) (ht : Tab w) (h0 : r ≠ 0) :
  Calls Tryz.prog 79 #[u,v] w fun e w' => ∃ x,e = .returned x ∧ RepQ w' x (q / r) ∧ Below w.heap.size w w' := by
 obtain ⟨p,ao,n,c,bo,m,d,rfl⟩ := hu.open
 obtain ⟨p2,ao2,n2,c2,bo2,m2,d2,rfl⟩ := hv.open
 have BB : Below w.heap.size w w := Below.refl _ _
 obtain ⟨Wb0,hW0,hS0,hL0,VA⟩ := V3.lay w 34 (.bool p) (.slice ao n c) (.slice bo m d)
 replace hu := hu.below hL0
 replace hv := hv.below hL0
 replace ht := ht.below hL0
 replace BB := BB.trans (hL0.mono BB.size)
 clear hL0
 obtain ⟨Wb1,hW1,hS1,hL1,VB⟩ := V3.lay Wb0 34 (.bool p2) (.slice ao2 n2 c2) (.slice bo2 m2 d2)
 rw [hS0] at VB hS1
 replace hu := hu.below hL1
 replace hv := hv.below hL1
 replace ht := ht.below hL1
 replace VA := VA.below hL1
 replace BB := BB.trans (hL1.mono BB.size)
 clear hL1
 obtain ⟨Wb2,hW2,hS2,hL2,VR⟩ := V3.lay Wb1 34 (.bool false) (.slice none 0 0) (.slice none 0 0)
 rw [hS1] at VR hS2
 replace hu := hu.below hL2
 replace hv := hv.below hL2
 replace ht := ht.below hL2
 replace VA := VA.below hL2
 replace VB := VB.below hL2
 replace BB := BB.trans (hL2.mono BB.size)
 clear hL2
 go_enter Tryz.func79,Tryz.ntmps79
 go_wp2_with fail
 rw [← hW0]
 rw [← hW1]
 rw [← hW2]
 clear hW0 hW1 hW2 hS0 hS1 hS2
 refine (qdiv_at _ _ q r L _ hu hv hL hM ht h0).mono ?_
 rintro e w1 ⟨x3,rfl,hx,b1⟩
 replace hu := hu.below b1
 replace hv := hv.below b1
 replace ht := ht.below b1
 replace VA := VA.below b1
 replace VB := VB.below b1
 replace VR := VR.below b1
 replace BB := BB.trans (b1.mono BB.size)
 clear b1
 obtain ⟨p3,a3,n3,c3,b3,m3,d3,rfl⟩ := hx.open
 clear hu hv ht
 have hne : w.heap.size + 1 + 1 ≠ w1.heap.size := Nat.ne_of_lt VR.lt
 obtain ⟨W5,hW5,hS5,hL5,VO⟩ := V3.lay w1 34 (.bool p3) (.slice a3 n3 c3) (.slice b3 m3 d3)
 replace hx := hx.below hL5
 replace VR := VR.below hL5
 replace BB := BB.trans (hL5.mono BB.size)
 have hKp := VR.keepJ (.bool p3) (.slice a3 n3 c3) (.slice b3 m3 d3)
 have hx_n := hx.keep hKp
 have BB_n := below_store3 (R := w.heap.size + 1 + 1) BB (by omega) (.bool p3) (.slice a3 n3 c3) (.slice b3 m3 d3)
 obtain ⟨o1,o2,o3,o4,o5,o6⟩ := id VO
 obtain ⟨q1,q2,q3,q4,q5,q6⟩ := id VR
 rw [hW5] at o1 o2 o3 o4 o5 o6 q1 q2 q3 q4 q5 q6 hx_n BB_n
 clear hx VR BB hKp VO hL5 VA VB
 go_wp2
 (try simp only [Exit.inBlock,Exit.then])
 refine bodyPost_ret (v := .agg #[.bool p3,.slice a3 n3 c3,.slice b3 m3 d3]) (by simp [results,go_sem,q1,q2,q3]) rfl ?_
 exact ⟨_,rfl,hx_n,BB_n⟩
set_option maxRecDepth 100000 in
set_option maxHeartbeats 1000000 in
theorem downwards_at (F : Int) (v : Value) (n : Nat) (t : Nat → Nd) (r : Nat → Cl) (L : Nat) (w : World) (hT : TRow w v n t L) (hm : MayT F t n) (hF : F ≤ 64) :
  Calls Tryz.prog 102 #[v] w fun e w' => ∃ u outs,e = .returned u ∧ IntOwn w.heap.size w' u outs ∧ QInv t n r 0 outs outs.length ∧ Below w.heap.size w w' := by
 obtain ⟨at_,ct,rfl,htc,ht63⟩ := hT.open
 go_enter Tryz.func102,Tryz.ntmps102
 go_wp2_with fail
 refine (counted_at F _ _ _ n t r 0 L _ hT (OnW.none _ _ _ _ _ ⟨_,_,_,rfl⟩) ⟨_,_,_,rfl⟩ hm hF (by omega)).mono ?_
 rintro e w1 ⟨u,outs,rfl,hO,hQ,b1⟩
 go_wp2
 go_ret
 exact ⟨_,outs,rfl,hO,hQ,b1⟩
set_option maxRecDepth 100000 in
set_option maxHeartbeats 8000000 in
theorem sums_at (F : Int) (v : Value) (n : Nat) (t : Nat → Nd) (L C : Nat) (w : World) (hT : TRow w v n t L) (hm : MayT F t n) (hF : F ≤ 64) (ht : Tab w) (hL : 1 ≤ L) (hC : 2 * L + 2 ≤ C) (hCn : n * C ≤ 30000) :
  Calls Tryz.prog 80 #[v] w fun e w' => ∃ g,e = .returned (.slice (some ⟨g,0,none⟩) n n) ∧ w.heap.size ≤ g ∧ GArr w' g n (ws t n) (n * C) ∧ Below w.heap.size w w' := by
 refine (callsIn_wide (n := 9)).1 ?_
 obtain ⟨at_,ct,rfl,htc,ht63⟩ := hT.open
 obtain ⟨i0,hi,hz0,hz1,hz2⟩ := info_parts info_wrat
 have BB : Below w.heap.size w w := Below.refl _ _
 have HT0 : Hid (TRow w (.slice at_ n ct) n t L) := hT
 have HTB : Hid (Tab w) := ht
 have HM : Hid (MayT F t n) := hm
 have hn0 : 0 < n := hm.pos
 have hn255 := hm.few
 have HZ : Hid (∀ i,i < n → qsz (t i).val ≤ L ∧ qsz (t i).cov ≤ L) := fun i hi => hT.sz11 hL hi
 obtain ⟨W1,hW1,hS1,hL1,VT⟩ := V1.lay w 48 (.slice at_ n ct)
 replace BB := BB.trans (hL1.mono BB.size)
 clear hL1 hT hm ht
 refine callsIn_of_wp_marks Tryz.func80 rfl trivial ?_
 simp only [Tryz.ntmps80,List.size_toArray,List.length_cons,List.length_nil,Nat.reduceAdd,Nat.reduceSub,Array.replicate_succ,Array.replicate_zero,List.push_toArray,List.append_toArray,List.nil_append,List.cons_append]
 obtain ⟨VT1,VT2⟩ := id VT
 rw [hW1] at VT1 VT2
 gi_wp2_with (gi_at_make; rw [← hW1]; refine wpListIn_make_full _ rfl _ _ 43 rfl _ 34 i0 (.agg #[.bool false,.slice none 0 0,.slice none 0 0]) 3 Tryz.underlying43 hi hz0 hz1 _ _ _ _ n rfl rfl (by omega) (by omega) (by rw [hz2]; omega) (by unfold maxLen; omega) (Nat.le_refl _) ?_; intro w2 hown hgrow; have hb1 := below_grown hgrow; have GA := GArr.made hown (n * C); have VT5 := VT.below hb1; obtain ⟨W3,hW3,hS3,hL3,VO⟩ := V1.lay w2 43 (.slice (some ⟨w.heap.size + 1,0,none⟩) n n); have VT6 := VT5.below hL3; obtain ⟨VT7,VT8⟩ := id VT6; rw [hW3] at VT7 VT8; clear hown hgrow VT1 VT2 hW1)
 replace BB := BB.trans (hb1.mono BB.size)
 have hg2 : W1.heap.size < w2.heap.size := GA.lt hn0
 clear hb1 hi hz0 hz1 hz2 VT VT5 VT7 VT8
 have VT := VT6
 rw [← hW3]
 replace GA := GA.below hL3
 replace BB := BB.trans (hL3.mono BB.size)
 have hgl := GA.lt hn0
 clear hL3 hW3 VT6
 have hlT := VT.lt
 have hlO := VO.lt
 rw [hS1] at GA hgl hg2
 obtain ⟨g,hg⟩ : ∃ B,B = w.heap.size + 1 := ⟨_,rfl⟩
 rw [← hg] at GA VO ⊢
 obtain ⟨Bt,hBt⟩ : ∃ B,B = w.heap.size := ⟨_,rfl⟩
 rw [← hBt] at VT ⊢
 obtain ⟨Bo,hBo⟩ : ∃ B,B = w2.heap.size := ⟨_,rfl⟩
 rw [← hBo] at VO hg2 ⊢
 rw [← hg] at hg2
 have hG : Hid (Bt = w.heap.size ∧ g = w.heap.size + 1 ∧ g < Bo ∧ Bo < W3.heap.size) := ⟨hBt,hg,hg2,by omega⟩
 clear hBt hg hBo hg2 hlT hlO hgl hS1 hS3
 have HSZ : Hid (∀ l : List Nat,(∀ x ∈ l,x < n) → ∀ j,j < n → qsz (runB (fSum t) l j) ≤ n * C) := fun l hl j hj =>
  Nat.le_trans (runB_sz (b := bnd t n C) (n := n) (fun i => Nat.le_trans (by omega) (bnd_pos (by omega) i)) (fun q i hi hq => sum_sz HM.out HZ.out hC q i hi hq) l hl j hj) (HM.out.bnd_le C hj)
 have hL9 : L ≤ 30000 := by have := Nat.mul_le_mul hn0 hC; omega
 have hNC : 1 ≤ n * C := Nat.le_trans (by omega) (Nat.mul_le_mul hn0 hC)
 refine ⟨trivial,(callsIn_wide.2 (downwards_at F _ n t (fun _ => ⟨true,0⟩) L _ (HT0.out.below BB) HM.out hF)).mono ?_⟩
 rintro e W4 ⟨u,zs,rfl,hI,hQ,b4⟩
 have HQ : Hid (QInv t n (fun _ => ⟨true,0⟩) 0 zs zs.length) := hQ
 have hK1000 : zs.length ≤ n := hQ.len
 have hne : 0 < zs.length := (List.getElem?_eq_some_iff.1 hQ.root).1
 obtain ⟨b0,cz,rfl,hcz⟩ := hI.open hne
 have hb1 := hI.both b0 rfl
 have HC : Hid (∀ j x : Nat,zs[j]? = some x → W4.cell? ⟨b0,j,none⟩ = some (.int .i64 (x : Int))) := fun j x hj => hI.cell rfl hj
 replace VT := VT.below b4
 replace VO := VO.below b4
 replace GA := GA.below b4
 replace BB := BB.trans (b4.mono BB.size)
 have hs4 := b4.size
 clear b4 hI hQ
 gi_wp2_with fail
 refine ⟨trivial,(callsIn_wide.2 (back_at _ _ _ _ _ rfl)).mono ?_⟩
 rintro e WL ⟨Bs,rfl,hs1,hs2,hcs,b5⟩
 have hs5 := b5.size
 replace VT := VT.below b5
 replace VO := VO.below b5
 replace GA := GA.below b5
 replace BB := BB.trans (b5.mono BB.size)
 have hce : ∀ j x : Nat,zs[j]? = some x → WL.cell? ⟨b0,j,none⟩ = some (.int .i64 (x : Int)) := fun j x hj => (b5.cell (p := ⟨b0,j,none⟩) hb1.2).trans (HC.out j x hj)
 clear b5 HC
 have hB : Hid (Bo ≠ g ∧ Bs ≠ g ∧ b0 ≠ g ∧ Bs < WL.heap.size ∧ b0 < WL.heap.size ∧ w.heap.size ≤ g) := by
  obtain ⟨g1,g2,g3,g4⟩ := hG.out
  exact ⟨by omega,by omega,by omega,hs2,by omega,by omega⟩
 have hbl : b0 < WL.heap.size := by omega
 have HWL : Hid (w.heap.size ≤ WL.heap.size) := BB.size
 clear hb1 hs4 hs1 hs5
 gi_wp2_with fail
 obtain ⟨K,hK⟩ : ∃ K,K = zs.length := ⟨_,rfl⟩
 rw [← hK] at hcs hcz hK1000 ⊢
 have HK : Hid (K = zs.length) := hK
 refine wpIn_rangeFunc_ownG rfl (by decide) (gf := 126) (lb := #[.pointer (some ⟨Bs,0,none⟩)]) rfl trivial (enters_of Tryz.func126 (by kernel_rfl) rfl)
  (back_stops 8 Bs b0 cz K zs (by omega) hK (by omega) hcz WL hs2 hbl hcs hce) KeepB.trans (keepB_b hs2 hbl) (Below.refl _ _) (fun _ => rfl)
  (AInv w WL (fun W => V1 W Bt (.slice at_ n ct)) Bo g n (fSum t) (n * C) zs K) (fun _ _ _ => False) (AInv.own BB.size (fun W W' row h hg hr => V1.kept11 h hg hr)) (fun c s W W' row h _ _ => h)
  ⟨VT,VO,GA,BB,KeepsOthers.refl _⟩
  (fun x => { tmps := List.toArray ((.slice at_ n ct) :: .pointer (some ⟨Bt,0,none⟩) :: .slice none 0 0 :: .pointer (some ⟨Bo,0,none⟩) :: undef :: .int .i64 (nthB zs K x.1 : Int) :: undef :: (.slice at_ n ct) :: .int .i64 (n : Int) :: (.slice (some ⟨g,0,none⟩) n n) :: (.slice at_ n ct) :: .slice (some ⟨b0,0,none⟩) K cz :: .func (.func 126) #[] #[.pointer (some ⟨Bs,0,none⟩)] :: .int .i64 ((K - 1 - x.1 : Nat) : Int) :: .int .i64 (nthB zs K x.1 : Int) :: undef :: undef :: undef :: undef :: undef :: undef :: undef :: undef :: undef :: undef :: undef :: undef :: undef :: undef :: undef :: undef :: undef :: undef :: undef :: undef :: undef :: undef :: undef :: undef :: undef :: undef :: undef :: undef :: undef :: []),defers := [] }) ?assign ?body ?done ?stop
 case assign =>
  clear hK
  intro l x W Kk hKk
  unfold backV
  gi_wp2
  exact hKk
 case stop =>
  rintro D c pre W _ _ h _
  exact h.elim
 case body =>
  clear hce hcs VT VO GA BB hK
  rintro l pre ⟨k,hkK⟩ W5 ⟨VT,VO,GA,BB,hO⟩ hlt
  have rk : RK11 WL.heap.size WL W5 W5 := ⟨hO,KeepsOthers.refl _,Below.refl _ _,hO.size⟩
  have HPL : Hid (∀ x ∈ pre.map (fun x => nthB zs K x.1),x < n) := by
   intro x hx
   obtain ⟨y,_,rfl⟩ := List.mem_map.1 hx
   have hy := y.2
   have e := HK.out
   subst e
   exact HQ.out.small _ (nthB_mem zs hy)
  obtain ⟨i,hi⟩ : ∃ i,nthB zs K k = i := ⟨_,rfl⟩
  have HI : Hid (nthB zs K k = i) := hi
  have hin : i < n := by
   rw [← hi]
   have e := HK.out
   subst e
   exact HQ.out.small _ (nthB_mem zs hkK)
  dsimp only
  rw [hi]
  clear hi hO
  have HR : Hid (∀ j,j < n → qsz (runB (fSum t) (pre.map (fun x => nthB zs K x.1)) j) ≤ n * C) := HSZ.out _ HPL.out
  have HRN : Hid (qsz (fSum t (runB (fSum t) (pre.map (fun x => nthB zs K x.1))) i) ≤ n * C) := by
   have h1 := HSZ.out (pre.map (fun x => nthB zs K x.1) ++ [i]) (fun x hx => by
    rcases List.mem_append.1 hx with h | h
    ·exact HPL.out x h
    ·simp at h; omega) i hin
   rw [runB_more] at h1
   show qsz _ ≤ n * C
   simpa [stp] using h1
  generalize hqq : runB (fSum t) (pre.map (fun x => nthB zs K x.1)) = q at GA HR HRN
  have HQQ : Hid (runB (fSum t) (pre.map (fun x => nthB zs K x.1)) = q) := hqq
  clear hqq
  have g0 : (0 : Int) ≤ (i : Int) := by omega
  have g1 : (i : Int) < (n : Int) := by omega
  have ht := HTB.out.below BB
  obtain ⟨b,off,cc,p1,a1,n1,c1,b1,m1,d1,p2,a2,n2,c2,b2,m2,d2,p3,a3,n3,c3,b3,m3,d3,hvv,hcc,hc6,NN,r1,r2,r3,i1,i2,i3⟩ := (HT0.out.below BB).at hin
  cases hvv
  clear r1 i1 i2 i3
  cases hlf : (t i).leaf
  ·obtain ⟨e1,e2,k1,k2,k3,k4,_,_⟩ := HM.out.kids hin hlf
   have HFV : Hid (fSum t q i = q (kl t i) + q (kr t i)) := by show fSum t q i = _; unfold fSum; rw [if_neg (by simp [hlf])]
   rw [hlf,e1,e2] at NN
   clear hlf e1 e2 k1 k3
   generalize kl t i = x1 at *
   generalize kr t i = x2 at *
   have f0 : (0 : Int) ≤ (x1 : Int) := by omega
   have f1 : (x1 : Int) < (n : Int) := by omega
   have f2 : (0 : Int) ≤ (x2 : Int) := by omega
   have f3 : (x2 : Int) < (n : Int) := by omega
   clear r2 r3
   obtain ⟨T_0,T_1⟩ := id VT
   obtain ⟨N_0,N_1,N_2,N_3,N_4,N_5,N_6,N_7,N_8,N_9,N_10,N_11,N_12,N_13⟩ := id NN
   obtain ⟨W41,hW41,hS41,hL41,VN,FN⟩ := V14.lay W5 61 (.bool false) (.int .i64 (t i).feat) (.bool p1) (.slice a1 n1 c1) (.slice b1 m1 d1) (.int .i64 (x1 : Int)) (.int .i64 (x2 : Int)) (.bool (t i).miss) (.bool p2) (.slice a2 n2 c2) (.slice b2 m2 d2) (.bool p3) (.slice a3 n3 c3) (.slice b3 m3 d3)
   replace VT := VT.below hL41
   replace VO := VO.below hL41
   replace GA := GA.below hL41
   replace ht := ht.below hL41
   replace rk := rk.below hL41
   replace BB := BB.trans (hL41.mono BB.size)
   clear hL41
   obtain ⟨V_0,V_1,V_2,V_3,V_4,V_5,V_6,V_7,V_8,V_9,V_10,V_11,V_12,V_13⟩ := id VN
   rw [hW41] at V_0 V_1 V_2 V_3 V_4 V_5 V_6 V_7 V_8 V_9 V_10 V_11 V_12 V_13
   gi_wp2_with fail
   clear V_0 V_1 V_2 V_3 V_4 V_5 V_6 V_7 V_8 V_9 V_10 V_11 V_12 V_13 N_0 N_1 N_2 N_3 N_4 N_5 N_6 N_7 N_8 N_9 N_10 N_11 N_12 N_13 FN NN T_0 T_1
   rw [← hW41]
   generalize W5.heap.size = R41 at *
   clear hW41 hS41
   obtain ⟨p5,a5,n5,c5,b5,m5,d5,e50,e51,e52,R5⟩ := GA.at k2
   obtain ⟨p7,a7,n7,c7,b7,m7,d7,e70,e71,e72,R7⟩ := GA.at k4
   have X5 : E3 W41 g (x1 * 3) _ _ _ := ⟨e50,e51,e52⟩
   have X7 : E3 W41 g (x2 * 3) _ _ _ := ⟨e70,e71,e72⟩
   clear e50 e51 e52 e70 e71 e72
   refine region_until_in (by rintro ⟨_,_,h⟩; exact h) (by kernel_rfl) 13 #[true,true,true,true,true,true,true,true,true,true,true,true,true,false,false] (fun aF lsd a' w' => ∃ vu0 vu1 vu2 vu3 vu4 vu5 vu6 vu7 vu8 vu9 vu10 vu11 vu12 : Value,a' = ((((((((((((aF.put (some 29) vu0).put (some 30) vu1).put (some 31) vu2).put (some 32) vu3).put (some 33) vu4).put (some 34) vu5).put (some 35) vu6).put (some 36) vu7).put (some 37) vu8).put (some 38) vu9).put (some 39) vu10).put (some 40) vu11).put (some 41) vu12 ∧ Below W41.heap.size W41 w' ∧ (lsd.getD 0 false = true → vu0 = .slice (some ⟨g,0,none⟩) n n) ∧ (lsd.getD 1 false = true → vu1 = .int .i64 (i : Int)) ∧ (lsd.getD 2 false = true → vu2 = .slice (some ⟨g,0,none⟩) n n) ∧ (lsd.getD 3 false = true → vu3 = .pointer (some ⟨R41,5,none⟩)) ∧ (lsd.getD 4 false = true → vu4 = .int .i64 (x1 : Int)) ∧ (lsd.getD 5 false = true → vu5 = .pointer (some ⟨g,x1 * 3,none⟩)) ∧ (lsd.getD 6 false = true → vu6 = .agg #[.bool p5,.slice a5 n5 c5,.slice b5 m5 d5]) ∧ (lsd.getD 7 false = true → vu7 = .slice (some ⟨g,0,none⟩) n n) ∧ (lsd.getD 8 false = true → vu8 = .pointer (some ⟨R41,6,none⟩)) ∧ (lsd.getD 9 false = true → vu9 = .int .i64 (x2 : Int)) ∧ (lsd.getD 10 false = true → vu10 = .pointer (some ⟨g,x2 * 3,none⟩)) ∧ (lsd.getD 11 false = true → vu11 = .agg #[.bool p7,.slice a7 n7 c7,.slice b7 m7 d7]) ∧ (lsd.getD 12 false = true → RepQ w' vu12 (q x1 + q x2))) (by kernel_rfl) (by decide) (by kernel_rfl) (by rfl) (by kernel_rfl) ?_ ?_ ?_
   ·exact ⟨_,_,_,_,_,_,_,_,_,_,_,_,_,by simp only [Act.put,xL4,xL5,xL6]; rfl,(Below.refl _ _).drew,fun h => absurd h (fun h => mark_none h),fun h => absurd h (fun h => mark_none h),fun h => absurd h (fun h => mark_none h),fun h => absurd h (fun h => mark_none h),fun h => absurd h (fun h => mark_none h),fun h => absurd h (fun h => mark_none h),fun h => absurd h (fun h => mark_none h),fun h => absurd h (fun h => mark_none h),fun h => absurd h (fun h => mark_none h),fun h => absurd h (fun h => mark_none h),fun h => absurd h (fun h => mark_none h),fun h => absurd h (fun h => mark_none h),fun h => absurd h (fun h => mark_none h)⟩
   ·rintro lsd au wn iu hszu ⟨vu0,vu1,vu2,vu3,vu4,vu5,vu6,vu7,vu8,vu9,vu10,vu11,vu12,rfl,hbu,fu0,fu1,fu2,fu3,fu4,fu5,fu6,fu7,fu8,fu9,fu10,fu11,fu12⟩ himu hru
    rcases (show iu = 0 ∨ iu = 1 ∨ iu = 2 ∨ iu = 3 ∨ iu = 4 ∨ iu = 5 ∨ iu = 6 ∨ iu = 7 ∨ iu = 8 ∨ iu = 9 ∨ iu = 10 ∨ iu = 11 ∨ iu = 12 by omega) with rfl | rfl | rfl | rfl | rfl | rfl | rfl | rfl | rfl | rfl | rfl | rfl | rfl
    ·refine wpOp_shut (by rfl) (fun K hK => ?_)
     simp only [Act.put,xL4,xL5,xL6]
     obtain ⟨VO_0,VO_1⟩ := VO.below hbu
     go_simp
     exact hK.out _ _ ⟨(.slice (some ⟨g,0,none⟩) n n),vu1,vu2,vu3,vu4,vu5,vu6,vu7,vu8,vu9,vu10,vu11,vu12,by simp only [Act.put,xL4,xL5,xL6],hbu,fun _ => rfl,fun h => fu1 (mark_of (by decide) h),fun h => fu2 (mark_of (by decide) h),fun h => fu3 (mark_of (by decide) h),fun h => fu4 (mark_of (by decide) h),fun h => fu5 (mark_of (by decide) h),fun h => fu6 (mark_of (by decide) h),fun h => fu7 (mark_of (by decide) h),fun h => fu8 (mark_of (by decide) h),fun h => fu9 (mark_of (by decide) h),fun h => fu10 (mark_of (by decide) h),fun h => fu11 (mark_of (by decide) h),fun h => fu12 (mark_of (by decide) h)⟩
    ·refine wpOp_shut (by rfl) (fun K hK => ?_)
     simp only [Act.put,xL4,xL5,xL6]
     go_simp
     exact hK.out _ _ ⟨vu0,(.int .i64 (i : Int)),vu2,vu3,vu4,vu5,vu6,vu7,vu8,vu9,vu10,vu11,vu12,by simp only [Act.put,xL4,xL5,xL6],hbu,fun h => fu0 (mark_of (by decide) h),fun _ => rfl,fun h => fu2 (mark_of (by decide) h),fun h => fu3 (mark_of (by decide) h),fun h => fu4 (mark_of (by decide) h),fun h => fu5 (mark_of (by decide) h),fun h => fu6 (mark_of (by decide) h),fun h => fu7 (mark_of (by decide) h),fun h => fu8 (mark_of (by decide) h),fun h => fu9 (mark_of (by decide) h),fun h => fu10 (mark_of (by decide) h),fun h => fu11 (mark_of (by decide) h),fun h => fu12 (mark_of (by decide) h)⟩
    ·refine wpOp_shut (by rfl) (fun K hK => ?_)
     simp only [Act.put,xL4,xL5,xL6]
     obtain ⟨VO_0,VO_1⟩ := VO.below hbu
     go_simp
     exact hK.out _ _ ⟨vu0,vu1,(.slice (some ⟨g,0,none⟩) n n),vu3,vu4,vu5,vu6,vu7,vu8,vu9,vu10,vu11,vu12,by simp only [Act.put,xL4,xL5,xL6],hbu,fun h => fu0 (mark_of (by decide) h),fun h => fu1 (mark_of (by decide) h),fun _ => rfl,fun h => fu3 (mark_of (by decide) h),fun h => fu4 (mark_of (by decide) h),fun h => fu5 (mark_of (by decide) h),fun h => fu6 (mark_of (by decide) h),fun h => fu7 (mark_of (by decide) h),fun h => fu8 (mark_of (by decide) h),fun h => fu9 (mark_of (by decide) h),fun h => fu10 (mark_of (by decide) h),fun h => fu11 (mark_of (by decide) h),fun h => fu12 (mark_of (by decide) h)⟩
    ·refine wpOp_shut (by rfl) (fun K hK => ?_)
     simp only [Act.put,xL4,xL5,xL6]
     go_simp
     exact hK.out _ _ ⟨vu0,vu1,vu2,(.pointer (some ⟨R41,5,none⟩)),vu4,vu5,vu6,vu7,vu8,vu9,vu10,vu11,vu12,by simp only [Act.put,xL4,xL5,xL6],hbu,fun h => fu0 (mark_of (by decide) h),fun h => fu1 (mark_of (by decide) h),fun h => fu2 (mark_of (by decide) h),fun _ => rfl,fun h => fu4 (mark_of (by decide) h),fun h => fu5 (mark_of (by decide) h),fun h => fu6 (mark_of (by decide) h),fun h => fu7 (mark_of (by decide) h),fun h => fu8 (mark_of (by decide) h),fun h => fu9 (mark_of (by decide) h),fun h => fu10 (mark_of (by decide) h),fun h => fu11 (mark_of (by decide) h),fun h => fu12 (mark_of (by decide) h)⟩
    ·have eu3 := fu3 (dep_of 3 hru rfl (by kernel_rfl))
     replace eu3 := eu3.symm
     subst eu3
     refine wpOp_shut (by rfl) (fun K hK => ?_)
     simp only [Act.put,xL4,xL5,xL6]
     obtain ⟨y0,y1,y2,y3,y4,y5,y6,y7,y8,y9,y10,y11,y12,y13⟩ := VN.below hbu
     go_simp
     exact hK.out _ _ ⟨vu0,vu1,vu2,(.pointer (some ⟨R41,5,none⟩)),(.int .i64 (x1 : Int)),vu5,vu6,vu7,vu8,vu9,vu10,vu11,vu12,by simp only [Act.put,xL4,xL5,xL6],hbu,fun h => fu0 (mark_of (by decide) h),fun h => fu1 (mark_of (by decide) h),fun h => fu2 (mark_of (by decide) h),fun _ => rfl,fun _ => rfl,fun h => fu5 (mark_of (by decide) h),fun h => fu6 (mark_of (by decide) h),fun h => fu7 (mark_of (by decide) h),fun h => fu8 (mark_of (by decide) h),fun h => fu9 (mark_of (by decide) h),fun h => fu10 (mark_of (by decide) h),fun h => fu11 (mark_of (by decide) h),fun h => fu12 (mark_of (by decide) h)⟩
    ·have eu2 := fu2 (dep_of 2 hru rfl (by kernel_rfl))
     have eu4 := fu4 (dep_of 4 hru rfl (by kernel_rfl))
     replace eu2 := eu2.symm
     subst eu2
     replace eu4 := eu4.symm
     subst eu4
     refine wpOp_shut (by rfl) (fun K hK => ?_)
     simp only [Act.put,xL4,xL5,xL6]
     go_simp
     exact hK.out _ _ ⟨vu0,vu1,(.slice (some ⟨g,0,none⟩) n n),vu3,(.int .i64 (x1 : Int)),(.pointer (some ⟨g,x1 * 3,none⟩)),vu6,vu7,vu8,vu9,vu10,vu11,vu12,by simp only [Act.put,xL4,xL5,xL6],hbu,fun h => fu0 (mark_of (by decide) h),fun h => fu1 (mark_of (by decide) h),fun _ => rfl,fun h => fu3 (mark_of (by decide) h),fun _ => rfl,fun _ => rfl,fun h => fu6 (mark_of (by decide) h),fun h => fu7 (mark_of (by decide) h),fun h => fu8 (mark_of (by decide) h),fun h => fu9 (mark_of (by decide) h),fun h => fu10 (mark_of (by decide) h),fun h => fu11 (mark_of (by decide) h),fun h => fu12 (mark_of (by decide) h)⟩
    ·have eu5 := fu5 (dep_of 5 hru rfl (by kernel_rfl))
     replace eu5 := eu5.symm
     subst eu5
     refine wpOp_shut (by rfl) (fun K hK => ?_)
     simp only [Act.put,xL4,xL5,xL6]
     obtain ⟨X5_0,X5_1,X5_2⟩ := X5.below hbu
     go_simp
     exact hK.out _ _ ⟨vu0,vu1,vu2,vu3,vu4,(.pointer (some ⟨g,x1 * 3,none⟩)),(.agg #[.bool p5,.slice a5 n5 c5,.slice b5 m5 d5]),vu7,vu8,vu9,vu10,vu11,vu12,by simp only [Act.put,xL4,xL5,xL6],hbu,fun h => fu0 (mark_of (by decide) h),fun h => fu1 (mark_of (by decide) h),fun h => fu2 (mark_of (by decide) h),fun h => fu3 (mark_of (by decide) h),fun h => fu4 (mark_of (by decide) h),fun _ => rfl,fun _ => rfl,fun h => fu7 (mark_of (by decide) h),fun h => fu8 (mark_of (by decide) h),fun h => fu9 (mark_of (by decide) h),fun h => fu10 (mark_of (by decide) h),fun h => fu11 (mark_of (by decide) h),fun h => fu12 (mark_of (by decide) h)⟩
    ·refine wpOp_shut (by rfl) (fun K hK => ?_)
     simp only [Act.put,xL4,xL5,xL6]
     obtain ⟨VO_0,VO_1⟩ := VO.below hbu
     go_simp
     exact hK.out _ _ ⟨vu0,vu1,vu2,vu3,vu4,vu5,vu6,(.slice (some ⟨g,0,none⟩) n n),vu8,vu9,vu10,vu11,vu12,by simp only [Act.put,xL4,xL5,xL6],hbu,fun h => fu0 (mark_of (by decide) h),fun h => fu1 (mark_of (by decide) h),fun h => fu2 (mark_of (by decide) h),fun h => fu3 (mark_of (by decide) h),fun h => fu4 (mark_of (by decide) h),fun h => fu5 (mark_of (by decide) h),fun h => fu6 (mark_of (by decide) h),fun _ => rfl,fun h => fu8 (mark_of (by decide) h),fun h => fu9 (mark_of (by decide) h),fun h => fu10 (mark_of (by decide) h),fun h => fu11 (mark_of (by decide) h),fun h => fu12 (mark_of (by decide) h)⟩
    ·refine wpOp_shut (by rfl) (fun K hK => ?_)
     simp only [Act.put,xL4,xL5,xL6]
     go_simp
     exact hK.out _ _ ⟨vu0,vu1,vu2,vu3,vu4,vu5,vu6,vu7,(.pointer (some ⟨R41,6,none⟩)),vu9,vu10,vu11,vu12,by simp only [Act.put,xL4,xL5,xL6],hbu,fun h => fu0 (mark_of (by decide) h),fun h => fu1 (mark_of (by decide) h),fun h => fu2 (mark_of (by decide) h),fun h => fu3 (mark_of (by decide) h),fun h => fu4 (mark_of (by decide) h),fun h => fu5 (mark_of (by decide) h),fun h => fu6 (mark_of (by decide) h),fun h => fu7 (mark_of (by decide) h),fun _ => rfl,fun h => fu9 (mark_of (by decide) h),fun h => fu10 (mark_of (by decide) h),fun h => fu11 (mark_of (by decide) h),fun h => fu12 (mark_of (by decide) h)⟩
    ·have eu8 := fu8 (dep_of 8 hru rfl (by kernel_rfl))
     replace eu8 := eu8.symm
     subst eu8
     refine wpOp_shut (by rfl) (fun K hK => ?_)
     simp only [Act.put,xL4,xL5,xL6]
     obtain ⟨y0,y1,y2,y3,y4,y5,y6,y7,y8,y9,y10,y11,y12,y13⟩ := VN.below hbu
     go_simp
     exact hK.out _ _ ⟨vu0,vu1,vu2,vu3,vu4,vu5,vu6,vu7,(.pointer (some ⟨R41,6,none⟩)),(.int .i64 (x2 : Int)),vu10,vu11,vu12,by simp only [Act.put,xL4,xL5,xL6],hbu,fun h => fu0 (mark_of (by decide) h),fun h => fu1 (mark_of (by decide) h),fun h => fu2 (mark_of (by decide) h),fun h => fu3 (mark_of (by decide) h),fun h => fu4 (mark_of (by decide) h),fun h => fu5 (mark_of (by decide) h),fun h => fu6 (mark_of (by decide) h),fun h => fu7 (mark_of (by decide) h),fun _ => rfl,fun _ => rfl,fun h => fu10 (mark_of (by decide) h),fun h => fu11 (mark_of (by decide) h),fun h => fu12 (mark_of (by decide) h)⟩
    ·have eu7 := fu7 (dep_of 7 hru rfl (by kernel_rfl))
     have eu9 := fu9 (dep_of 9 hru rfl (by kernel_rfl))
     replace eu7 := eu7.symm
     subst eu7
     replace eu9 := eu9.symm
     subst eu9
     refine wpOp_shut (by rfl) (fun K hK => ?_)
     simp only [Act.put,xL4,xL5,xL6]
     go_simp
     exact hK.out _ _ ⟨vu0,vu1,vu2,vu3,vu4,vu5,vu6,(.slice (some ⟨g,0,none⟩) n n),vu8,(.int .i64 (x2 : Int)),(.pointer (some ⟨g,x2 * 3,none⟩)),vu11,vu12,by simp only [Act.put,xL4,xL5,xL6],hbu,fun h => fu0 (mark_of (by decide) h),fun h => fu1 (mark_of (by decide) h),fun h => fu2 (mark_of (by decide) h),fun h => fu3 (mark_of (by decide) h),fun h => fu4 (mark_of (by decide) h),fun h => fu5 (mark_of (by decide) h),fun h => fu6 (mark_of (by decide) h),fun _ => rfl,fun h => fu8 (mark_of (by decide) h),fun _ => rfl,fun _ => rfl,fun h => fu11 (mark_of (by decide) h),fun h => fu12 (mark_of (by decide) h)⟩
    ·have eu10 := fu10 (dep_of 10 hru rfl (by kernel_rfl))
     replace eu10 := eu10.symm
     subst eu10
     refine wpOp_shut (by rfl) (fun K hK => ?_)
     simp only [Act.put,xL4,xL5,xL6]
     obtain ⟨X7_0,X7_1,X7_2⟩ := X7.below hbu
     go_simp
     exact hK.out _ _ ⟨vu0,vu1,vu2,vu3,vu4,vu5,vu6,vu7,vu8,vu9,(.pointer (some ⟨g,x2 * 3,none⟩)),(.agg #[.bool p7,.slice a7 n7 c7,.slice b7 m7 d7]),vu12,by simp only [Act.put,xL4,xL5,xL6],hbu,fun h => fu0 (mark_of (by decide) h),fun h => fu1 (mark_of (by decide) h),fun h => fu2 (mark_of (by decide) h),fun h => fu3 (mark_of (by decide) h),fun h => fu4 (mark_of (by decide) h),fun h => fu5 (mark_of (by decide) h),fun h => fu6 (mark_of (by decide) h),fun h => fu7 (mark_of (by decide) h),fun h => fu8 (mark_of (by decide) h),fun h => fu9 (mark_of (by decide) h),fun _ => rfl,fun _ => rfl,fun h => fu12 (mark_of (by decide) h)⟩
    ·have eu6 := fu6 (dep_of 6 hru rfl (by kernel_rfl))
     have eu11 := fu11 (dep_of 11 hru rfl (by kernel_rfl))
     replace eu6 := eu6.symm
     subst eu6
     replace eu11 := eu11.symm
     subst eu11
     refine wpOp_shut (by rfl) (fun K hK => ?_)
     simp only [Act.put,xL4,xL5,xL6]
     have ht := ht.below hbu
     have R5 := R5.below hbu
     have R7 := R7.below hbu
     go_simp
     refine (qadd_at _ _ (q x1) (q x2) (n * C) _ R5 R7 hNC (by omega) ht).mono ?_
     rintro eu wx ⟨x6,rfl,h6,bu⟩
     go_wp2_with fail
     have hbu2 := hbu.trans (bu.mono hbu.size)
     exact hK.out _ _ ⟨vu0,vu1,vu2,vu3,vu4,vu5,(.agg #[.bool p5,.slice a5 n5 c5,.slice b5 m5 d5]),vu7,vu8,vu9,vu10,(.agg #[.bool p7,.slice a7 n7 c7,.slice b7 m7 d7]),_,by simp only [Act.put,xL4,xL5,xL6],hbu2,fun h => fu0 (mark_of (by decide) h),fun h => fu1 (mark_of (by decide) h),fun h => fu2 (mark_of (by decide) h),fun h => fu3 (mark_of (by decide) h),fun h => fu4 (mark_of (by decide) h),fun h => fu5 (mark_of (by decide) h),fun _ => rfl,fun h => fu7 (mark_of (by decide) h),fun h => fu8 (mark_of (by decide) h),fun h => fu9 (mark_of (by decide) h),fun h => fu10 (mark_of (by decide) h),fun _ => rfl,fun _ => h6⟩
   rintro au Wu42 ⟨vu0,vu1,vu2,vu3,vu4,vu5,vu6,vu7,vu8,vu9,vu10,vu11,vu12,rfl,hbu,fu0,fu1,fu2,fu3,fu4,fu5,fu6,fu7,fu8,fu9,fu10,fu11,fu12⟩
   have eu0 := (fu0 rfl).symm
   subst eu0
   have eu1 := (fu1 rfl).symm
   subst eu1
   have eu2 := (fu2 rfl).symm
   subst eu2
   have eu3 := (fu3 rfl).symm
   subst eu3
   have eu4 := (fu4 rfl).symm
   subst eu4
   have eu5 := (fu5 rfl).symm
   subst eu5
   have eu6 := (fu6 rfl).symm
   subst eu6
   have eu7 := (fu7 rfl).symm
   subst eu7
   have eu8 := (fu8 rfl).symm
   subst eu8
   have eu9 := (fu9 rfl).symm
   subst eu9
   have eu10 := (fu10 rfl).symm
   subst eu10
   have eu11 := (fu11 rfl).symm
   subst eu11
   have h6 := fu12 rfl
   clear fu0 fu1 fu2 fu3 fu4 fu5 fu6 fu7 fu8 fu9 fu10 fu11 fu12
   have hlX5 : g < W41.heap.size := X5.lt
   have hlX7 : g < W41.heap.size := X7.lt
   replace VT := VT.below hbu
   replace VO := VO.below hbu
   replace GA := GA.below hbu
   replace ht := ht.below hbu
   replace rk := rk.below hbu
   replace VN := VN.below hbu
   replace R5 := R5.below hbu
   replace R7 := R7.below hbu
   replace X5 := X5.below hbu
   replace X7 := X7.below hbu
   replace BB := BB.trans (hbu.mono BB.size)
   clear hbu
   obtain ⟨p6,a6,n6,c6,b6,m6,d6,rfl⟩ := h6.open
   rw [← HFV.out] at h6
   simp only [Act.put,xL4,xL5,xL6]
   refine xR [13] (h := ?_)
   refine AllReadyH.cons (by rfl) (fun K hK => ?_) AllReadyH.nil
   go_simp
   refine hK.out _ _ trivial (fun _ => ?_)
   clear hK K
   simp only [Act.put,xL4,xL5,xL6]
   refine xR [14] (h := ?_)
   refine AllReadyH.cons (by rfl) (fun K hK => ?_) AllReadyH.nil
   obtain ⟨⟨u0,u1,u2,s0,s1,s2,s3,s4,s5⟩,FIN⟩ := AInv.put (E := fun W => V1 W Bt (.slice (some ⟨b,off,none⟩) n ct)) (x := ⟨k,hkK⟩) (fun W W2 h e => V1.block11 e (h _ (by have := hG.out; omega))) hB VT VO (HQQ.out.symm ▸ GA) BB rk HI.out hin (by rw [HQQ.out]; exact h6.at _ HRN.out)
   go_simp
   clear s0 s1 s2 s3 s4 s5
   refine hK.out _ _ trivial (fun _ => ?_)
   clear hK K
   simp only [Act.put,xL4,xL5,xL6]
   refine wpAnyH_done (by kernel_rfl) ?_ _
   exact FIN
  ·have HFV : Hid (fSum t q i = (t i).val * (t i).cov) := by show fSum t q i = _; unfold fSum; rw [if_pos hlf]
   rw [hlf] at NN
   clear hlf
   obtain ⟨T_0,T_1⟩ := id VT
   obtain ⟨N_0,N_1,N_2,N_3,N_4,N_5,N_6,N_7,N_8,N_9,N_10,N_11,N_12,N_13⟩ := id NN
   obtain ⟨W41,hW41,hS41,hL41,VN,FN⟩ := V14.lay W5 61 (.bool true) (.int .i64 (t i).feat) (.bool p1) (.slice a1 n1 c1) (.slice b1 m1 d1) (.int .i64 (t i).left) (.int .i64 (t i).right) (.bool (t i).miss) (.bool p2) (.slice a2 n2 c2) (.slice b2 m2 d2) (.bool p3) (.slice a3 n3 c3) (.slice b3 m3 d3)
   replace VT := VT.below hL41
   replace VO := VO.below hL41
   replace GA := GA.below hL41
   replace ht := ht.below hL41
   replace rk := rk.below hL41
   replace r2 := r2.below hL41
   replace r3 := r3.below hL41
   replace BB := BB.trans (hL41.mono BB.size)
   clear hL41
   obtain ⟨V_0,V_1,V_2,V_3,V_4,V_5,V_6,V_7,V_8,V_9,V_10,V_11,V_12,V_13⟩ := id VN
   rw [hW41] at V_0 V_1 V_2 V_3 V_4 V_5 V_6 V_7 V_8 V_9 V_10 V_11 V_12 V_13
   gi_wp2_with fail
   clear V_0 V_1 V_2 V_3 V_4 V_5 V_6 V_7 V_8 V_9 V_10 V_11 V_12 V_13 N_0 N_1 N_2 N_3 N_4 N_5 N_6 N_7 N_8 N_9 N_10 N_11 N_12 N_13 FN NN T_0 T_1
   rw [← hW41]
   generalize W5.heap.size = R41 at *
   clear hW41 hS41
   refine region_until_in (by rintro ⟨_,_,h⟩; exact h) (by kernel_rfl) 7 #[true,true,true,true,true,true,true,false,false] (fun aF lsd a' w' => ∃ vu0 vu1 vu2 vu3 vu4 vu5 vu6 : Value,a' = ((((((aF.put (some 21) vu0).put (some 22) vu1).put (some 23) vu2).put (some 24) vu3).put (some 25) vu4).put (some 26) vu5).put (some 27) vu6 ∧ Below W41.heap.size W41 w' ∧ (lsd.getD 0 false = true → vu0 = .slice (some ⟨g,0,none⟩) n n) ∧ (lsd.getD 1 false = true → vu1 = .int .i64 (i : Int)) ∧ (lsd.getD 2 false = true → vu2 = .pointer (some ⟨R41,8,none⟩)) ∧ (lsd.getD 3 false = true → vu3 = .agg #[.bool p2,.slice a2 n2 c2,.slice b2 m2 d2]) ∧ (lsd.getD 4 false = true → vu4 = .pointer (some ⟨R41,11,none⟩)) ∧ (lsd.getD 5 false = true → vu5 = .agg #[.bool p3,.slice a3 n3 c3,.slice b3 m3 d3]) ∧ (lsd.getD 6 false = true → RepQ w' vu6 ((t i).val * (t i).cov))) (by kernel_rfl) (by decide) (by kernel_rfl) (by rfl) (by kernel_rfl) ?_ ?_ ?_
   ·exact ⟨_,_,_,_,_,_,_,by simp only [Act.put,xL4,xL5,xL6]; rfl,(Below.refl _ _).drew,fun h => absurd h (fun h => mark_none h),fun h => absurd h (fun h => mark_none h),fun h => absurd h (fun h => mark_none h),fun h => absurd h (fun h => mark_none h),fun h => absurd h (fun h => mark_none h),fun h => absurd h (fun h => mark_none h),fun h => absurd h (fun h => mark_none h)⟩
   ·rintro lsd au wn iu hszu ⟨vu0,vu1,vu2,vu3,vu4,vu5,vu6,rfl,hbu,fu0,fu1,fu2,fu3,fu4,fu5,fu6⟩ himu hru
    rcases (show iu = 0 ∨ iu = 1 ∨ iu = 2 ∨ iu = 3 ∨ iu = 4 ∨ iu = 5 ∨ iu = 6 by omega) with rfl | rfl | rfl | rfl | rfl | rfl | rfl
    ·refine wpOp_shut (by rfl) (fun K hK => ?_)
     simp only [Act.put,xL4,xL5,xL6]
     obtain ⟨VO_0,VO_1⟩ := VO.below hbu
     go_simp
     exact hK.out _ _ ⟨(.slice (some ⟨g,0,none⟩) n n),vu1,vu2,vu3,vu4,vu5,vu6,by simp only [Act.put,xL4,xL5,xL6],hbu,fun _ => rfl,fun h => fu1 (mark_of (by decide) h),fun h => fu2 (mark_of (by decide) h),fun h => fu3 (mark_of (by decide) h),fun h => fu4 (mark_of (by decide) h),fun h => fu5 (mark_of (by decide) h),fun h => fu6 (mark_of (by decide) h)⟩
    ·refine wpOp_shut (by rfl) (fun K hK => ?_)
     simp only [Act.put,xL4,xL5,xL6]
     go_simp
     exact hK.out _ _ ⟨vu0,(.int .i64 (i : Int)),vu2,vu3,vu4,vu5,vu6,by simp only [Act.put,xL4,xL5,xL6],hbu,fun h => fu0 (mark_of (by decide) h),fun _ => rfl,fun h => fu2 (mark_of (by decide) h),fun h => fu3 (mark_of (by decide) h),fun h => fu4 (mark_of (by decide) h),fun h => fu5 (mark_of (by decide) h),fun h => fu6 (mark_of (by decide) h)⟩
    ·refine wpOp_shut (by rfl) (fun K hK => ?_)
     simp only [Act.put,xL4,xL5,xL6]
     go_simp
     exact hK.out _ _ ⟨vu0,vu1,(.pointer (some ⟨R41,8,none⟩)),vu3,vu4,vu5,vu6,by simp only [Act.put,xL4,xL5,xL6],hbu,fun h => fu0 (mark_of (by decide) h),fun h => fu1 (mark_of (by decide) h),fun _ => rfl,fun h => fu3 (mark_of (by decide) h),fun h => fu4 (mark_of (by decide) h),fun h => fu5 (mark_of (by decide) h),fun h => fu6 (mark_of (by decide) h)⟩
    ·have eu2 := fu2 (dep_of 2 hru rfl (by kernel_rfl))
     replace eu2 := eu2.symm
     subst eu2
     refine wpOp_shut (by rfl) (fun K hK => ?_)
     simp only [Act.put,xL4,xL5,xL6]
     obtain ⟨y0,y1,y2,y3,y4,y5,y6,y7,y8,y9,y10,y11,y12,y13⟩ := VN.below hbu
     go_simp
     exact hK.out _ _ ⟨vu0,vu1,(.pointer (some ⟨R41,8,none⟩)),(.agg #[.bool p2,.slice a2 n2 c2,.slice b2 m2 d2]),vu4,vu5,vu6,by simp only [Act.put,xL4,xL5,xL6],hbu,fun h => fu0 (mark_of (by decide) h),fun h => fu1 (mark_of (by decide) h),fun _ => rfl,fun _ => rfl,fun h => fu4 (mark_of (by decide) h),fun h => fu5 (mark_of (by decide) h),fun h => fu6 (mark_of (by decide) h)⟩
    ·refine wpOp_shut (by rfl) (fun K hK => ?_)
     simp only [Act.put,xL4,xL5,xL6]
     go_simp
     exact hK.out _ _ ⟨vu0,vu1,vu2,vu3,(.pointer (some ⟨R41,11,none⟩)),vu5,vu6,by simp only [Act.put,xL4,xL5,xL6],hbu,fun h => fu0 (mark_of (by decide) h),fun h => fu1 (mark_of (by decide) h),fun h => fu2 (mark_of (by decide) h),fun h => fu3 (mark_of (by decide) h),fun _ => rfl,fun h => fu5 (mark_of (by decide) h),fun h => fu6 (mark_of (by decide) h)⟩
    ·have eu4 := fu4 (dep_of 4 hru rfl (by kernel_rfl))
     replace eu4 := eu4.symm
     subst eu4
     refine wpOp_shut (by rfl) (fun K hK => ?_)
     simp only [Act.put,xL4,xL5,xL6]
     obtain ⟨y0,y1,y2,y3,y4,y5,y6,y7,y8,y9,y10,y11,y12,y13⟩ := VN.below hbu
     go_simp
     exact hK.out _ _ ⟨vu0,vu1,vu2,vu3,(.pointer (some ⟨R41,11,none⟩)),(.agg #[.bool p3,.slice a3 n3 c3,.slice b3 m3 d3]),vu6,by simp only [Act.put,xL4,xL5,xL6],hbu,fun h => fu0 (mark_of (by decide) h),fun h => fu1 (mark_of (by decide) h),fun h => fu2 (mark_of (by decide) h),fun h => fu3 (mark_of (by decide) h),fun _ => rfl,fun _ => rfl,fun h => fu6 (mark_of (by decide) h)⟩
    ·have eu3 := fu3 (dep_of 3 hru rfl (by kernel_rfl))
     have eu5 := fu5 (dep_of 5 hru rfl (by kernel_rfl))
     replace eu3 := eu3.symm
     subst eu3
     replace eu5 := eu5.symm
     subst eu5
     refine wpOp_shut (by rfl) (fun K hK => ?_)
     simp only [Act.put,xL4,xL5,xL6]
     have ht := ht.below hbu
     have r2 := r2.below hbu
     have r3 := r3.below hbu
     go_simp
     refine (qmul_at _ _ (t i).val (t i).cov L _ r2 r3 hL (by omega) ht).mono ?_
     rintro eu wx ⟨x6,rfl,h6,bu⟩
     go_wp2_with fail
     have hbu2 := hbu.trans (bu.mono hbu.size)
     exact hK.out _ _ ⟨vu0,vu1,vu2,(.agg #[.bool p2,.slice a2 n2 c2,.slice b2 m2 d2]),vu4,(.agg #[.bool p3,.slice a3 n3 c3,.slice b3 m3 d3]),_,by simp only [Act.put,xL4,xL5,xL6],hbu2,fun h => fu0 (mark_of (by decide) h),fun h => fu1 (mark_of (by decide) h),fun h => fu2 (mark_of (by decide) h),fun _ => rfl,fun h => fu4 (mark_of (by decide) h),fun _ => rfl,fun _ => h6⟩
   rintro au Wu42 ⟨vu0,vu1,vu2,vu3,vu4,vu5,vu6,rfl,hbu,fu0,fu1,fu2,fu3,fu4,fu5,fu6⟩
   have eu0 := (fu0 rfl).symm
   subst eu0
   have eu1 := (fu1 rfl).symm
   subst eu1
   have eu2 := (fu2 rfl).symm
   subst eu2
   have eu3 := (fu3 rfl).symm
   subst eu3
   have eu4 := (fu4 rfl).symm
   subst eu4
   have eu5 := (fu5 rfl).symm
   subst eu5
   have h6 := fu6 rfl
   clear fu0 fu1 fu2 fu3 fu4 fu5 fu6
   replace VT := VT.below hbu
   replace VO := VO.below hbu
   replace GA := GA.below hbu
   replace ht := ht.below hbu
   replace rk := rk.below hbu
   replace r2 := r2.below hbu
   replace r3 := r3.below hbu
   replace VN := VN.below hbu
   replace BB := BB.trans (hbu.mono BB.size)
   clear hbu
   obtain ⟨p6,a6,n6,c6,b6,m6,d6,rfl⟩ := h6.open
   rw [← HFV.out] at h6
   simp only [Act.put,xL4,xL5,xL6]
   refine xR [7] (h := ?_)
   refine AllReadyH.cons (by rfl) (fun K hK => ?_) AllReadyH.nil
   go_simp
   refine hK.out _ _ trivial (fun _ => ?_)
   clear hK K
   simp only [Act.put,xL4,xL5,xL6]
   refine xR [8] (h := ?_)
   refine AllReadyH.cons (by rfl) (fun K hK => ?_) AllReadyH.nil
   obtain ⟨⟨u0,u1,u2,s0,s1,s2,s3,s4,s5⟩,FIN⟩ := AInv.put (E := fun W => V1 W Bt (.slice (some ⟨b,off,none⟩) n ct)) (x := ⟨k,hkK⟩) (fun W W2 h e => V1.block11 e (h _ (by have := hG.out; omega))) hB VT VO (HQQ.out.symm ▸ GA) BB rk HI.out hin (by rw [HQQ.out]; exact h6.at _ HRN.out)
   go_simp
   clear s0 s1 s2 s3 s4 s5
   refine hK.out _ _ trivial (fun _ => ?_)
   clear hK K
   simp only [Act.put,xL4,xL5,xL6]
   refine wpAnyH_done (by kernel_rfl) ?_ _
   exact FIN
 case done =>
  rintro D ys W5 hD rfl ⟨VT,VO,GA,BB,hO⟩ hKD
  clear hce hcs
  have hMk : Marks w.heap.size W5 [{ target := .collected D,args := #[] }] := ⟨D,rfl,Nat.le_trans HWL.out hD,hKD,by simp,trivial⟩
  have e9 : (finsB K K).map (fun x => nthB zs K x.1) = zs.reverse := by
   have e := HK.out
   subst e
   exact finsB_all zs
  rw [e9] at GA
  replace GA := GA.congr (q' := ws t n) (fun i hi => HM.out.run_sum HQ.out hi)
  clear e9 hKD hO hK
  obtain ⟨VO1,VO2⟩ := id VO
  gi_wp2_with fail
  refine leaves_marksF (B := w.heap.size) _ _ hMk BB.size ?_
  intro W' hb hcl
  refine ⟨.slice (some ⟨g,0,none⟩) n n,by simp [results,go_sem],g,rfl,hB.out.2.2.2.2.2,GA.left hcl,BB.trans hb⟩
end Go.Proofs.YtjmagcgobhaenaaGreatDoor

namespace Go.Proofs.YtjmagcgobhaenaaGreatDoor
open Go.RowKit
set_option linter.unusedVariables false
set_option linter.unusedSimpArgs false
def SumV (w : World) (v : Value) (n : Nat) (q : Nat → Rat) (L : Nat) : Prop := ∃ g,v = .slice (some ⟨g,0,none⟩) n n ∧ GArr w g n q L
def PtrV (w : World) (v : Value) (n : Nat) (q : Nat → Rat) (L : Nat) : Prop := ∃ g,v = .pointer (some ⟨g,0,none⟩) ∧ GArr w g n q L
theorem SumV.below {w w' : World} {v : Value} {n : Nat} {q : Nat → Rat} {L : Nat} (h : SumV w v n q L) (hb : Below w.heap.size w w') : SumV w' v n q L := let ⟨g,e,G⟩ := h; ⟨g,e,G.below hb⟩
theorem PtrV.below {w w' : World} {v : Value} {n : Nat} {q : Nat → Rat} {L : Nat} (h : PtrV w v n q L) (hb : Below w.heap.size w w') : PtrV w' v n q L := let ⟨g,e,G⟩ := h; ⟨g,e,G.below hb⟩
theorem ws_sz {F : Int} {t : Nat → Nd} {n L C : Nat} (hm : MayT F t n) (hz : ∀ i,i < n → qsz (t i).val ≤ L ∧ qsz (t i).cov ≤ L) (hC : 2 * L + 2 ≤ C) {M : Nat} (hM : n * C ≤ M) : ∀ {x : Nat},x < n → qsz (ws t n x) ≤ M := by
 intro x hx
 refine Nat.le_trans ?_ (Nat.le_trans (hm.bnd_le C hx) hM)
 refine hm.by_tree (P := fun x => qsz (ws t n x) ≤ bnd t n C x) (fun x hx hl => ?_) (fun x hx hl a b => ?_) hx
 ·rw [ws_leaf hl]
  have h1 := qsz_mul _ _ (hz x hx).1 (hz x hx).2
  have h2 := bnd_pos (t := t) (n := n) (C := C) (by omega) x
  omega
 ·rw [hm.ws_split hx hl]
  have h1 := qsz_add _ _ a b
  have h2 := hm.bnd_split C hx hl
  omega

def NArr (w : World) (g n k : Nat) (p q : Nat → Rat) (L : Nat) : Prop := ∃ el,Arr3 w g n el ∧ (∀ j,j < n → j < k → RepQ w (elv el j) (p j)) ∧ ∀ j,j < n → ¬ j < k → RatAt w (elv el j) (q j) L
theorem NArr.below {w w' : World} {g n k : Nat} {p q : Nat → Rat} {L : Nat} (h : NArr w g n k p q L) (hb : Below w.heap.size w w') : NArr w' g n k p q L := let ⟨el,a,b,c⟩ := h; ⟨el,a.below hb,fun j h1 h2 => (b j h1 h2).below hb,fun j h1 h2 => (c j h1 h2).below hb⟩
theorem GArr.narr {w : World} {g n : Nat} {q : Nat → Rat} {L : Nat} (h : GArr w g n q L) (p : Nat → Rat) : NArr w g n 0 p q L := let ⟨el,a,b⟩ := h; ⟨el,a,fun j _ h => by omega,fun j h1 _ => b j h1⟩
theorem NArr.put {w : World} {g n k : Nat} {p q : Nat → Rat} {L : Nat} (h : NArr w g n k p q L) (hk : k < n) {pp : Bool} {a b : Option Addr} {n1 c m d : Nat} (hr : RepQ w (.agg #[.bool pp,.slice a n1 c,.slice b m d]) (p k)) : ∃ u0 u1 u2,w.cell? ⟨g,k * 3,none⟩ = some u0 ∧ w.cell? ⟨g,k * 3 + 1,none⟩ = some u1 ∧ w.cell? ⟨g,k * 3 + 2,none⟩ = some u2 ∧ w.frozen? ⟨g,k * 3,none⟩ = false ∧ w.frozen? ⟨g,k * 3 + 1,none⟩ = false ∧ w.frozen? ⟨g,k * 3 + 2,none⟩ = false ∧
  NArr (((w.setCell ⟨g,k * 3,none⟩ (.bool pp)).setCell ⟨g,k * 3 + 1,none⟩ (.slice a n1 c)).setCell ⟨g,k * 3 + 2,none⟩ (.slice b m d)) g n (k + 1) p q L := by
 obtain ⟨el,A,R1,R2⟩ := h
 obtain ⟨A2,K2⟩ := A.set k hk (.bool pp) (.slice a n1 c) (.slice b m d) (num_bool _) (num_slice _ _ _) (num_slice _ _ _)
 refine ⟨_,_,_,A.1 k hk 0 (by omega),A.1 k hk 1 (by omega),A.1 k hk 2 (by omega),A.2.1 k hk 0 (by omega),A.2.1 k hk 1 (by omega),A.2.1 k hk 2 (by omega),_,A2,fun j hj h1 => ?_,fun j hj h1 => ?_⟩
 ·by_cases e : j = k
  ·subst e
   have := hr.keep K2
   simpa [elv,upd3] using this
  ·have := (R1 j hj (by omega)).keep K2
   simp only [elv,upd3_other el k j _ _ _ e] at *
   exact this
 ·have e : j ≠ k := by omega
  have := (R2 j hj (by omega)).keep K2
  simp only [elv,upd3_other el k j _ _ _ e] at *
  exact this
theorem NArr.at {w : World} {g n k : Nat} {p q : Nat → Rat} {L : Nat} (h : NArr w g n k p q L) (hk : k < n) : ∃ p1 ao m d bo k1 e,w.cell? ⟨g,k * 3,none⟩ = some (.bool p1) ∧ w.cell? ⟨g,k * 3 + 1,none⟩ = some (.slice ao m d) ∧ w.cell? ⟨g,k * 3 + 2,none⟩ = some (.slice bo k1 e) ∧ RatAt w (.agg #[.bool p1,.slice ao m d,.slice bo k1 e]) (q k) L := by
 obtain ⟨el,A,R1,R2⟩ := h
 have hr := R2 k hk (by omega)
 obtain ⟨p1,ao,m,d,bo,k1,e,he⟩ := hr.open
 have h0 := A.1 k hk 0 (by omega)
 have h1 := A.1 k hk 1 (by omega)
 have h2 := A.1 k hk 2 (by omega)
 unfold elv at he hr
 simp only [Value.agg.injEq,Array.mk.injEq,List.cons.injEq,and_true] at he
 obtain ⟨e0,e1,e2⟩ := he
 rw [e0] at h0
 rw [e1] at h1
 rw [e2] at h2
 rw [e0,e1,e2] at hr
 exact ⟨p1,ao,m,d,bo,k1,e,h0,h1,h2,hr⟩
theorem NArr.row {w : World} {g n : Nat} {p q : Nat → Rat} {L : Nat} (h : NArr w g n n p q L) (hn : n ≤ 100000) : FRow w (.slice (some ⟨g,0,none⟩) n n) n p :=
 let ⟨el,a,b,c⟩ := h; ⟨el,a.row n n (Nat.le_refl _) (Nat.le_refl _) (by omega),fun j hj => b j hj hj⟩
def meanN (t : Nat → Nd) (n i : Nat) : Rat := ws t n i / (t i).cov
set_option maxRecDepth 100000 in
set_option maxHeartbeats 16000000 in
theorem nodes_yes (F : Int) (v : Value) (n : Nat) (t : Nat → Nd) (L C : Nat) (w : World) (hv : TRow w v n t L) (ht : Tab w) (hL : 1 ≤ L) (hC : 2 * L + 2 ≤ C) (hCn : 255 * C ≤ 10000) (hw : mayB F 1 (fun _ => n) (fun _ => t) = true) :
  Calls Tryz.prog 120 #[v,.int .i64 F] w fun e w' => ∃ u,e = .returned (.tuple #[u,.int .i64 0]) ∧ FRow w' u n (meanN t n) ∧ Below w.heap.size w w' := by
 obtain ⟨ao,c,rfl,hnc,hc63⟩ := hv.open
 have BB : Below w.heap.size w w := Below.refl _ _
 go_enter Tryz.func120,Tryz.ntmps120
 go_wp2_with fail
 refine (tree_may F _ n t L _ hv ht hL (by omega)).mono ?_
 rintro e w1 ⟨rfl,b1⟩
 have HT0 : Hid (TRow w (.slice ao n c) n t L) := hv
 have HB0 : Hid (Tab w) := ht
 clear hv ht
 replace BB := BB.trans (b1.mono BB.size)
 clear b1
 rw [hw]
 obtain ⟨_,hF64,_,hmy⟩ := mayB_may hw
 have HM : Hid (MayT F t n) := hmy 0 (by omega)
 clear hmy hw
 have hn0 : 0 < n := HM.out.pos
 have hn255 : n ≤ 255 := HM.out.few
 have hnC : n * C ≤ 10000 := Nat.le_trans (Nat.mul_le_mul_right C hn255) hCn
 have hNC : 1 ≤ n * C := Nat.le_trans (by omega) (Nat.mul_le_mul hn0 hC)
 have hLC : L ≤ n * C := Nat.le_trans (by omega) (Nat.mul_le_mul hn0 hC)
 go_wp2_with fail
 refine (sums_at F _ n t L C _ (HT0.out.below BB) HM.out hF64 (HB0.out.below BB) hL hC (by omega)).mono ?_
 rintro e w2 ⟨G,rfl,hG,GA,b2⟩
 have hGB : w.heap.size ≤ G := Nat.le_trans BB.size hG
 replace BB := BB.trans (b2.mono BB.size)
 have NA := GA.narr (meanN t n)
 clear b2 GA
 go_wp2
 go_loopw [17] (fun vi wr => ∃ i : Nat,i ≤ n ∧ vi = .int .i64 (i : Int) ∧ NArr wr G n i (meanN t n) (ws t n) (n * C) ∧ Below w.heap.size w wr) (fun vi _ => n - (intOf vi).toNat)
 case atStart => exact ⟨0,by omega,rfl,NA,BB⟩
 case round =>
  clear NA BB hG
  obtain ⟨i,hi,rfl,NA,BB⟩ := hrel
  by_cases hlt : i < n
  ·have g1 : (i : Int) < (n : Int) := by omega
   have g0 : (0 : Int) ≤ (i : Int) := by omega
   have hcn : (t i).cov ≠ 0 := fun e => by have := HM.out.cov i hlt; rw [e] at this; exact absurd this (by decide)
   have HMV : Hid (meanN t n i = ws t n i / (t i).cov) := rfl
   obtain ⟨b9,off9,cc9,p1,a1,n1,c1,b1,m1,d1,p2,a2,n2,c2,b2,m2,d2,p3,a3,n3,c3,b3,m3,d3,hvv,hcc9,hc6,NN,r1,r2,rc,i1,i2,i3⟩ := (HT0.out.below BB).at hlt
   cases hvv
   have ht := HB0.out.below BB
   clear r1 r2 i1 i2 i3
   obtain ⟨N_0,N_1,N_2,N_3,N_4,N_5,N_6,N_7,N_8,N_9,N_10,N_11,N_12,N_13⟩ := id NN
   obtain ⟨W51,hW51,hS51,hL51,VN,FN⟩ := V14.lay wr 61 (.bool (t i).leaf) (.int .i64 (t i).feat) (.bool p1) (.slice a1 n1 c1) (.slice b1 m1 d1) (.int .i64 (t i).left) (.int .i64 (t i).right) (.bool (t i).miss) (.bool p2) (.slice a2 n2 c2) (.slice b2 m2 d2) (.bool p3) (.slice a3 n3 c3) (.slice b3 m3 d3)
   replace NA := NA.below hL51
   replace ht := ht.below hL51
   replace rc := rc.below hL51
   replace BB := BB.trans (hL51.mono BB.size)
   clear hL51
   obtain ⟨V_0,V_1,V_2,V_3,V_4,V_5,V_6,V_7,V_8,V_9,V_10,V_11,V_12,V_13⟩ := id VN
   rw [hW51] at V_0 V_1 V_2 V_3 V_4 V_5 V_6 V_7 V_8 V_9 V_10 V_11 V_12 V_13
   go_wp2
   clear V_0 V_1 V_2 V_3 V_4 V_5 V_6 V_7 V_8 V_9 V_10 V_11 V_12 V_13
   clear N_0 N_1 N_2 N_3 N_4 N_5 N_6 N_7 N_8 N_9 N_10 N_11 N_12 N_13
   rw [← hW51]
   generalize wr.heap.size = R51 at *
   clear hW51 hS51
   obtain ⟨p5,a5,n5,c5,b5,m5,d5,e50,e51,e52,R5⟩ := NA.at hlt
   have X5 : E3 W51 G (i * 3) _ _ _ := ⟨e50,e51,e52⟩
   clear e50 e51 e52
   refine wp_region_until 9 #[true,true,true,true,true,true,true,true,true,false,false] (fun aF lsd a' w' => ∃ vu0 vu1 vu2 vu3 vu4 vu5 vu6 vu7 vu8 : Value,a' = ((((((((aF.put (some 22) vu0).put (some 23) vu1).put (some 24) vu2).put (some 25) vu3).put (some 26) vu4).put (some 27) vu5).put (some 28) vu6).put (some 29) vu7).put (some 30) vu8 ∧ Below W51.heap.size W51 w' ∧ (lsd.getD 0 false = true → vu0 = .slice (some ⟨G,0,none⟩) n n) ∧ (lsd.getD 1 false = true → vu1 = .int .i64 (i : Int)) ∧ (lsd.getD 2 false = true → vu2 = .slice (some ⟨G,0,none⟩) n n) ∧ (lsd.getD 3 false = true → vu3 = .int .i64 (i : Int)) ∧ (lsd.getD 4 false = true → vu4 = .pointer (some ⟨G,i * 3,none⟩)) ∧ (lsd.getD 5 false = true → vu5 = .agg #[.bool p5,.slice a5 n5 c5,.slice b5 m5 d5]) ∧ (lsd.getD 6 false = true → vu6 = .pointer (some ⟨R51,11,none⟩)) ∧ (lsd.getD 7 false = true → vu7 = .agg #[.bool p3,.slice a3 n3 c3,.slice b3 m3 d3]) ∧ (lsd.getD 8 false = true → RepQ w' vu8 (ws t n i / (t i).cov))) (by kernel_rfl) (by decide) (by kernel_rfl) (by rfl) (by kernel_rfl) ?_ ?_ ?_
   ·exact ⟨_,_,_,_,_,_,_,_,_,by simp only [Act.put,xL4,xL5,xL6]; rfl,(Below.refl _ _).drew,fun h => absurd h (fun h => mark_none h),fun h => absurd h (fun h => mark_none h),fun h => absurd h (fun h => mark_none h),fun h => absurd h (fun h => mark_none h),fun h => absurd h (fun h => mark_none h),fun h => absurd h (fun h => mark_none h),fun h => absurd h (fun h => mark_none h),fun h => absurd h (fun h => mark_none h),fun h => absurd h (fun h => mark_none h)⟩
   ·rintro lsd au wn iu hszu ⟨vu0,vu1,vu2,vu3,vu4,vu5,vu6,vu7,vu8,rfl,hbu,fu0,fu1,fu2,fu3,fu4,fu5,fu6,fu7,fu8⟩ himu hru
    rcases (show iu = 0 ∨ iu = 1 ∨ iu = 2 ∨ iu = 3 ∨ iu = 4 ∨ iu = 5 ∨ iu = 6 ∨ iu = 7 ∨ iu = 8 by omega) with rfl | rfl | rfl | rfl | rfl | rfl | rfl | rfl | rfl
    ·refine wpOp_shut (by rfl) (fun K hK => ?_)
     simp only [Act.put,xL4,xL5,xL6]
     go_simp
     exact hK.out _ _ ⟨(.slice (some ⟨G,0,none⟩) n n),vu1,vu2,vu3,vu4,vu5,vu6,vu7,vu8,by simp only [Act.put,xL4,xL5,xL6],hbu,fun _ => rfl,fun h => fu1 (mark_of (by decide) h),fun h => fu2 (mark_of (by decide) h),fun h => fu3 (mark_of (by decide) h),fun h => fu4 (mark_of (by decide) h),fun h => fu5 (mark_of (by decide) h),fun h => fu6 (mark_of (by decide) h),fun h => fu7 (mark_of (by decide) h),fun h => fu8 (mark_of (by decide) h)⟩
    ·refine wpOp_shut (by rfl) (fun K hK => ?_)
     simp only [Act.put,xL4,xL5,xL6]
     go_simp
     exact hK.out _ _ ⟨vu0,(.int .i64 (i : Int)),vu2,vu3,vu4,vu5,vu6,vu7,vu8,by simp only [Act.put,xL4,xL5,xL6],hbu,fun h => fu0 (mark_of (by decide) h),fun _ => rfl,fun h => fu2 (mark_of (by decide) h),fun h => fu3 (mark_of (by decide) h),fun h => fu4 (mark_of (by decide) h),fun h => fu5 (mark_of (by decide) h),fun h => fu6 (mark_of (by decide) h),fun h => fu7 (mark_of (by decide) h),fun h => fu8 (mark_of (by decide) h)⟩
    ·refine wpOp_shut (by rfl) (fun K hK => ?_)
     simp only [Act.put,xL4,xL5,xL6]
     go_simp
     exact hK.out _ _ ⟨vu0,vu1,(.slice (some ⟨G,0,none⟩) n n),vu3,vu4,vu5,vu6,vu7,vu8,by simp only [Act.put,xL4,xL5,xL6],hbu,fun h => fu0 (mark_of (by decide) h),fun h => fu1 (mark_of (by decide) h),fun _ => rfl,fun h => fu3 (mark_of (by decide) h),fun h => fu4 (mark_of (by decide) h),fun h => fu5 (mark_of (by decide) h),fun h => fu6 (mark_of (by decide) h),fun h => fu7 (mark_of (by decide) h),fun h => fu8 (mark_of (by decide) h)⟩
    ·refine wpOp_shut (by rfl) (fun K hK => ?_)
     simp only [Act.put,xL4,xL5,xL6]
     go_simp
     exact hK.out _ _ ⟨vu0,vu1,vu2,(.int .i64 (i : Int)),vu4,vu5,vu6,vu7,vu8,by simp only [Act.put,xL4,xL5,xL6],hbu,fun h => fu0 (mark_of (by decide) h),fun h => fu1 (mark_of (by decide) h),fun h => fu2 (mark_of (by decide) h),fun _ => rfl,fun h => fu4 (mark_of (by decide) h),fun h => fu5 (mark_of (by decide) h),fun h => fu6 (mark_of (by decide) h),fun h => fu7 (mark_of (by decide) h),fun h => fu8 (mark_of (by decide) h)⟩
    ·have eu2 := fu2 (dep_of 2 hru rfl (by kernel_rfl))
     have eu3 := fu3 (dep_of 3 hru rfl (by kernel_rfl))
     replace eu2 := eu2.symm
     subst eu2
     replace eu3 := eu3.symm
     subst eu3
     refine wpOp_shut (by rfl) (fun K hK => ?_)
     simp only [Act.put,xL4,xL5,xL6]
     go_simp
     exact hK.out _ _ ⟨vu0,vu1,(.slice (some ⟨G,0,none⟩) n n),(.int .i64 (i : Int)),(.pointer (some ⟨G,i * 3,none⟩)),vu5,vu6,vu7,vu8,by simp only [Act.put,xL4,xL5,xL6],hbu,fun h => fu0 (mark_of (by decide) h),fun h => fu1 (mark_of (by decide) h),fun _ => rfl,fun _ => rfl,fun _ => rfl,fun h => fu5 (mark_of (by decide) h),fun h => fu6 (mark_of (by decide) h),fun h => fu7 (mark_of (by decide) h),fun h => fu8 (mark_of (by decide) h)⟩
    ·have eu4 := fu4 (dep_of 4 hru rfl (by kernel_rfl))
     replace eu4 := eu4.symm
     subst eu4
     refine wpOp_shut (by rfl) (fun K hK => ?_)
     simp only [Act.put,xL4,xL5,xL6]
     obtain ⟨X5_0,X5_1,X5_2⟩ := X5.below hbu
     go_simp
     exact hK.out _ _ ⟨vu0,vu1,vu2,vu3,(.pointer (some ⟨G,i * 3,none⟩)),(.agg #[.bool p5,.slice a5 n5 c5,.slice b5 m5 d5]),vu6,vu7,vu8,by simp only [Act.put,xL4,xL5,xL6],hbu,fun h => fu0 (mark_of (by decide) h),fun h => fu1 (mark_of (by decide) h),fun h => fu2 (mark_of (by decide) h),fun h => fu3 (mark_of (by decide) h),fun _ => rfl,fun _ => rfl,fun h => fu6 (mark_of (by decide) h),fun h => fu7 (mark_of (by decide) h),fun h => fu8 (mark_of (by decide) h)⟩
    ·refine wpOp_shut (by rfl) (fun K hK => ?_)
     simp only [Act.put,xL4,xL5,xL6]
     go_simp
     exact hK.out _ _ ⟨vu0,vu1,vu2,vu3,vu4,vu5,(.pointer (some ⟨R51,11,none⟩)),vu7,vu8,by simp only [Act.put,xL4,xL5,xL6],hbu,fun h => fu0 (mark_of (by decide) h),fun h => fu1 (mark_of (by decide) h),fun h => fu2 (mark_of (by decide) h),fun h => fu3 (mark_of (by decide) h),fun h => fu4 (mark_of (by decide) h),fun h => fu5 (mark_of (by decide) h),fun _ => rfl,fun h => fu7 (mark_of (by decide) h),fun h => fu8 (mark_of (by decide) h)⟩
    ·have eu6 := fu6 (dep_of 6 hru rfl (by kernel_rfl))
     replace eu6 := eu6.symm
     subst eu6
     refine wpOp_shut (by rfl) (fun K hK => ?_)
     simp only [Act.put,xL4,xL5,xL6]
     obtain ⟨y0,y1,y2,y3,y4,y5,y6,y7,y8,y9,y10,y11,y12,y13⟩ := VN.below hbu
     go_simp
     exact hK.out _ _ ⟨vu0,vu1,vu2,vu3,vu4,vu5,(.pointer (some ⟨R51,11,none⟩)),(.agg #[.bool p3,.slice a3 n3 c3,.slice b3 m3 d3]),vu8,by simp only [Act.put,xL4,xL5,xL6],hbu,fun h => fu0 (mark_of (by decide) h),fun h => fu1 (mark_of (by decide) h),fun h => fu2 (mark_of (by decide) h),fun h => fu3 (mark_of (by decide) h),fun h => fu4 (mark_of (by decide) h),fun h => fu5 (mark_of (by decide) h),fun _ => rfl,fun _ => rfl,fun h => fu8 (mark_of (by decide) h)⟩
    ·have eu5 := fu5 (dep_of 5 hru rfl (by kernel_rfl))
     have eu7 := fu7 (dep_of 7 hru rfl (by kernel_rfl))
     replace eu5 := eu5.symm
     subst eu5
     replace eu7 := eu7.symm
     subst eu7
     refine wpOp_shut (by rfl) (fun K hK => ?_)
     simp only [Act.put,xL4,xL5,xL6]
     have ht := ht.below hbu
     have rc := rc.below hbu
     have R5 := R5.below hbu
     go_simp
     refine (share_at _ _ (ws t n i) (t i).cov (n * C) _ R5 (rc.le hLC) hNC (by omega) ht hcn).mono ?_
     rintro eu wx ⟨x6,rfl,hx,bu⟩
     go_wp2_with fail
     have hbu2 := hbu.trans (bu.mono hbu.size)
     exact hK.out _ _ ⟨vu0,vu1,vu2,vu3,vu4,(.agg #[.bool p5,.slice a5 n5 c5,.slice b5 m5 d5]),vu6,(.agg #[.bool p3,.slice a3 n3 c3,.slice b3 m3 d3]),_,by simp only [Act.put,xL4,xL5,xL6],hbu2,fun h => fu0 (mark_of (by decide) h),fun h => fu1 (mark_of (by decide) h),fun h => fu2 (mark_of (by decide) h),fun h => fu3 (mark_of (by decide) h),fun h => fu4 (mark_of (by decide) h),fun _ => rfl,fun h => fu6 (mark_of (by decide) h),fun _ => rfl,fun _ => hx⟩
   rintro au Wu52 ⟨vu0,vu1,vu2,vu3,vu4,vu5,vu6,vu7,vu8,rfl,hbu,fu0,fu1,fu2,fu3,fu4,fu5,fu6,fu7,fu8⟩
   have eu0 := (fu0 rfl).symm
   subst eu0
   have eu1 := (fu1 rfl).symm
   subst eu1
   have eu2 := (fu2 rfl).symm
   subst eu2
   have eu3 := (fu3 rfl).symm
   subst eu3
   have eu4 := (fu4 rfl).symm
   subst eu4
   have eu5 := (fu5 rfl).symm
   subst eu5
   have eu6 := (fu6 rfl).symm
   subst eu6
   have eu7 := (fu7 rfl).symm
   subst eu7
   have hx := fu8 rfl
   clear fu0 fu1 fu2 fu3 fu4 fu5 fu6 fu7 fu8
   have hlX5 : G < W51.heap.size := X5.lt
   replace NA := NA.below hbu
   replace ht := ht.below hbu
   replace rc := rc.below hbu
   replace VN := VN.below hbu
   replace R5 := R5.below hbu
   replace X5 := X5.below hbu
   replace BB := BB.trans (hbu.mono BB.size)
   clear hbu
   rw [← HMV.out] at hx
   obtain ⟨p6,a6,n6,c6,b6,m6,d6,rfl⟩ := hx.open
   simp only [Act.put,xL4,xL5,xL6]
   refine xR [9] (h := ?_)
   refine AllReadyH.cons (by rfl) (fun K hK => ?_) AllReadyH.nil
   go_simp
   refine hK.out _ _ trivial (fun _ => ?_)
   clear hK K
   simp only [Act.put,xL4,xL5,xL6]
   refine xR [10] (h := ?_)
   refine AllReadyH.cons (by rfl) (fun K hK => ?_) AllReadyH.nil
   obtain ⟨u0,u1,u2,x0,x1,x2,y0,y1,y2,NA2⟩ := NA.put hlt hx
   have BB2 : Below w.heap.size w (((Wu52.setCell ⟨G,i * 3,none⟩ (.bool p6)).setCell ⟨G,i * 3 + 1,none⟩ (.slice a6 n6 c6)).setCell ⟨G,i * 3 + 2,none⟩ (.slice b6 m6 d6)) := ((BB.setCell hGB _).setCell hGB _).setCell hGB _
   go_simp
   clear x0 x1 x2 y0 y1 y2
   refine hK.out _ _ trivial (fun _ => ?_)
   clear hK K
   simp only [Act.put,xL4,xL5,xL6]
   refine wpAnyH_done (by kernel_rfl) ?_ _
   go_wp2
   go_roundw
   case rel => exact ⟨i + 1,by omega,by go_num,NA2,BB2⟩
   case measure => simp [intOf]; omega
  ·obtain rfl : i = n := by omega
   have g1 : ¬ (i : Int) < (i : Int) := by omega
   go_wp2
   go_ret2
   exact ⟨_,rfl,NA.row (by omega),BB⟩

theorem mayB_one {F : Int} {k : Nat} {N : Nat → Nat} {T : Nat → Nat → Nd} (h : mayB F k N T = true) {i : Nat} (hi : i < k) : mayB F 1 (fun _ => N i) (fun _ => T i) = true := by
 unfold mayB at h ⊢
 have h := @of_decide_eq_true _ (Classical.propDecidable _) h
 refine @decide_eq_true _ (Classical.propDecidable _) ?_
 rcases h with ⟨_,e⟩ | ⟨hf,x,hx,e⟩
 ·simp at e
 ·rcases hx with ⟨rfl,hx⟩ | ⟨r,j,er,nd,hr,hj,rfl,h1,_⟩
  ·refine .inr ⟨?_,none,.inl ⟨rfl,fun r hr j hj => hx r hr i hi⟩,rfl⟩
   unfold mfit at hf ⊢
   simp only [Bool.and_eq_true,decide_eq_true_eq,Option.isNone_iff_eq_none] at hf ⊢
   refine ⟨⟨hf.1.1,by omega⟩,?_⟩
   have := fb_is hf.2 i hi
   exact fb_none (fun j hj => this)
  ·have := rl_err h1
   simp [fltV] at e
   omega
structure Sp where
 tree : Nat
 node : Nat
 feat : Nat
 add : Rat
def spAt (t : Nat → Nd) (n i : Nat) (zs : List Nat) (k : Nat) : Sp := ⟨i,zs.getD k 0,(t (zs.getD k 0)).feat.toNat,meanN t n (zs.getD (k + 1) 0) - meanN t n (zs.getD k 0)⟩
def spL (t : Nat → Nd) (n i : Nat) (zs : List Nat) (k : Nat) : List Sp := (List.range k).map (spAt t n i zs)
theorem spL_len (t : Nat → Nd) (n i : Nat) (zs : List Nat) (k : Nat) : (spL t n i zs k).length = k := by simp [spL]
theorem spL_more (t : Nat → Nd) (n i : Nat) (zs : List Nat) (k : Nat) : spL t n i zs (k + 1) = spL t n i zs k ++ [spAt t n i zs k] := by simp [spL,List.range_succ]
def spT (T : Nat → Nat → Nd) (N : Nat → Nat) (r : Nat → Cl) (i : Nat) : List Sp := spL (T i) (N i) i (way (T i) (N i) r 0) ((way (T i) (N i) r 0).length - 1)
def spA (T : Nat → Nat → Nd) (N : Nat → Nat) (r : Nat → Cl) : Nat → List Sp
 | 0 => []
 | i + 1 => spA T N r i ++ spT T N r i
def SpAt (w : World) (el : Nat → Value) (d : Sp) : Prop := el 0 = .int .i64 (d.tree : Int) ∧ el 1 = .int .i64 (d.node : Int) ∧ el 2 = .int .i64 (d.feat : Int) ∧ ∃ p a n c b m e,el 3 = .bool p ∧ el 4 = .slice a n c ∧ el 5 = .slice b m e ∧ RepQ w (.agg #[.bool p,.slice a n c,.slice b m e]) d.add
theorem spEl : ElG 6 SpAt where
 keep := fun ⟨a,b,c,p,x,n,d,y,m,e,h1,h2,h3,h4⟩ hk => ⟨a,b,c,p,x,n,d,y,m,e,h1,h2,h3,h4.keepL hk⟩
 congr := fun ⟨a,b,c,p,x,n,d,y,m,e,h1,h2,h3,h4⟩ he => ⟨(he 0 (by omega)).symm.trans a,(he 1 (by omega)).symm.trans b,(he 2 (by omega)).symm.trans c,p,x,n,d,y,m,e,(he 3 (by omega)).symm.trans h1,(he 4 (by omega)).symm.trans h2,(he 5 (by omega)).symm.trans h3,h4⟩
def SOwn12 (B : Nat) (w : World) (v : Value) (l : List Sp) : Prop := GOwn 79 6 SpAt B w v l
def SRow12 (w : World) (v : Value) (l : List Sp) : Prop := GRow 6 SpAt w v l
theorem SOwn12.below {B : Nat} {w w' : World} {v : Value} {l : List Sp} (h : SOwn12 B w v l) (hb : Below w.heap.size w w') : SOwn12 B w' v l := GOwn.later h spEl hb
theorem SRow12.below {w w' : World} {v : Value} {l : List Sp} (h : SRow12 w v l) (hb : Below w.heap.size w w') : SRow12 w' v l := GRow.below h spEl hb
theorem SOwn12.row {B : Nat} {w : World} {v : Value} {l : List Sp} (h : SOwn12 B w v l) : SRow12 w v l := GOwn.row h spEl
theorem SRow12.at {w : World} {v : Value} {l : List Sp} (h : SRow12 w v l) {i : Nat} {d : Sp} (hi : l[i]? = some d) : ∃ b off c p a1 n1 c1 b1 m1 d1,v = .slice (some ⟨b,off,none⟩) l.length c ∧ l.length ≤ c ∧ w.cell? ⟨b,off + i * 6,none⟩ = some (.int .i64 (d.tree : Int)) ∧ w.cell? ⟨b,off + i * 6 + 1,none⟩ = some (.int .i64 (d.node : Int)) ∧ w.cell? ⟨b,off + i * 6 + 2,none⟩ = some (.int .i64 (d.feat : Int)) ∧ w.cell? ⟨b,off + i * 6 + 3,none⟩ = some (.bool p) ∧ w.cell? ⟨b,off + i * 6 + 3 + 1,none⟩ = some (.slice a1 n1 c1) ∧ w.cell? ⟨b,off + i * 6 + 3 + 2,none⟩ = some (.slice b1 m1 d1) ∧ RepQ w (.agg #[.bool p,.slice a1 n1 c1,.slice b1 m1 d1]) d.add := by
 obtain ⟨b,off,c,e,h1,h2,h3,a,b',c',p,x,n,dd,y,m,ee,h4,h5,h6,h7⟩ := GRow.at h hi
 have k0 := h3 0 (by omega); have k1 := h3 1 (by omega); have k2 := h3 2 (by omega); have k3 := h3 3 (by omega); have k4 := h3 4 (by omega); have k5 := h3 5 (by omega)
 rw [a] at k0; rw [b'] at k1; rw [c'] at k2; rw [h4] at k3; rw [h5] at k4; rw [h6] at k5
 exact ⟨b,off,c,p,x,n,dd,y,m,ee,h1,h2,k0,k1,k2,k3,k4,k5,h7⟩
theorem info_step : (Tryz.prog.info? 79).map (fun i => (i.zero,i.size,i.bytes)) = some (some (.agg #[.int .i64 0,.int .i64 0,.int .i64 0,.bool false,.slice none 0 0,.slice none 0 0]),6,80) := by kernel_rfl

theorem sp_limb (x y z : Int) (p : Bool) (a b : Option Addr) (n c m d : Nat) : ∀ u ∈ [Value.int .i64 x,.int .i64 y,.int .i64 z,.bool p,.slice a n c,.slice b m d],¬ IsLimb u := by
 intro u hu
 simp only [List.mem_cons,List.not_mem_nil,or_false] at hu
 rcases hu with rfl | rfl | rfl | rfl | rfl | rfl
 ·exact limb_int _
 ·exact limb_int _
 ·exact limb_int _
 ·exact limb_bool _
 ·exact limb_slice _ _ _
 ·exact limb_slice _ _ _
theorem sp_one {w : World} {d : Sp} {x y z : Int} {p : Bool} {a b : Option Addr} {n c m e : Nat} (h0 : x = (d.tree : Int)) (h1 : y = (d.node : Int)) (h2 : z = (d.feat : Int)) (h : RepQ w (.agg #[.bool p,.slice a n c,.slice b m e]) d.add) : ∀ i s,[d][i]? = some s → SpAt w (fun j => [Value.int .i64 x,.int .i64 y,.int .i64 z,.bool p,.slice a n c,.slice b m e].getD (i * 6 + j) undef) s := by
 intro i s hi
 match i,hi with
 | 0,hi =>
  cases hi
  subst h0 h1 h2
  exact ⟨rfl,rfl,rfl,p,a,n,c,b,m,e,rfl,rfl,rfl,h⟩
 | i + 1,hi => simp at hi
theorem meanN_sz {F : Int} {t : Nat → Nd} {n L C : Nat} (hm : MayT F t n) (hz : ∀ i,i < n → qsz (t i).val ≤ L ∧ qsz (t i).cov ≤ L) (hC : 2 * L + 2 ≤ C) (hCn : 255 * C ≤ 10000) {x : Nat} (hx : x < n) : qsz (meanN t n x) ≤ 20000 := by
 have h1 := ws_sz hm hz hC (Nat.le_refl (n * C)) hx
 have h2 := Nat.le_trans (Nat.mul_le_mul_right C hm.few) hCn
 have h3 := qsz_div _ _ h1 (hz x hx).2
 unfold meanN
 omega
structure ZCel (w : World) (g : Nat) (zs : List Nat) : Prop where
 cell : ∀ j x : Nat,zs[j]? = some x → w.cell? ⟨g,j,none⟩ = some (.int .i64 (x : Int))
theorem MayT.way_in {F : Int} {t : Nat → Nd} {n : Nat} (h : MayT F t n) (r : Nat → Cl) {x : Nat} (hx : x < n) : ∀ (j y : Nat),(way t n r x)[j]? = some y → j + 1 < (way t n r x).length → y < n ∧ (t y).leaf = false := by
 refine h.by_way r (P := fun x => ∀ (j y : Nat),(way t n r x)[j]? = some y → j + 1 < (way t n r x).length → y < n ∧ (t y).leaf = false) (fun x hx hl => ?_) (fun x hx hl ih => ?_) hx
 ·rw [way_leaf hl]
  intro j y hj h2
  simp at h2
 ·rw [h.way_split r hx hl]
  intro j y hj h2
  match j,hj with
  | 0,hj => cases hj; exact ⟨hx,hl⟩
  | j + 1,hj => exact ih j y hj (by simpa using h2)
set_option maxRecDepth 100000 in
set_option maxHeartbeats 16000000 in
theorem taken_at (i : Nat) (vt vr : Value) (n nr : Nat) (t : Nat → Nd) (r : Nat → Cl) (L C : Nat) (w : World) (hT : TRow w vt n t L) (hR : CRow w vr nr r L) (hTb : Tab w) (hL : 1 ≤ L) (hC : 2 * L + 2 ≤ C) (hCn : 255 * C ≤ 10000) (hB : mayB (nr : Int) 1 (fun _ => n) (fun _ => t) = true) (hm : MayT (nr : Int) t n) :
  Calls Tryz.prog 74 #[.int .i64 (i : Int),vt,vr] w fun e w' => ∃ u,e = .returned u ∧ SOwn12 w.heap.size w' u (spL t n i (way t n r 0) ((way t n r 0).length - 1)) ∧ ((way t n r 0).length = 1 → u = .slice none 0 0) ∧ Below w.heap.size w w' := by
 obtain ⟨at_,ct,rfl,htc,ht63⟩ := hT.open
 obtain ⟨ar,cr,rfl,hrc,hr63⟩ := hR.open
 have HM : Hid (MayT (nr : Int) t n) := hm
 have hn0 : 0 < n := hm.pos
 have hn255 := hm.few
 have HZ : Hid (∀ x,x < n → qsz (meanN t n x) ≤ 20000) := fun x hx => meanN_sz hm (fun j hj => hT.sz11 hL hj) hC hCn hx
 have HW0 : Hid (∀ x ∈ way t n r 0,x < n) := hm.way_small r hn0
 have HWL : Hid ((way t n r 0).length + lvl t n 0 ≤ n + 1) := hm.way_len r hn0
 have HWN : Hid (0 < (way t n r 0).length) := List.length_pos_iff.2 (way_ne t n r 0)
 have HFT : Hid (∀ (j x : Nat),(way t n r 0)[j]? = some x → j + 1 < (way t n r 0).length → ∃ f : Nat,(t x).feat = (f : Int)) := fun j x hj hl => by
  have h1 := hm.way_in r hn0 j x hj hl
  have h2 := hm.feat x h1.1 h1.2
  exact ⟨(t x).feat.toNat,by omega⟩
 clear hm
 go_enter Tryz.func74,Tryz.ntmps74
 go_wp2_with fail
 refine (rway_yes _ _ n nr t r L _ hT hR hTb hL (by omega) hB HM.out).mono ?_
 rintro e w1 ⟨vw,rfl,OW,b1⟩
 go_wp2_with fail
 refine (nodes_yes (nr : Int) _ n t L C _ (hT.below b1) (hTb.below b1) hL hC hCn hB).mono ?_
 rintro e w2 ⟨vs,rfl,FS,b2⟩
 have BW : Hid (Below w.heap.size w w2) := b1.trans (b2.mono b1.size)
 have HT2 : Hid (TRow w2 (.slice at_ n ct) n t L) := hT.below BW.out
 have HB2 : Hid (Tab w2) := hTb.below BW.out
 have OW2 := OW.later b2
 obtain ⟨as_,cs_,rfl⟩ := FS.open
 have HF2 : Hid (FRow w2 (.slice as_ n cs_) n (meanN t n)) := FS
 clear hT hR hTb OW b1 b2 FS hB
 obtain ⟨zs,hzs⟩ : ∃ zs,way t n r 0 = zs := ⟨_,rfl⟩
 have HZS : Hid (way t n r 0 = zs) := hzs
 rw [hzs] at HW0 HWL HWN HFT OW2
 clear hzs
 obtain ⟨gw,cw,rfl,hcw⟩ := OW2.open HWN.out
 obtain ⟨m,hm⟩ : ∃ m,zs.length = m := ⟨_,rfl⟩
 have HML : Hid (zs.length = m) := hm
 have ZW : ZCel w2 gw zs := ⟨fun j x hj => OW2.cell rfl hj⟩
 have HZW : Hid (ZCel w2 gw zs) := ZW
 have hm1 : 0 < m := by have := HWN.out; omega
 have hm2 : m ≤ 256 := by have := HWL.out; omega
 rw [hm] at hcw HFT ⊢
 clear hm ZW OW2 HWL HWN
 have BB : Below w2.heap.size w2 w2 := Below.refl _ _
 go_wp2
 go_loopw [11,31] (fun vo vk wr => ∃ k : Nat,k + 1 ≤ m ∧ vk = .int .i64 (k : Int) ∧ SOwn12 w2.heap.size wr vo (spL t n i zs k) ∧ (k = 0 → vo = .slice none 0 0) ∧ Below w2.heap.size w2 wr) (fun _ vk _ => m - (intOf vk).toNat)
 case atStart => exact ⟨0,by omega,rfl,GOwn.nil,fun _ => rfl,BB⟩
 case round =>
  clear BB
  obtain ⟨k,hk,rfl,OS,hnil,BB⟩ := hrel
  obtain ⟨ao,co,rfl,hco⟩ := GOwn.form OS
  rw [spL_len] at hco hnil ⊢
  have HNL : Hid (k = 0 → Value.slice ao k co = .slice none 0 0) := hnil
  clear hnil
  by_cases hlt : k + 1 < m
  ·obtain ⟨k2,hk2⟩ : ∃ k2,k2 = k + 1 := ⟨_,rfl⟩
   have wk : IntKind.i64.wrap ((k : Int) + 1) = (k2 : Int) := by rw [IntKind.wrap_i64]; omega
   have g0 : (0 : Int) ≤ (k : Int) := by omega
   have g1 : (k : Int) < (m : Int) - 1 := by omega
   have g2 : (k : Int) < (m : Int) := by omega
   have g3 : (0 : Int) ≤ (k2 : Int) := by omega
   have g4 : (k2 : Int) < (m : Int) := by omega
   obtain ⟨x,hx⟩ : ∃ x,zs[k]? = some x := ⟨_,List.getElem?_eq_getElem (by have := HML.out; omega)⟩
   obtain ⟨y,hy⟩ : ∃ y,zs[k2]? = some y := ⟨_,List.getElem?_eq_getElem (by have := HML.out; omega)⟩
   have hxn : x < n := HW0.out x (List.mem_of_getElem? hx)
   have hyn : y < n := HW0.out y (List.mem_of_getElem? hy)
   have C1 : Hid (Cel10 w2 gw k (.int .i64 (x : Int))) := ⟨HZW.out.cell k x hx⟩
   have C2 : Hid (Cel10 w2 gw k2 (.int .i64 (y : Int))) := ⟨HZW.out.cell k2 y hy⟩
   obtain ⟨f,hf⟩ : ∃ f : Nat,(t x).feat = (f : Int) := HFT.out k x hx (by omega)
   have HSA : Hid (spAt t n i zs k = ⟨i,x,f,meanN t n y - meanN t n x⟩) := by
    show spAt t n i zs k = _
    unfold spAt
    rw [← hk2]
    simp only [List.getD_eq_getElem?_getD,hx,hy,Option.getD_some,hf,Int.toNat_natCast]
   clear hx hy
   have f0 : (0 : Int) ≤ (x : Int) := by omega
   have f1 : (x : Int) < (n : Int) := by omega
   have f2 : (0 : Int) ≤ (y : Int) := by omega
   have f3 : (y : Int) < (n : Int) := by omega
   obtain ⟨b,off,cc,p1x,a1x,n1x,c1x,b1x,m1x,d1x,p2x,a2x,n2x,c2x,b2x,m2x,d2x,p3x,a3x,n3x,c3x,b3x,m3x,d3x,hvv,hcc_,hc6,NN,r1,r2,r3,i1,i2,i3⟩ := HT2.out.at hxn
   cases hvv
   have CF : Hid (Cel10 w2 b (off + x * 14 + 1) (.int .i64 (f : Int))) := by have h9 := NN.c1; rw [hf] at h9; exact ⟨h9⟩
   clear NN r1 r2 r3 i1 i2 i3 hf
   obtain ⟨bX,oX,cX,pX,aX,nX,eX,yX,mX,dX,hvX,_,EX,rX⟩ := HF2.out.at x hxn
   cases hvX
   have EX0 : Hid (Cel10 w2 bX (oX + x * 3) (.bool pX)) := ⟨EX.1⟩
   have EX1 : Hid (Cel10 w2 bX (oX + x * 3 + 1) (.slice aX nX eX)) := ⟨EX.2.1⟩
   have EX2 : Hid (Cel10 w2 bX (oX + x * 3 + 2) (.slice yX mX dX)) := ⟨EX.2.2⟩
   have HX : Hid (RepQ w2 (.agg #[.bool pX,.slice aX nX eX,.slice yX mX dX]) (meanN t n x)) := rX
   clear EX rX
   obtain ⟨bY,oY,cY,pY,aY,nY,eY,yY,mY,dY,hvY,_,EY,rY⟩ := HF2.out.at y hyn
   cases hvY
   have EY0 : Hid (Cel10 w2 bX (oX + y * 3) (.bool pY)) := ⟨EY.1⟩
   have EY1 : Hid (Cel10 w2 bX (oX + y * 3 + 1) (.slice aY nY eY)) := ⟨EY.2.1⟩
   have EY2 : Hid (Cel10 w2 bX (oX + y * 3 + 2) (.slice yY mY dY)) := ⟨EY.2.2⟩
   have HY : Hid (RepQ w2 (.agg #[.bool pY,.slice aY nY eY,.slice yY mY dY]) (meanN t n y)) := rY
   clear EY rY
   have HK2 : Hid (k2 = k + 1) := hk2
   clear hk2
   go_wp2
   have hDr : Below wr.heap.size wr wr.drew := (Below.refl _ _).drew
   replace OS := OS.below hDr
   replace BB := BB.trans (hDr.mono BB.size)
   clear hDr
   refine wp_region_held_drew (S := (fun w' => w'.cell? ⟨gw,k,none⟩ = some (.int .i64 (x : Int)) ∧ w'.cell? ⟨gw,k2,none⟩ = some (.int .i64 (y : Int)))) (by kernel_rfl) ?_ (fun hHeld => ?_)
   ·exact ⟨(C1.out.below BB).cell,(C2.out.below BB).cell⟩
   generalize wr.drew = W41 at *
   refine xT 0 (v := ?_) (hy := Or.inl ⟨by rfl,?_⟩) (h := ?_)
   rotate_left
   ·(intro w hSw; (try dsimp only at hSw); go_simp; (try with_reducible rfl))
   (try simp only [Act.put,xL4,xL5,xL6])
   refine xT 1 (v := ?_) (hy := Or.inl ⟨by rfl,?_⟩) (h := ?_)
   rotate_left
   ·(intro w hSw; (try dsimp only at hSw); go_simp; (try with_reducible rfl))
   (try simp only [Act.put,xL4,xL5,xL6])
   refine xT 2 (v := ?_) (hy := Or.inl ⟨by rfl,?_⟩) (h := ?_)
   rotate_left
   ·(intro w hSw; (try dsimp only at hSw); go_simp; (try with_reducible rfl))
   (try simp only [Act.put,xL4,xL5,xL6])
   refine xT 3 (v := ?_) (hy := Or.inl ⟨by rfl,?_⟩) (h := ?_)
   rotate_left
   ·(intro w hSw; (try dsimp only at hSw); go_simp; (try with_reducible rfl))
   (try simp only [Act.put,xL4,xL5,xL6])
   refine xT 4 (v := ?_) (hy := Or.inl ⟨by rfl,?_⟩) (h := ?_)
   rotate_left
   ·(intro w hSw; (try dsimp only at hSw); go_simp; (try with_reducible rfl))
   (try simp only [Act.put,xL4,xL5,xL6])
   refine xT 5 (v := ?_) (hy := Or.inl ⟨by rfl,?_⟩) (h := ?_)
   rotate_left
   ·(intro w hSw; (try dsimp only at hSw); go_simp; (try with_reducible rfl))
   (try simp only [Act.put,xL4,xL5,xL6])
   refine xT 6 (v := ?_) (hy := Or.inl ⟨by rfl,?_⟩) (h := ?_)
   rotate_left
   ·(intro w hSw; (try dsimp only at hSw); go_simp; (try with_reducible rfl))
   (try simp only [Act.put,xL4,xL5,xL6])
   refine xT 7 (v := ?_) (hy := Or.inl ⟨by rfl,?_⟩) (h := ?_)
   rotate_left
   ·(intro w hSw; (try dsimp only at hSw); go_simp; (try with_reducible rfl))
   (try simp only [Act.put,xL4,xL5,xL6])
   refine xT 8 (v := ?_) (hy := Or.inl ⟨by rfl,?_⟩) (h := ?_)
   rotate_left
   ·(intro w hSw; (try dsimp only at hSw); go_simp; (try with_reducible rfl))
   (try simp only [Act.put,xL4,xL5,xL6])
   refine xT 9 (v := ?_) (hy := Or.inl ⟨by rfl,?_⟩) (h := ?_)
   rotate_left
   ·(intro w hSw; (try dsimp only at hSw); go_simp; (try with_reducible rfl))
   (try simp only [Act.put,xL4,xL5,xL6])
   refine xT 10 (v := ?_) (hy := Or.inl ⟨by rfl,?_⟩) (h := ?_)
   rotate_left
   ·(intro w hSw; (try dsimp only at hSw); go_simp; (try with_reducible rfl))
   (try simp only [Act.put,xL4,xL5,xL6])
   refine wpAnyH_done (by kernel_rfl) ?_ _
   clear hHeld
   go_wp2
   have hDr : Below W41.heap.size W41 W41.drew := (Below.refl _ _).drew
   replace OS := OS.below hDr
   replace BB := BB.trans (hDr.mono BB.size)
   clear hDr
   refine wp_region_held_drew (S := (fun w' => w'.cell? ⟨b,off + x * 14 + 1,none⟩ = some (.int .i64 (f : Int)) ∧ w'.cell? ⟨bX,oX + y * 3,none⟩ = some (.bool pY) ∧ w'.cell? ⟨bX,oX + y * 3 + 1,none⟩ = some (.slice aY nY eY) ∧ w'.cell? ⟨bX,oX + y * 3 + 2,none⟩ = some (.slice yY mY dY) ∧ w'.cell? ⟨bX,oX + x * 3,none⟩ = some (.bool pX) ∧ w'.cell? ⟨bX,oX + x * 3 + 1,none⟩ = some (.slice aX nX eX) ∧ w'.cell? ⟨bX,oX + x * 3 + 2,none⟩ = some (.slice yX mX dX))) (by kernel_rfl) ?_ (fun hHeld => ?_)
   ·exact ⟨(CF.out.below BB).cell,(EY0.out.below BB).cell,(EY1.out.below BB).cell,(EY2.out.below BB).cell,(EX0.out.below BB).cell,(EX1.out.below BB).cell,(EX2.out.below BB).cell⟩
   generalize W41.drew = W42 at *
   refine xT 0 (v := ?_) (hy := Or.inl ⟨by rfl,?_⟩) (h := ?_)
   rotate_left
   ·(intro w hSw; (try dsimp only at hSw); go_simp; (try with_reducible rfl))
   (try simp only [Act.put,xL4,xL5,xL6])
   refine xT 1 (v := ?_) (hy := Or.inl ⟨by rfl,?_⟩) (h := ?_)
   rotate_left
   ·(intro w hSw; (try dsimp only at hSw); go_simp; (try with_reducible rfl))
   (try simp only [Act.put,xL4,xL5,xL6])
   refine xT 2 (v := ?_) (hy := Or.inl ⟨by rfl,?_⟩) (h := ?_)
   rotate_left
   ·(intro w hSw; (try dsimp only at hSw); go_simp; (try with_reducible rfl))
   (try simp only [Act.put,xL4,xL5,xL6])
   refine xT 3 (v := ?_) (hy := Or.inl ⟨by rfl,?_⟩) (h := ?_)
   rotate_left
   ·(intro w hSw; (try dsimp only at hSw); go_simp; (try with_reducible rfl))
   (try simp only [Act.put,xL4,xL5,xL6])
   refine xT 4 (v := ?_) (hy := Or.inl ⟨by rfl,?_⟩) (h := ?_)
   rotate_left
   ·(intro w hSw; (try dsimp only at hSw); go_simp; (try with_reducible rfl))
   (try simp only [Act.put,xL4,xL5,xL6])
   refine xT 5 (v := ?_) (hy := Or.inl ⟨by rfl,?_⟩) (h := ?_)
   rotate_left
   ·(intro w hSw; (try dsimp only at hSw); go_simp; (try with_reducible rfl))
   (try simp only [Act.put,xL4,xL5,xL6])
   refine xT 6 (v := ?_) (hy := Or.inl ⟨by rfl,?_⟩) (h := ?_)
   rotate_left
   ·(intro w hSw; (try dsimp only at hSw); go_simp; (try with_reducible rfl))
   (try simp only [Act.put,xL4,xL5,xL6])
   refine xT 7 (v := ?_) (hy := Or.inl ⟨by rfl,?_⟩) (h := ?_)
   rotate_left
   ·(intro w hSw; (try dsimp only at hSw); go_simp; (try with_reducible rfl))
   (try simp only [Act.put,xL4,xL5,xL6])
   refine xT 8 (v := ?_) (hy := Or.inl ⟨by rfl,?_⟩) (h := ?_)
   rotate_left
   ·(intro w hSw; (try dsimp only at hSw); go_simp; (try with_reducible rfl))
   (try simp only [Act.put,xL4,xL5,xL6])
   refine xT 9 (v := ?_) (hy := Or.inl ⟨by rfl,?_⟩) (h := ?_)
   rotate_left
   ·(intro w hSw; (try dsimp only at hSw); go_simp; (try with_reducible rfl))
   (try simp only [Act.put,xL4,xL5,xL6])
   refine xT 10 (v := ?_) (hy := Or.inl ⟨by rfl,?_⟩) (h := ?_)
   rotate_left
   ·(intro w hSw; (try dsimp only at hSw); go_simp; (try with_reducible rfl))
   (try simp only [Act.put,xL4,xL5,xL6])
   refine xT 11 (v := ?_) (hy := Or.inl ⟨by rfl,?_⟩) (h := ?_)
   rotate_left
   ·(intro w hSw; (try dsimp only at hSw); go_simp; (try with_reducible rfl))
   (try simp only [Act.put,xL4,xL5,xL6])
   refine xT 12 (v := ?_) (hy := Or.inl ⟨by rfl,?_⟩) (h := ?_)
   rotate_left
   ·(intro w hSw; (try dsimp only at hSw); go_simp; (try with_reducible rfl))
   (try simp only [Act.put,xL4,xL5,xL6])
   refine xT 13 (v := ?_) (hy := Or.inl ⟨by rfl,?_⟩) (h := ?_)
   rotate_left
   ·(intro w hSw; (try dsimp only at hSw); go_simp; (try with_reducible rfl))
   (try simp only [Act.put,xL4,xL5,xL6])
   refine xT 14 (v := ?_) (hy := Or.inl ⟨by rfl,?_⟩) (h := ?_)
   rotate_left
   ·(intro w hSw; (try dsimp only at hSw); go_simp; (try with_reducible rfl))
   (try simp only [Act.put,xL4,xL5,xL6])
   refine xT 15 (v := ?_) (hy := Or.inl ⟨by rfl,?_⟩) (h := ?_)
   rotate_left
   ·(intro w hSw; (try dsimp only at hSw); go_simp; (try with_reducible rfl))
   (try simp only [Act.put,xL4,xL5,xL6])
   refine xR [16] (h := ?_)
   refine xN (h := fun K hK => ?_)
   go_simp
   refine (qsub_at _ _ (meanN t n y) (meanN t n x) 20000 _ ((HY.out.below BB).at _ (HZ.out y hyn)) ((HX.out.below BB).at _ (HZ.out x hxn)) (by omega) (by omega) (HB2.out.below BB)).mono ?_
   rintro e w21 ⟨v6,rfl,h6,b21⟩
   obtain ⟨p6,a6,n6,c6,y6,m6,d6,rfl⟩ := h6.open
   go_wp2_with fail
   replace OS := OS.below b21
   replace BB := BB.trans (b21.mono BB.size)
   clear b21
   refine hK.out _ _ ?_ (fun hH1 => ?_)
   ·exact ⟨(CF.out.below BB).cell,(EY0.out.below BB).cell,(EY1.out.below BB).cell,(EY2.out.below BB).cell,(EX0.out.below BB).cell,(EX1.out.below BB).cell,(EX2.out.below BB).cell⟩
   clear hK K hHeld
   (try simp only [Act.put,xL4,xL5,xL6])
   refine xT 17 (v := ?_) (hy := Or.inl ⟨by rfl,?_⟩) (h := ?_)
   rotate_left
   ·(intro w hSw; (try dsimp only at hSw); go_simp; (try with_reducible rfl))
   (try simp only [Act.put,xL4,xL5,xL6])
   refine xR [18] (h := ?_)
   refine xN (h := fun K hK => ?_)
   go_simp
   have hL7 : Below w21.heap.size w21 (w21.alloc (.cells #[.int .i64 (i : Int),.int .i64 (x : Int),.int .i64 (f : Int),.bool p6,.slice a6 n6 c6,.slice y6 m6 d6] 79)) := (Below.refl _ _).alloc (Nat.le_refl _) _
   have hnb : ∀ (j : Nat) u,[Value.int .i64 (i : Int),.int .i64 (x : Int),.int .i64 (f : Int),.bool p6,.slice a6 n6 c6,.slice y6 m6 d6][j]? = some u → (w21.alloc (.cells #[.int .i64 (i : Int),.int .i64 (x : Int),.int .i64 (f : Int),.bool p6,.slice a6 n6 c6,.slice y6 m6 d6] 79)).cell? ((⟨w21.heap.size,0,none⟩ : Addr).add j) = some u := news_block (heap_alloc_new _ _)
   replace OS := OS.below hL7
   replace h6 := h6.below hL7
   replace BB := BB.trans (hL7.mono BB.size)
   clear hL7
   generalize w21.alloc (.cells #[.int .i64 (i : Int),.int .i64 (x : Int),.int .i64 (f : Int),.bool p6,.slice a6 n6 c6,.slice y6 m6 d6] 79) = W7 at *
   generalize w21.heap.size = R7 at *
   refine hK.out _ _ ?_ (fun hH2 => ?_)
   ·exact ⟨(CF.out.below BB).cell,(EY0.out.below BB).cell,(EY1.out.below BB).cell,(EY2.out.below BB).cell,(EX0.out.below BB).cell,(EX1.out.below BB).cell,(EX2.out.below BB).cell⟩
   clear hK K hH1
   (try simp only [Act.put,xL4,xL5,xL6])
   refine xR [19] (h := ?_)
   refine xN (h := fun K hK => ?_)
   obtain ⟨cs,hown,hcl,hpu,hall⟩ := GOwn.parts OS
   rw [spL_len] at hown hcl hpu
   have hsz := BB.size
   refine step_append_pure (Q' := IsLimb) (by rfl) _ _ _ (by rfl) w2.heap.size 79 (.agg #[.int .i64 0,.int .i64 0,.int .i64 0,.bool false,.slice none 0 0,.slice none 0 0]) 6 80 Tryz.underlying74 info_step (by rfl) (by omega) (.slice ao k co) (by rfl) k cs hown hpu ⟨R7,0,none⟩ 1 (by rfl) [.int .i64 (i : Int),.int .i64 (x : Int),.int .i64 (f : Int),.bool p6,.slice a6 n6 c6,.slice y6 m6 d6] rfl hnb (by simp [Value.oneCell']) (sp_limb _ _ _ _ _ _ _ _ _ _) (sp_limb _ _ _ _ _ _ _ _ _ _) (by omega) (by omega) hsz ?_
   intro gN cN w5 ho5 hg5 hat5 hp5 hk5
   have BB5 : Below w2.heap.size w2 w5 := below_grownB BB hg5 hsz (fun g hg => (World.ownsRow.lt hown g hg).1)
   have OS5 : SOwn12 w2.heap.size w5 (.slice (some ⟨gN,0,none⟩) (k + 1) cN) (spL t n i zs (k + 1)) := by
    rw [spL_more,HSA.out]
    refine GOwn.more spEl (m := 1) rfl (by rw [spL_len]; exact ho5) (by rw [spL_len]; exact hcl) (fun g hg => by cases hg; exact hp5) hk5 hall (sp_one rfl rfl rfl h6)
   clear OS h6 BB hown hcl hpu hall hnb ho5 hg5 hat5 hp5 hk5 hsz
   have OS := OS5
   have BB := BB5
   clear OS5 BB5
   refine hK.out _ _ ?_ (fun hH3 => ?_)
   ·exact ⟨(CF.out.below BB).cell,(EY0.out.below BB).cell,(EY1.out.below BB).cell,(EY2.out.below BB).cell,(EX0.out.below BB).cell,(EX1.out.below BB).cell,(EX2.out.below BB).cell⟩
   clear hK K hH2
   (try simp only [Act.put,xL4,xL5,xL6])
   refine xT 20 (v := ?_) (hy := Or.inl ⟨by rfl,?_⟩) (h := ?_)
   rotate_left
   ·(intro w hSw; (try dsimp only at hSw); go_simp; (try with_reducible rfl))
   (try simp only [Act.put,xL4,xL5,xL6])
   refine wpAnyH_done (by kernel_rfl) ?_ _
   clear hH3
   go_wp2
   go_roundw
   case rel => exact ⟨k + 1,by omega,by rw [HK2.out],OS,fun h => by omega,BB⟩
   case measure => (have := HK2.out); simp [intOf]; omega
  ·obtain rfl : m = k + 1 := by omega
   have g1 : ¬ (k : Int) < ((k + 1 : Nat) : Int) - 1 := by omega
   go_wp2
   go_ret
   refine ⟨_,rfl,?_,fun h => HNL.out (by rw [HZS.out] at h; have := HML.out; omega),BW.out.trans (BB.mono BW.out.size)⟩
   have h9 := HML.out
   rw [HZS.out,h9,Nat.add_sub_cancel]
   rw [spL_len] at OS
   exact GOwn.le OS BW.out.size
theorem sp_cells {w : World} {l : List Sp} {cs : List Value} (hcl : cs.length = l.length * 6) (hall : ∀ i a,l[i]? = some a → SpAt w (fun j => cs.getD (i * 6 + j) undef) a) : ∀ u ∈ cs,u.oneCell' = true ∧ ¬ IsLimb u := by
 intro u hu
 obtain ⟨j,hj⟩ := List.getElem?_of_mem hu
 have hjl : j < cs.length := (List.getElem?_eq_some_iff.1 hj).1
 have hi : j / 6 < l.length := by omega
 obtain ⟨h0,h1,h2,p,a,n,c,b,m,e,h3,h4,h5,_⟩ := hall (j / 6) _ (List.getElem?_eq_getElem hi)
 dsimp only at h0 h1 h2 h3 h4 h5
 have key : cs.getD (j / 6 * 6 + j % 6) undef = u := by
  rw [show j / 6 * 6 + j % 6 = j by omega,List.getD_eq_getElem?_getD,hj]; rfl
 rcases (show j % 6 = 0 ∨ j % 6 = 1 ∨ j % 6 = 2 ∨ j % 6 = 3 ∨ j % 6 = 4 ∨ j % 6 = 5 by omega) with q | q | q | q | q | q <;> rw [q] at key <;> rw [← key]
 ·rw [h0]; exact ⟨rfl,limb_int _⟩
 ·rw [h1]; exact ⟨rfl,limb_int _⟩
 ·rw [h2]; exact ⟨rfl,limb_int _⟩
 ·rw [h3]; exact ⟨rfl,limb_bool _⟩
 ·rw [h4]; exact ⟨rfl,limb_slice _ _ _⟩
 ·rw [h5]; exact ⟨rfl,limb_slice _ _ _⟩
theorem owns_news {w : World} {B k : Nat} {e : TypeId} {g n c : Nat} {xs : List Value} (h : w.ownsRow B e k (.slice (some ⟨g,0,none⟩) n c) n xs) : ∀ (j : Nat) u,xs[j]? = some u → w.cell? ((⟨g,0,none⟩ : Addr).add j) = some u := h.cells (g := g) rfl
theorem spA_len {T : Nat → Nat → Nd} {N : Nat → Nat} {r : Nat → Cl} {F : Int} {k : Nat} (hm : ∀ i,i < k → MayT F (T i) (N i)) : ∀ i,i ≤ k → (spA T N r i).length ≤ i * 256
 | 0,_ => by simp [spA]
 | i + 1,h => by
  have h1 := spA_len (r := r) hm i (by omega)
  have h2 := (hm i (by omega)).way_len r (x := 0) (hm i (by omega)).pos
  have h3 := (hm i (by omega)).few
  show (spA T N r i ++ spT T N r i).length ≤ _
  rw [List.length_append]
  unfold spT
  rw [spL_len]
  omega
set_option maxRecDepth 100000 in
set_option maxHeartbeats 4000000 in
theorem ssteps_no (F : Int) (vm vr : Value) (k nr : Nat) (N : Nat → Nat) (T : Nat → Nat → Nd) (r : Nat → Cl) (L C : Nat) (w : World) (hM : MRow w vm k N T L) (hR : CRow w vr nr r L) (hT : Tab w) (hL : 1 ≤ L) (hC : 2 * L + 2 ≤ C) (hCn : 255 * C ≤ 10000) (hw : whyI F k N T nr ≠ 0) :
  Calls Tryz.prog 34 #[.agg #[.int .i64 F,vm],vr] w fun e w' => e = .returned (.tuple #[.slice none 0 0,.int .i64 (whyI F k N T nr)]) ∧ Below w.heap.size w w' := by
 obtain ⟨ao,c,rfl,hnc,hc63⟩ := hM.open
 obtain ⟨ar,cr,rfl,hrc,hr63⟩ := hR.open
 obtain ⟨W0,hW0,hS0,hL0,VM⟩ := V2.lay w 24 (.int .i64 F) (.slice ao k c)
 have BB : Below w.heap.size w W0 := hL0
 clear hL0
 have HM0 : Hid (MRow w (.slice ao k c) k N T L) := hM
 have HR0 : Hid (CRow w (.slice ar nr cr) nr r L) := hR
 have HT0 : Hid (Tab w) := hT
 clear hM hR hT
 go_enter Tryz.func34,Tryz.ntmps34
 obtain ⟨VM_0,VM_1,VM_2,VM_3⟩ := id VM
 rw [hW0] at VM_0 VM_1 VM_2 VM_3
 go_wp2_with fail
 clear VM_0 VM_1 VM_2 VM_3
 rw [← hW0]
 clear hW0 hS0
 refine (rfits_at F _ _ k nr N T r L _ (HM0.out.below BB) (HR0.out.below BB) (HT0.out.below BB) hL (by omega)).mono ?_
 rintro e w1 ⟨rfl,b1⟩
 replace VM := VM.below b1
 replace BB := BB.trans (b1.mono BB.size)
 clear b1
 obtain ⟨e1,he1⟩ : ∃ e1,whyI F k N T nr = e1 := ⟨_,rfl⟩
 have HE : Hid (whyI F k N T nr = e1) := he1
 rw [he1] at hw
 rw [he1]
 clear he1
 have g2 : (e1 != 0) = true := by simpa using hw
 have g3 : decide (e1 = 0) = false := decide_eq_false hw
 go_wp2
 go_ret2
 exact ⟨by rw [HE.out]; rfl,BB⟩
set_option maxRecDepth 100000 in
set_option maxHeartbeats 16000000 in
theorem ssteps_yes (F : Int) (vm vr : Value) (k nr : Nat) (N : Nat → Nat) (T : Nat → Nat → Nd) (r : Nat → Cl) (L C : Nat) (w : World) (hM : MRow w vm k N T L) (hR : CRow w vr nr r L) (hT : Tab w) (hL : 1 ≤ L) (hC : 2 * L + 2 ≤ C) (hCn : 255 * C ≤ 10000) (hw : whyI F k N T nr = 0) (hB : mayB (nr : Int) k N T = true) :
  Calls Tryz.prog 34 #[.agg #[.int .i64 F,vm],vr] w fun e w' => ∃ u,e = .returned (.tuple #[u,.int .i64 0]) ∧ SOwn12 w.heap.size w' u (spA T N r k) ∧ Below w.heap.size w w' := by
 obtain ⟨ao,c,rfl,hnc,hc63⟩ := hM.open
 obtain ⟨ar,cr,rfl,hrc,hr63⟩ := hR.open
 obtain ⟨W0,hW0,hS0,hL0,VM⟩ := V2.lay w 24 (.int .i64 F) (.slice ao k c)
 have BB : Below w.heap.size w W0 := hL0
 clear hL0
 have HM0 : Hid (MRow w (.slice ao k c) k N T L) := hM
 have HR0 : Hid (CRow w (.slice ar nr cr) nr r L) := hR
 have HT0 : Hid (Tab w) := hT
 clear hM hR hT
 go_enter Tryz.func34,Tryz.ntmps34
 obtain ⟨VM_0,VM_1,VM_2,VM_3⟩ := id VM
 rw [hW0] at VM_0 VM_1 VM_2 VM_3
 go_wp2_with fail
 clear VM_0 VM_1 VM_2 VM_3
 rw [← hW0]
 clear hW0 hS0
 refine (rfits_at F _ _ k nr N T r L _ (HM0.out.below BB) (HR0.out.below BB) (HT0.out.below BB) hL (by omega)).mono ?_
 rintro e w1 ⟨rfl,b1⟩
 replace VM := VM.below b1
 replace BB := BB.trans (b1.mono BB.size)
 clear b1
 rw [hw]
 have HB : Hid (mayB (nr : Int) k N T = true) := hB
 have HMY : Hid (∀ i,i < k → MayT (nr : Int) (T i) (N i)) := (mayB_may hB).2.2.2
 have hk64 : k ≤ 64 := (mayB_may hB).2.2.1
 clear hw hB
 obtain ⟨q1,q2,q3,q4⟩ := id VM
 go_wp2
 clear q1 q2 q3 q4 VM
 go_loopw [7,19] (fun vo vi wr => ∃ i : Nat,i ≤ k ∧ vi = .int .i64 (i : Int) ∧ SOwn12 w.heap.size wr vo (spA T N r i) ∧ Below w.heap.size w wr) (fun _ vi _ => k - (intOf vi).toNat)
 case atStart => exact ⟨0,by omega,rfl,GOwn.nil,BB⟩
 case round =>
  clear BB
  obtain ⟨i,hi,rfl,OS,BB⟩ := hrel
  by_cases hlt : i < k
  ·have g1 : (i : Int) < (k : Int) := by omega
   have g0 : (0 : Int) ≤ (i : Int) := by omega
   obtain ⟨b,off,cc,a,d,hvv,hcc,XC0,TR0⟩ := HM0.out.at hlt
   cases hvv
   have XC : wr.cell? ⟨b,off + i,none⟩ = some (.slice a (N i) d) := (BB.cell (p := ⟨b,off + i,none⟩) (World.block_lt_of_cell? _ _ XC0)).trans XC0
   have HTR : Hid (TRow w (.slice a (N i) d) (N i) (T i) L) := TR0
   have HB1 : Hid (mayB (nr : Int) 1 (fun _ => N i) (fun _ => T i) = true) := mayB_one HB.out hlt
   clear XC0 TR0
   obtain ⟨ao2,co2,rfl,hco⟩ := GOwn.form OS
   have hln := spA_len HMY.out (r := r) i hi
   have HST : Hid (spA T N r (i + 1) = spA T N r i ++ spL (T i) (N i) i (way (T i) (N i) r 0) ((way (T i) (N i) r 0).length - 1)) := rfl
   have HWP : Hid (0 < (way (T i) (N i) r 0).length) := List.length_pos_iff.2 (way_ne _ _ _ _)
   have HW2 : Hid ((way (T i) (N i) r 0).length ≤ 256) := by
    have h2 := (HMY.out i hlt).way_len r (x := 0) (HMY.out i hlt).pos
    have h3 := (HMY.out i hlt).few
    show _ ≤ _
    omega
   obtain ⟨n1,hn1⟩ : ∃ n1,(spA T N r i).length = n1 := ⟨_,rfl⟩
   rw [hn1] at hln hco ⊢
   go_wp2_with fail
   clear XC
   refine (taken_at i _ _ (N i) nr (T i) r L C _ (HTR.out.below BB) (HR0.out.below BB) (HT0.out.below BB) hL hC hCn HB1.out (HMY.out i hlt)).mono ?_
   rintro e w3 ⟨u3,rfl,O3,hnil,b3⟩
   have hsz0 := BB.size
   replace OS := OS.below b3
   replace BB := BB.trans (b3.mono BB.size)
   have HO3 : Hid (SOwn12 wr.heap.size w3 u3 (spL (T i) (N i) i (way (T i) (N i) r 0) ((way (T i) (N i) r 0).length - 1))) := O3
   have HNL : Hid ((way (T i) (N i) r 0).length = 1 → u3 = .slice none 0 0) := hnil
   clear hnil O3 b3
   obtain ⟨cs1,hown1,hcl1,hpu1,hall1⟩ := GOwn.parts OS
   rw [hn1] at hown1 hpu1
   have HN1 : Hid ((spA T N r i).length = n1) := hn1
   have HAL1 : Hid (∀ i_1 a,(spA T N r i)[i_1]? = some a → SpAt w3 (fun j => cs1.getD (i_1 * 6 + j) undef) a) := hall1
   have hsz := BB.size
   clear hn1 hall1
   by_cases hw1 : (way (T i) (N i) r 0).length = 1
   ·have hu3 := HNL.out hw1
    subst hu3
    have HEQ : Hid (spA T N r (i + 1) = spA T N r i) := by
     show spA T N r (i + 1) = _
     rw [HST.out,hw1]
     exact List.append_nil _
    clear hw1
    obtain ⟨iS,hiS,_,_,_⟩ := info_parts info_step
    go_wp2_with (at_builtin; refine wpList_append_own_none rfl _ _ _ rfl w.heap.size 79 iS 6 Tryz.underlying74 hiS (.slice ao2 n1 co2) n1 cs1 rfl hown1 rfl ?_)
    go_roundw
    case rel => exact ⟨i + 1,by omega,by go_num,by rw [HEQ.out]; have h9 := OS; rw [HN1.out] at h9; exact h9,BB⟩
    case measure => simp [intOf]; omega
   ·have hw2 := HWP.out
    have hw3 := HW2.out
    obtain ⟨n2,hn2e⟩ : ∃ n2,(way (T i) (N i) r 0).length - 1 = n2 := ⟨_,rfl⟩
    rw [hn2e] at HO3 HST
    have hn2 : 1 ≤ n2 := by omega
    have hn3 : n2 ≤ 256 := by omega
    clear hn2e hw1 hw2 hw3
    obtain ⟨cs2,hown2,hcl2,hpu2,hall2⟩ := GOwn.parts HO3.out
    have HN2 : Hid ((spL (T i) (N i) i (way (T i) (N i) r 0) n2).length = n2) := spL_len _ _ _ _ _
    have sp_cells' := sp_cells hcl2 hall2
    have HAL2 : Hid (∀ j a,(spL (T i) (N i) i (way (T i) (N i) r 0) n2)[j]? = some a → SpAt w3 (fun q => cs2.getD (j * 6 + q) undef) a) := hall2
    rw [HN2.out] at hown2 hcl2
    have h2 := hown2
    obtain ⟨g2,c2,rfl⟩ : ∃ g2 c2,u3 = .slice (some ⟨g2,0,none⟩) n2 c2 := by
     rcases h2.2 with ⟨_,e9⟩ | ⟨g,c9,_,e9,_⟩
     ·omega
     ·exact ⟨g,c9,e9⟩
    clear h2 HNL hall2 hpu2
    go_wp2_with (at_builtin; refine wpList_append_pureM (Q' := IsLimb) rfl _ _ _ rfl w.heap.size 79 (.agg #[.int .i64 0,.int .i64 0,.int .i64 0,.bool false,.slice none 0 0,.slice none 0 0]) 6 80 Tryz.underlying74 info_step rfl (by omega) (.slice ao2 n1 co2) rfl n1 cs1 hown1 hpu1 ⟨g2,0,none⟩ n2 c2 hn2 (by omega) rfl cs2 hcl2 (owns_news hown2) (fun u hu => (sp_cells' u hu).1) (fun u hu => (sp_cells' u hu).2) (sp_limb _ _ _ _ _ _ _ _ _ _) (by omega) (by omega) hsz ?_; intro gN cN w5 ho5 hg5 hat5 hp5 hk5)
    have BB5 : Below w.heap.size w w5 := below_grownB BB hg5 hsz (fun g hg => (World.ownsRow.lt hown1 g hg).1)
    have OS5 : SOwn12 w.heap.size w5 (.slice (some ⟨gN,0,none⟩) (n1 + n2) cN) (spA T N r (i + 1)) := by
     rw [HST.out]
     exact GOwn.more spEl (m := n2) HN2.out (by rw [HN1.out]; exact ho5) hcl1 (fun g hg => by cases hg; exact hp5) hk5 HAL1.out HAL2.out
    go_roundw
    case rel => exact ⟨i + 1,by omega,by go_num,OS5,BB5⟩
    case measure => simp [intOf]; omega
  ·obtain rfl : i = k := by omega
   have g1 : ¬ (i : Int) < (i : Int) := by omega
   go_wp2
   go_ret2
   exact ⟨_,rfl,OS,BB⟩

def ex11 (i : Nat) : Nd := if i = 0 then ⟨false,0,0,1,2,false,0,((4 : Int) : Rat)⟩ else if i = 1 then ⟨true,0,0,0,0,false,0,1⟩ else ⟨true,0,0,0,0,false,1,((3 : Int) : Rat)⟩
theorem ex11_may : mayB 1 1 (fun _ => 3) (fun _ => ex11) = true := by
 unfold mayB
 refine @decide_eq_true _ (Classical.propDecidable _) (.inr ⟨by decide +kernel,none,.inl ⟨rfl,fun r hr i hi => ?_⟩,rfl⟩)
 obtain rfl : i = 0 := by omega
 rcases (by omega : r = 0 ∨ r = 1 ∨ r = 2 ∨ r = 3) with rfl | rfl | rfl | rfl <;> decide +kernel
theorem zero_atn11 (w : World) : AtN w (.bool false) (.slice none 0 0) (.slice none 0 0) 0 4 := by
 have h := RatAt.raw (p := false) (K := 4) (Nums.nil .u64 w (fun _ => 0)) (fun i hi => by omega) (Nums.nil .u64 w (fun _ => 0)) (fun i hi => by omega) (by omega) (by omega)
 exact ⟨false,none,0,0,none,0,0,rfl,rfl,rfl,h⟩
theorem ex11_lay (w : World) {p1 : Bool} {a1 y1 : Option Addr} {n1 c1 m1 d1 : Nat} {p2 : Bool} {a2 y2 : Option Addr} {n2 c2 m2 d2 : Nat} {p3 : Bool} {a3 y3 : Option Addr} {n3 c3 m3 d3 : Nat} {p4 : Bool} {a4 y4 : Option Addr} {n4 c4 m4 d4 : Nat} (h1 : RepQ w (.agg #[.bool p1,.slice a1 n1 c1,.slice y1 m1 d1]) ((4 : Int) : Rat)) (h2 : RepQ w (.agg #[.bool p2,.slice a2 n2 c2,.slice y2 m2 d2]) 1) (h3 : RepQ w (.agg #[.bool p3,.slice a3 n3 c3,.slice y3 m3 d3]) 1) (h4 : RepQ w (.agg #[.bool p4,.slice a4 n4 c4,.slice y4 m4 d4]) ((3 : Int) : Rat)) :
  ∃ W,W = (w.alloc (.cells #[.bool false,.int .i64 0,.bool false,.slice none 0 0,.slice none 0 0,.int .i64 1,.int .i64 2,.bool false,.bool false,.slice none 0 0,.slice none 0 0,.bool p1,.slice a1 n1 c1,.slice y1 m1 d1,.bool true,.int .i64 0,.bool false,.slice none 0 0,.slice none 0 0,.int .i64 0,.int .i64 0,.bool false,.bool false,.slice none 0 0,.slice none 0 0,.bool p2,.slice a2 n2 c2,.slice y2 m2 d2,.bool true,.int .i64 0,.bool false,.slice none 0 0,.slice none 0 0,.int .i64 0,.int .i64 0,.bool false,.bool p3,.slice a3 n3 c3,.slice y3 m3 d3,.bool p4,.slice a4 n4 c4,.slice y4 m4 d4] 61)).alloc (.cells #[.slice (some ⟨w.heap.size,0,none⟩) 3 3] 48) ∧ Below w.heap.size w W ∧ W.heap.size = w.heap.size + 2 ∧ MRow W (.slice (some ⟨w.heap.size + 1,0,none⟩) 1 1) 1 (fun _ => 3) (fun _ => ex11) 4 := by
 obtain ⟨W1,hW1⟩ : ∃ W1,W1 = w.alloc (.cells #[.bool false,.int .i64 0,.bool false,.slice none 0 0,.slice none 0 0,.int .i64 1,.int .i64 2,.bool false,.bool false,.slice none 0 0,.slice none 0 0,.bool p1,.slice a1 n1 c1,.slice y1 m1 d1,.bool true,.int .i64 0,.bool false,.slice none 0 0,.slice none 0 0,.int .i64 0,.int .i64 0,.bool false,.bool false,.slice none 0 0,.slice none 0 0,.bool p2,.slice a2 n2 c2,.slice y2 m2 d2,.bool true,.int .i64 0,.bool false,.slice none 0 0,.slice none 0 0,.int .i64 0,.int .i64 0,.bool false,.bool p3,.slice a3 n3 c3,.slice y3 m3 d3,.bool p4,.slice a4 n4 c4,.slice y4 m4 d4] 61) := ⟨_,rfl⟩
 have hb1 := heap_alloc_new w (.cells #[.bool false,.int .i64 0,.bool false,.slice none 0 0,.slice none 0 0,.int .i64 1,.int .i64 2,.bool false,.bool false,.slice none 0 0,.slice none 0 0,.bool p1,.slice a1 n1 c1,.slice y1 m1 d1,.bool true,.int .i64 0,.bool false,.slice none 0 0,.slice none 0 0,.int .i64 0,.int .i64 0,.bool false,.bool false,.slice none 0 0,.slice none 0 0,.bool p2,.slice a2 n2 c2,.slice y2 m2 d2,.bool true,.int .i64 0,.bool false,.slice none 0 0,.slice none 0 0,.int .i64 0,.int .i64 0,.bool false,.bool p3,.slice a3 n3 c3,.slice y3 m3 d3,.bool p4,.slice a4 n4 c4,.slice y4 m4 d4] 61)
 rw [← hW1] at hb1
 have B1 : Below w.heap.size w W1 := by rw [hW1]; exact (Below.refl _ _).alloc (Nat.le_refl _) _
 have S1 : W1.heap.size = w.heap.size + 1 := by rw [hW1]; simp
 have B2 : Below W1.heap.size W1 (W1.alloc (.cells #[.slice (some ⟨w.heap.size,0,none⟩) 3 3] 48)) := (Below.refl _ _).alloc (Nat.le_refl _) _
 have q1 : RatAt W1 (.agg #[.bool p1,.slice a1 n1 c1,.slice y1 m1 d1]) ((4 : Int) : Rat) 4 := (h1.below B1).at 4 (by decide +kernel)
 have q2 : RatAt W1 (.agg #[.bool p2,.slice a2 n2 c2,.slice y2 m2 d2]) 1 4 := (h2.below B1).at 4 (by decide +kernel)
 have q3 : RatAt W1 (.agg #[.bool p3,.slice a3 n3 c3,.slice y3 m3 d3]) 1 4 := (h3.below B1).at 4 (by decide +kernel)
 have q4 : RatAt W1 (.agg #[.bool p4,.slice a4 n4 c4,.slice y4 m4 d4]) ((3 : Int) : Rat) 4 := (h4.below B1).at 4 (by decide +kernel)
 have z64 : I64 0 := by unfold I64; omega
 have o64 : I64 1 := by unfold I64; omega
 have t64 : I64 2 := by unfold I64; omega
 have TR : TRow W1 (.slice (some ⟨w.heap.size,0,none⟩) 3 3) 3 ex11 4 := by
  refine ⟨fun i j => if i = 0 then [.bool false,.int .i64 0,.bool false,.slice none 0 0,.slice none 0 0,.int .i64 1,.int .i64 2,.bool false,.bool false,.slice none 0 0,.slice none 0 0,.bool p1,.slice a1 n1 c1,.slice y1 m1 d1].getD j undef else if i = 1 then [.bool true,.int .i64 0,.bool false,.slice none 0 0,.slice none 0 0,.int .i64 0,.int .i64 0,.bool false,.bool false,.slice none 0 0,.slice none 0 0,.bool p2,.slice a2 n2 c2,.slice y2 m2 d2].getD j undef else [.bool true,.int .i64 0,.bool false,.slice none 0 0,.slice none 0 0,.int .i64 0,.int .i64 0,.bool false,.bool p3,.slice a3 n3 c3,.slice y3 m3 d3,.bool p4,.slice a4 n4 c4,.slice y4 m4 d4].getD j undef,⟨_,_,rfl,by omega,by omega,fun _ => ⟨_,_,rfl,fun i hi j hj => ?_⟩⟩,fun i hi => ?_⟩
  ·rw [cell_of_row _ _ _ _ _ _ hb1]
   rcases (by omega : i = 0 ∨ i = 1 ∨ i = 2) with rfl | rfl | rfl <;> rcases (by omega : j = 0 ∨ j = 1 ∨ j = 2 ∨ j = 3 ∨ j = 4 ∨ j = 5 ∨ j = 6 ∨ j = 7 ∨ j = 8 ∨ j = 9 ∨ j = 10 ∨ j = 11 ∨ j = 12 ∨ j = 13) with rfl | rfl | rfl | rfl | rfl | rfl | rfl | rfl | rfl | rfl | rfl | rfl | rfl | rfl <;> rfl
  ·rcases (by omega : i = 0 ∨ i = 1 ∨ i = 2) with rfl | rfl | rfl
   ·exact ⟨rfl,rfl,zero_atn11 _,rfl,rfl,rfl,zero_atn11 _,⟨p1,a1,n1,c1,y1,m1,d1,rfl,rfl,rfl,q1⟩,z64,o64,t64⟩
   ·exact ⟨rfl,rfl,zero_atn11 _,rfl,rfl,rfl,zero_atn11 _,⟨p2,a2,n2,c2,y2,m2,d2,rfl,rfl,rfl,q2⟩,z64,z64,z64⟩
   ·exact ⟨rfl,rfl,zero_atn11 _,rfl,rfl,rfl,⟨p3,a3,n3,c3,y3,m3,d3,rfl,rfl,rfl,q3⟩,⟨p4,a4,n4,c4,y4,m4,d4,rfl,rfl,rfl,q4⟩,z64,z64,z64⟩
 refine ⟨_,rfl,?_,?_,?_⟩
 ·rw [← hW1]; exact B1.trans (B2.mono B1.size)
 ·simp
 ·rw [← hW1,← S1]
  exact one_tree TR 48

def Tup11 (w : World) (v : Value) (q : Rat) : Prop := ∃ x,v = .tuple #[x,.int .i64 0] ∧ RepQ w x q
theorem Tup11.below {w w' : World} {v : Value} {q : Rat} (h : Tup11 w v q) (hb : Below w.heap.size w w') : Tup11 w' v q := let ⟨x,e,hx⟩ := h; ⟨x,e,hx.below hb⟩
theorem Tup11.keep {w w' : World} {v : Value} {q : Rat} (h : Tup11 w v q) (hk : KeepQ IsNum w w') : Tup11 w' v q := let ⟨x,e,hx⟩ := h; ⟨x,e,hx.keep hk⟩

end Go.Proofs.YtjmagcgobhaenaaGreatDoor

namespace Go.Proofs.YtjmagcgobhaenaaGreatDoor
set_option linter.unusedVariables false
set_option linter.unusedSimpArgs false
theorem MRow.sz11 {w : World} {v : Value} {k : Nat} {N : Nat → Nat} {T : Nat → Nat → Nd} {L : Nat} (h : MRow w v k N T L) (hL : 1 ≤ L) {i : Nat} (hi : i < k) : ∀ j,j < N i → qsz (T i j).val ≤ L ∧ qsz (T i j).cov ≤ L := by
 obtain ⟨b,off,c,a,d,_,_,_,TR⟩ := h.at hi
 exact fun j hj => TR.sz11 hL hj

theorem MayT.lvs_pos {F : Int} {t : Nat → Nd} {n : Nat} (h : MayT F t n) {x : Nat} (hx : x < n) : 1 ≤ (lvs t n x).length := by
 have h1 := h.count hx
 have h2 := pre_pos t n x
 omega
theorem say_u {F : Int} {t : Nat → Nd} {n L : Nat} (hm : MayT F t n) (hz : ∀ i,i < n → qsz (t i).val ≤ L ∧ qsz (t i).cov ≤ L) (r : Nat → Cl) (s : Nat) {x : Nat} (hx : x < n) : qsz (say t n r s x * (t x).cov) + 1 ≤ (2 * L + 1) * (lvs t n x).length := by
 refine hm.by_tree (P := fun x => qsz (say t n r s x * (t x).cov) + 1 ≤ (2 * L + 1) * (lvs t n x).length) (fun x hx hl => ?_) (fun x hx hl a b => ?_) hx
 ·rw [say_leaf hl,lvs_leaf hl]
  have h1 := qsz_mul _ _ (hz x hx).1 (hz x hx).2
  simp only [List.length_cons,List.length_nil]
  omega
 ·obtain ⟨_,_,_,a2,_,a4,_,_⟩ := hm.kids hx hl
  have p1 := hm.lvs_pos a2
  have p2 := hm.lvs_pos a4
  rw [hm.lvs_split hx hl,List.length_append,Nat.mul_add]
  have q1 : 2 * L + 1 ≤ (2 * L + 1) * (lvs t n (kl t x)).length := Nat.le_mul_of_pos_right _ p1
  have q2 : 2 * L + 1 ≤ (2 * L + 1) * (lvs t n (kr t x)).length := Nat.le_mul_of_pos_right _ p2
  have c0 : (t x).cov ≠ 0 := fun e => by have := hm.cov x hx; rw [e] at this; exact absurd this (by decide)
  cases hi : inS s (t x).feat.toNat with
  | true =>
   rw [hm.say_in r hx hl hi]
   have key : ∀ c,c < n → qsz (say t n r s c * (t x).cov) ≤ qsz (say t n r s c * (t c).cov) + 2 * L := fun c hc => by
    have cc : (t c).cov ≠ 0 := fun e => by have := hm.cov c hc; rw [e] at this; exact absurd this (by decide)
    have e1 : say t n r s c * (t x).cov = say t n r s c * (t c).cov * ((t x).cov / (t c).cov) := by
     rw [Rat.div_def]
     have : (t c).cov * (t c).cov⁻¹ = 1 := Rat.mul_inv_cancel _ cc
     grind
    rw [e1]
    have h3 := qsz_div _ _ (hz _ hx).2 (hz _ hc).2
    have h4 := qsz_mul _ _ (Nat.le_refl (qsz (say t n r s c * (t c).cov))) h3
    omega
   have : Go.Proofs.YtjmagcgobhaenaaGreatDoor.nxt (t x) r = kl t x ∨ Go.Proofs.YtjmagcgobhaenaaGreatDoor.nxt (t x) r = kr t x := by
    unfold Go.Proofs.YtjmagcgobhaenaaGreatDoor.nxt kl kr
    by_cases g : goL (t x) (r (t x).feat.toNat) = true
    ·rw [if_pos g]; exact .inl rfl
    ·rw [if_neg g]; exact .inr rfl
   rcases this with e | e
   ·rw [e]
    have := key _ a2
    omega
   ·rw [e]
    have := key _ a4
    omega
  | false =>
   rw [hm.say_out r hx hl hi]
   have e1 : ((t (kl t x)).cov * say t n r s (kl t x) + (t (kr t x)).cov * say t n r s (kr t x)) / (t x).cov * (t x).cov = say t n r s (kl t x) * (t (kl t x)).cov + say t n r s (kr t x) * (t (kr t x)).cov := by
    rw [Rat.div_def,Rat.mul_assoc,Rat.inv_mul_cancel _ c0,Rat.mul_one,Rat.mul_comm (t (kl t x)).cov,Rat.mul_comm (t (kr t x)).cov]
   rw [e1]
   have h5 := qsz_add _ _ (Nat.le_refl (qsz (say t n r s (kl t x) * (t (kl t x)).cov))) (Nat.le_refl (qsz (say t n r s (kr t x) * (t (kr t x)).cov)))
   omega
theorem say_tight {F : Int} {t : Nat → Nd} {n L : Nat} (hm : MayT F t n) (hz : ∀ i,i < n → qsz (t i).val ≤ L ∧ qsz (t i).cov ≤ L) (r : Nat → Cl) (s : Nat) {x : Nat} (hx : x < n) : qsz (say t n r s x) + 1 ≤ (2 * L + 1) * (lvs t n x).length + L := by
 have h1 := say_u hm hz r s hx
 have c0 : (t x).cov ≠ 0 := fun e => by have := hm.cov x hx; rw [e] at this; exact absurd this (by decide)
 have e1 : say t n r s x = say t n r s x * (t x).cov / (t x).cov := by rw [Rat.div_def,Rat.mul_assoc,Rat.mul_inv_cancel _ c0,Rat.mul_one]
 have h2 := qsz_div _ _ (Nat.le_refl (qsz (say t n r s x * (t x).cov))) (hz x hx).2
 rw [← e1] at h2
 omega
theorem say_few15 {F : Int} {t : Nat → Nd} {n : Nat} (hm : MayT F t n) (hz : ∀ i,i < n → qsz (t i).val ≤ 4 ∧ qsz (t i).cov ≤ 4) (hn : n ≤ 15) (r : Nat → Cl) (s : Nat) {x : Nat} (hx : x < n) : qsz (say t n r s x) ≤ 75 := by
 have h1 := say_tight hm hz r s hx
 have h2 := hm.count hx
 have h3 := hm.pre_few hx
 omega
theorem whyI_zero11 {F : Int} {k : Nat} {N : Nat → Nat} {T : Nat → Nat → Nd} {nr : Nat} (h : whyI F k N T nr = 0) : mayB F k N T = true ∧ (nr : Int) = F := by
 unfold whyI at h
 by_cases a : mayB F k N T = true
 ·rw [if_pos a] at h
  by_cases b : (nr : Int) = F
  ·exact ⟨a,b⟩
  ·rw [if_neg b] at h; omega
 ·rw [if_neg a] at h; omega
end Go.Proofs.YtjmagcgobhaenaaGreatDoor
