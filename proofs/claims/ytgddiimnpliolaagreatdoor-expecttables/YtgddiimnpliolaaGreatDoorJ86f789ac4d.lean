/-
  Texts of mine, joined: what lies beneath the statement.
-/
import Derived.Test.YtgddiimnpliolaaGreatDoorJb82b0d9242
import Derived.Test.YtgddiimnpliolaaGreatDoorJ2a4665a74f
import Derived.Test.YtgddiimnpliolaaGreatDoorJ301628d5e9
namespace Go.Proofs.YtgddiimnpliolaaGreatDoor
open Go.RowKit Go.Shelf
set_option linter.unusedVariables false
set_option linter.unusedSimpArgs false
attribute [local go_sem] Oper.semAt_some
theorem nthB_mem (zs : List Nat) {k : Nat} (h : k < zs.length) : nthB zs zs.length k ∈ zs := by
 unfold nthB
 rw [List.getD_eq_getElem?_getD,List.getElem?_eq_getElem (by omega)]
 exact List.getElem_mem _
theorem TRow.sz11 {w : World} {v : Value} {n : Nat} {t : Nat → Nd} {L : Nat} (h : TRow w v n t L) (hL : 1 ≤ L) {i : Nat} (hi : i < n) : qsz (t i).val ≤ L ∧ qsz (t i).cov ≤ L := by
 obtain ⟨b,off,c,p1,a1,n1,c1,b1,m1,d1,p2,a2,n2,c2,b2,m2,d2,p3,a3,n3,c3,b3,m3,d3,e,hc,hm,hN,r1,r2,r3,i1,i2,i3⟩ := h.at hi
 exact ⟨r2.qsz hL,r3.qsz hL⟩
theorem RInv.run {t : Nat → Nd} {n : Nat} : ∀ d (out wait : List Nat),n - out.length ≤ d → RInv t n out wait → ∃ out',RInv t n out' [] := by
 intro d
 induction d with
 | zero =>
  intro out wait hd h
  rcases List.eq_nil_or_concat wait with rfl | ⟨ws,i,rfl⟩
  ·exact ⟨out,h⟩
  ·have := h.len
   simp at this
   omega
 | succ d ih =>
  intro out wait hd h
  rcases List.eq_nil_or_concat wait with rfl | ⟨ws,i,rfl⟩
  ·exact ⟨out,h⟩
  ·rw [List.concat_eq_append] at h
   have hl := h.len
   simp at hl
   obtain ⟨F,hm⟩ := h.m
   have hi : i < n := h.d.small i (by simp)
   cases e : (t i).leaf with
   | true => exact ih _ _ (by simp; omega) (h.leaf e)
   | false =>
    obtain ⟨e1,e2,a1,a2,a3,a4,_,_⟩ := hm.kids hi e
    exact ih _ _ (by simp; omega) (h.split hm.once e e1 e2 a1 a2 a3 a4)
theorem MayT.pre_count {F : Int} {t : Nat → Nd} {n : Nat} (h : MayT F t n) : (pre t n 0).length = n := by
 obtain ⟨out,ho⟩ := RInv.run n [] [0] (by simp) (RInv.start (t := t) h.pos ⟨F,h⟩)
 rw [← ho.all]
 exact ho.count
theorem MayT.pre_few {F : Int} {t : Nat → Nd} {n : Nat} (h : MayT F t n) {x : Nat} (hx : x < n) : (pre t n x).length ≤ n := by
 have h0 : 0 < n := h.pos
 have h1 := ((h.pre_sub h0) x (h.pre_all x hx)).2.1
 have h2 := h.pre_count
 omega
theorem MayT.bnd_le {F : Int} {t : Nat → Nd} {n : Nat} (h : MayT F t n) (C : Nat) {x : Nat} (hx : x < n) : bnd t n C x ≤ n * C := Nat.mul_le_mul_right C (h.pre_few hx)
theorem sum_sz {F : Int} {t : Nat → Nd} {n L C : Nat} (hm : MayT F t n) (hz : ∀ i,i < n → qsz (t i).val ≤ L ∧ qsz (t i).cov ≤ L) (hC : 2 * L + 2 ≤ C) (q : Nat → Rat) (i : Nat) (hi : i < n) (hq : ∀ j,j < n → qsz (q j) ≤ bnd t n C j) : qsz (fSum t q i) ≤ bnd t n C i := by
 unfold fSum
 cases hl : (t i).leaf with
 | true =>
  rw [if_pos rfl]
  have h1 := qsz_mul _ _ (hz i hi).1 (hz i hi).2
  have h2 := bnd_pos (t := t) (n := n) (C := C) (by omega) i
  omega
 | false =>
  rw [if_neg (by simp)]
  obtain ⟨_,_,_,a2,_,a4,_,_⟩ := hm.kids hi hl
  have h1 := qsz_add _ _ (hq _ a2) (hq _ a4)
  have h2 := hm.bnd_split C hi hl
  omega
set_option maxRecDepth 100000 in
set_option maxHeartbeats 2000000 in
theorem share_at (u v : Value) (q r : Rat) (L : Nat) (w : World) (hu : RatAt w u q L) (hv : RatAt w v r L) (hL : 1 ≤ L) (hM : L ≤ 100000) (ht : Tab w) (h0 : r ≠ 0) :
  Calls Tryz.prog 88 #[u,v] w fun e w' => ∃ x,e = .returned x ∧ RepQ w' x (q / r) ∧ Below w.heap.size w w' := by
 obtain ⟨p,ao,n,c,bo,m,d,rfl⟩ := hu.open
 obtain ⟨p2,ao2,n2,c2,bo2,m2,d2,rfl⟩ := hv.open
 have BB : Below w.heap.size w w := Below.refl _ _
 obtain ⟨Wb0,hW0,hS0,hL0,VA⟩ := V3.lay w 40 (.bool p) (.slice ao n c) (.slice bo m d)
 replace hu := hu.below hL0
 replace hv := hv.below hL0
 replace ht := ht.below hL0
 replace BB := BB.trans (hL0.mono BB.size)
 clear hL0
 obtain ⟨Wb1,hW1,hS1,hL1,VB⟩ := V3.lay Wb0 40 (.bool p2) (.slice ao2 n2 c2) (.slice bo2 m2 d2)
 rw [hS0] at VB hS1
 replace hu := hu.below hL1
 replace hv := hv.below hL1
 replace ht := ht.below hL1
 replace VA := VA.below hL1
 replace BB := BB.trans (hL1.mono BB.size)
 clear hL1
 obtain ⟨Wb2,hW2,hS2,hL2,VR⟩ := V3.lay Wb1 40 (.bool false) (.slice none 0 0) (.slice none 0 0)
 rw [hS1] at VR hS2
 replace hu := hu.below hL2
 replace hv := hv.below hL2
 replace ht := ht.below hL2
 replace VA := VA.below hL2
 replace VB := VB.below hL2
 replace BB := BB.trans (hL2.mono BB.size)
 clear hL2
 go_enter Tryz.func88,Tryz.ntmps88
 go_wp2_with fail
 rw [← hW0]
 rw [← hW1]
 rw [← hW2]
 clear hW0 hW1 hW2 hS0 hS1 hS2
 refine (qdiv_at _ _ q r L _ hu hv hL hM ht h0).mono ?_
 rintro e w1 ⟨x3,rfl,hx,b1⟩
 replace hu := hu.below b1
 replace hv := hv.below b1
 replace ht := ht.below b1
 replace VA := VA.below b1
 replace VB := VB.below b1
 replace VR := VR.below b1
 replace BB := BB.trans (b1.mono BB.size)
 clear b1
 obtain ⟨p3,a3,n3,c3,b3,m3,d3,rfl⟩ := hx.open
 clear hu hv ht
 have hne : w.heap.size + 1 + 1 ≠ w1.heap.size := Nat.ne_of_lt VR.lt
 obtain ⟨W5,hW5,hS5,hL5,VO⟩ := V3.lay w1 40 (.bool p3) (.slice a3 n3 c3) (.slice b3 m3 d3)
 replace hx := hx.below hL5
 replace VR := VR.below hL5
 replace BB := BB.trans (hL5.mono BB.size)
 have hKp := VR.keepJ (.bool p3) (.slice a3 n3 c3) (.slice b3 m3 d3)
 have hx_n := hx.keep hKp
 have BB_n := below_store3 (R := w.heap.size + 1 + 1) BB (by omega) (.bool p3) (.slice a3 n3 c3) (.slice b3 m3 d3)
 obtain ⟨o1,o2,o3,o4,o5,o6⟩ := id VO
 obtain ⟨q1,q2,q3,q4,q5,q6⟩ := id VR
 rw [hW5] at o1 o2 o3 o4 o5 o6 q1 q2 q3 q4 q5 q6 hx_n BB_n
 clear hx VR BB hKp VO hL5 VA VB
 go_wp2
 (try simp only [Exit.inBlock,Exit.then])
 refine bodyPost_ret (v := .agg #[.bool p3,.slice a3 n3 c3,.slice b3 m3 d3]) (by simp [results,go_sem,q1,q2,q3]) rfl ?_
 exact ⟨_,rfl,hx_n,BB_n⟩
set_option maxRecDepth 100000 in
set_option maxHeartbeats 1000000 in
theorem downwards_at (F : Int) (v : Value) (n : Nat) (t : Nat → Nd) (r : Nat → Cl) (L : Nat) (w : World) (hT : TRow w v n t L) (hm : MayT F t n) (hF : F ≤ 64) :
  Calls Tryz.prog 101 #[v] w fun e w' => ∃ u outs,e = .returned u ∧ IntOwn w.heap.size w' u outs ∧ QInv t n r 0 outs outs.length ∧ Below w.heap.size w w' := by
 obtain ⟨at_,ct,rfl,htc,ht63⟩ := hT.open
 go_enter Tryz.func101,Tryz.ntmps101
 go_wp2_with fail
 refine (counted_at F _ _ _ n t r 0 L _ hT (OnW.none _ _ _ _ _ ⟨_,_,_,rfl⟩) ⟨_,_,_,rfl⟩ hm hF (by omega)).mono ?_
 rintro e w1 ⟨u,outs,rfl,hO,hQ,b1⟩
 go_wp2
 go_ret
 exact ⟨_,outs,rfl,hO,hQ,b1⟩
set_option maxRecDepth 100000 in
set_option maxHeartbeats 8000000 in
theorem sums_at (F : Int) (v : Value) (n : Nat) (t : Nat → Nd) (L C : Nat) (w : World) (hT : TRow w v n t L) (hm : MayT F t n) (hF : F ≤ 64) (ht : Tab w) (hL : 1 ≤ L) (hC : 2 * L + 2 ≤ C) (hCn : n * C ≤ 30000) :
  Calls Tryz.prog 89 #[v] w fun e w' => ∃ g,e = .returned (.slice (some ⟨g,0,none⟩) n n) ∧ w.heap.size ≤ g ∧ GArr w' g n (ws t n) (n * C) ∧ Below w.heap.size w w' := by
 refine (callsIn_wide (n := 9)).1 ?_
 obtain ⟨at_,ct,rfl,htc,ht63⟩ := hT.open
 obtain ⟨i0,hi,hz0,hz1,hz2⟩ := info_parts info_wrat
 have BB : Below w.heap.size w w := Below.refl _ _
 have HT0 : Hid (TRow w (.slice at_ n ct) n t L) := hT
 have HTB : Hid (Tab w) := ht
 have HM : Hid (MayT F t n) := hm
 have hn0 : 0 < n := hm.pos
 have hn255 := hm.few
 have HZ : Hid (∀ i,i < n → qsz (t i).val ≤ L ∧ qsz (t i).cov ≤ L) := fun i hi => hT.sz11 hL hi
 obtain ⟨W1,hW1,hS1,hL1,VT⟩ := V1.lay w 44 (.slice at_ n ct)
 replace BB := BB.trans (hL1.mono BB.size)
 clear hL1 hT hm ht
 refine callsIn_of_wp_marks Tryz.func89 rfl trivial ?_
 simp only [Tryz.ntmps89,List.size_toArray,List.length_cons,List.length_nil,Nat.reduceAdd,Nat.reduceSub,Array.replicate_succ,Array.replicate_zero,List.push_toArray,List.append_toArray,List.nil_append,List.cons_append]
 obtain ⟨VT1,VT2⟩ := id VT
 rw [hW1] at VT1 VT2
 gi_wp2_with (gi_at_make; rw [← hW1]; refine wpListIn_make_full _ rfl _ _ 31 rfl _ 40 i0 (.agg #[.bool false,.slice none 0 0,.slice none 0 0]) 3 Tryz.underlying31 hi hz0 hz1 _ _ _ _ n rfl rfl (by omega) (by omega) (by rw [hz2]; omega) (by unfold maxLen; omega) (Nat.le_refl _) ?_; intro w2 hown hgrow; have hb1 := below_grown hgrow; have GA := GArr.made hown (n * C); have VT5 := VT.below hb1; obtain ⟨W3,hW3,hS3,hL3,VO⟩ := V1.lay w2 31 (.slice (some ⟨w.heap.size + 1,0,none⟩) n n); have VT6 := VT5.below hL3; obtain ⟨VT7,VT8⟩ := id VT6; rw [hW3] at VT7 VT8; clear hown hgrow VT1 VT2 hW1)
 replace BB := BB.trans (hb1.mono BB.size)
 have hg2 : W1.heap.size < w2.heap.size := GA.lt hn0
 clear hb1 hi hz0 hz1 hz2 VT VT5 VT7 VT8
 have VT := VT6
 rw [← hW3]
 replace GA := GA.below hL3
 replace BB := BB.trans (hL3.mono BB.size)
 have hgl := GA.lt hn0
 clear hL3 hW3 VT6
 have hlT := VT.lt
 have hlO := VO.lt
 rw [hS1] at GA hgl hg2
 obtain ⟨g,hg⟩ : ∃ B,B = w.heap.size + 1 := ⟨_,rfl⟩
 rw [← hg] at GA VO ⊢
 obtain ⟨Bt,hBt⟩ : ∃ B,B = w.heap.size := ⟨_,rfl⟩
 rw [← hBt] at VT ⊢
 obtain ⟨Bo,hBo⟩ : ∃ B,B = w2.heap.size := ⟨_,rfl⟩
 rw [← hBo] at VO hg2 ⊢
 rw [← hg] at hg2
 have hG : Hid (Bt = w.heap.size ∧ g = w.heap.size + 1 ∧ g < Bo ∧ Bo < W3.heap.size) := ⟨hBt,hg,hg2,by omega⟩
 clear hBt hg hBo hg2 hlT hlO hgl hS1 hS3
 have HSZ : Hid (∀ l : List Nat,(∀ x ∈ l,x < n) → ∀ j,j < n → qsz (runB (fSum t) l j) ≤ n * C) := fun l hl j hj =>
  Nat.le_trans (runB_sz (b := bnd t n C) (n := n) (fun i => Nat.le_trans (by omega) (bnd_pos (by omega) i)) (fun q i hi hq => sum_sz HM.out HZ.out hC q i hi hq) l hl j hj) (HM.out.bnd_le C hj)
 have hL9 : L ≤ 30000 := by have := Nat.mul_le_mul hn0 hC; omega
 have hNC : 1 ≤ n * C := Nat.le_trans (by omega) (Nat.mul_le_mul hn0 hC)
 refine ⟨trivial,(callsIn_wide.2 (downwards_at F _ n t (fun _ => ⟨true,0⟩) L _ (HT0.out.below BB) HM.out hF)).mono ?_⟩
 rintro e W4 ⟨u,zs,rfl,hI,hQ,b4⟩
 have HQ : Hid (QInv t n (fun _ => ⟨true,0⟩) 0 zs zs.length) := hQ
 have hK1000 : zs.length ≤ n := hQ.len
 have hne : 0 < zs.length := (List.getElem?_eq_some_iff.1 hQ.root).1
 obtain ⟨b0,cz,rfl,hcz⟩ := hI.open hne
 have hb1 := hI.both b0 rfl
 have HC : Hid (∀ j x : Nat,zs[j]? = some x → W4.cell? ⟨b0,j,none⟩ = some (.int .i64 (x : Int))) := fun j x hj => hI.cell rfl hj
 replace VT := VT.below b4
 replace VO := VO.below b4
 replace GA := GA.below b4
 replace BB := BB.trans (b4.mono BB.size)
 have hs4 := b4.size
 clear b4 hI hQ
 gi_wp2_with fail
 refine ⟨trivial,(callsIn_wide.2 (back_at _ _ _ _ _ rfl)).mono ?_⟩
 rintro e WL ⟨Bs,rfl,hs1,hs2,hcs,b5⟩
 have hs5 := b5.size
 replace VT := VT.below b5
 replace VO := VO.below b5
 replace GA := GA.below b5
 replace BB := BB.trans (b5.mono BB.size)
 have hce : ∀ j x : Nat,zs[j]? = some x → WL.cell? ⟨b0,j,none⟩ = some (.int .i64 (x : Int)) := fun j x hj => (b5.cell (p := ⟨b0,j,none⟩) hb1.2).trans (HC.out j x hj)
 clear b5 HC
 have hB : Hid (Bo ≠ g ∧ Bs ≠ g ∧ b0 ≠ g ∧ Bs < WL.heap.size ∧ b0 < WL.heap.size ∧ w.heap.size ≤ g) := by
  obtain ⟨g1,g2,g3,g4⟩ := hG.out
  exact ⟨by omega,by omega,by omega,hs2,by omega,by omega⟩
 have hbl : b0 < WL.heap.size := by omega
 have HWL : Hid (w.heap.size ≤ WL.heap.size) := BB.size
 clear hb1 hs4 hs1 hs5
 gi_wp2_with fail
 obtain ⟨K,hK⟩ : ∃ K,K = zs.length := ⟨_,rfl⟩
 rw [← hK] at hcs hcz hK1000 ⊢
 have HK : Hid (K = zs.length) := hK
 refine wpIn_rangeFunc_ownG rfl (by decide) (gf := 151) (lb := #[.pointer (some ⟨Bs,0,none⟩)]) rfl trivial (enters_of Tryz.func151 (by kernel_rfl) rfl)
  (back_stops 8 Bs b0 cz K zs (by omega) hK (by omega) hcz WL hs2 hbl hcs hce) KeepB.trans (keepB_b hs2 hbl) (Below.refl _ _) (fun _ => rfl)
  (AInv w WL (fun W => V1 W Bt (.slice at_ n ct)) Bo g n (fSum t) (n * C) zs K) (fun _ _ _ => False) (AInv.own BB.size (fun W W' row h hg hr => V1.kept11 h hg hr)) (fun c s W W' row h _ _ => h)
  ⟨VT,VO,GA,BB,KeepsOthers.refl _⟩
  (fun x => { tmps := List.toArray ((.slice at_ n ct) :: .pointer (some ⟨Bt,0,none⟩) :: .slice none 0 0 :: .pointer (some ⟨Bo,0,none⟩) :: undef :: .int .i64 (nthB zs K x.1 : Int) :: undef :: (.slice at_ n ct) :: .int .i64 (n : Int) :: (.slice (some ⟨g,0,none⟩) n n) :: (.slice at_ n ct) :: .slice (some ⟨b0,0,none⟩) K cz :: .func (.func 151) #[] #[.pointer (some ⟨Bs,0,none⟩)] :: .int .i64 ((K - 1 - x.1 : Nat) : Int) :: .int .i64 (nthB zs K x.1 : Int) :: undef :: undef :: undef :: undef :: undef :: undef :: undef :: undef :: undef :: undef :: undef :: undef :: undef :: undef :: undef :: undef :: undef :: undef :: undef :: undef :: undef :: undef :: undef :: undef :: undef :: undef :: undef :: undef :: undef :: []),defers := [] }) ?assign ?body ?done ?stop
 case assign =>
  clear hK
  intro l x W Kk hKk
  unfold backV
  gi_wp2
  exact hKk
 case stop =>
  rintro D c pre W _ _ h _
  exact h.elim
 case body =>
  clear hce hcs VT VO GA BB hK
  rintro l pre ⟨k,hkK⟩ W5 ⟨VT,VO,GA,BB,hO⟩ hlt
  have rk : RK11 WL.heap.size WL W5 W5 := ⟨hO,KeepsOthers.refl _,Below.refl _ _,hO.size⟩
  have HPL : Hid (∀ x ∈ pre.map (fun x => nthB zs K x.1),x < n) := by
   intro x hx
   obtain ⟨y,_,rfl⟩ := List.mem_map.1 hx
   have hy := y.2
   have e := HK.out
   subst e
   exact HQ.out.small _ (nthB_mem zs hy)
  obtain ⟨i,hi⟩ : ∃ i,nthB zs K k = i := ⟨_,rfl⟩
  have HI : Hid (nthB zs K k = i) := hi
  have hin : i < n := by
   rw [← hi]
   have e := HK.out
   subst e
   exact HQ.out.small _ (nthB_mem zs hkK)
  dsimp only
  rw [hi]
  clear hi hO
  have HR : Hid (∀ j,j < n → qsz (runB (fSum t) (pre.map (fun x => nthB zs K x.1)) j) ≤ n * C) := HSZ.out _ HPL.out
  have HRN : Hid (qsz (fSum t (runB (fSum t) (pre.map (fun x => nthB zs K x.1))) i) ≤ n * C) := by
   have h1 := HSZ.out (pre.map (fun x => nthB zs K x.1) ++ [i]) (fun x hx => by
    rcases List.mem_append.1 hx with h | h
    ·exact HPL.out x h
    ·simp at h; omega) i hin
   rw [runB_more] at h1
   show qsz _ ≤ n * C
   simpa [stp] using h1
  generalize hqq : runB (fSum t) (pre.map (fun x => nthB zs K x.1)) = q at GA HR HRN
  have HQQ : Hid (runB (fSum t) (pre.map (fun x => nthB zs K x.1)) = q) := hqq
  clear hqq
  have g0 : (0 : Int) ≤ (i : Int) := by omega
  have g1 : (i : Int) < (n : Int) := by omega
  have ht := HTB.out.below BB
  obtain ⟨b,off,cc,p1,a1,n1,c1,b1,m1,d1,p2,a2,n2,c2,b2,m2,d2,p3,a3,n3,c3,b3,m3,d3,hvv,hcc,hc6,NN,r1,r2,r3,i1,i2,i3⟩ := (HT0.out.below BB).at hin
  cases hvv
  clear r1 i1 i2 i3
  cases hlf : (t i).leaf
  ·obtain ⟨e1,e2,k1,k2,k3,k4,_,_⟩ := HM.out.kids hin hlf
   have HFV : Hid (fSum t q i = q (kl t i) + q (kr t i)) := by show fSum t q i = _; unfold fSum; rw [if_neg (by simp [hlf])]
   rw [hlf,e1,e2] at NN
   clear hlf e1 e2 k1 k3
   generalize kl t i = x1 at *
   generalize kr t i = x2 at *
   have f0 : (0 : Int) ≤ (x1 : Int) := by omega
   have f1 : (x1 : Int) < (n : Int) := by omega
   have f2 : (0 : Int) ≤ (x2 : Int) := by omega
   have f3 : (x2 : Int) < (n : Int) := by omega
   clear r2 r3
   obtain ⟨T_0,T_1⟩ := id VT
   obtain ⟨N_0,N_1,N_2,N_3,N_4,N_5,N_6,N_7,N_8,N_9,N_10,N_11,N_12,N_13⟩ := id NN
   obtain ⟨W41,hW41,hS41,hL41,VN,FN⟩ := V14.lay W5 57 (.bool false) (.int .i64 (t i).feat) (.bool p1) (.slice a1 n1 c1) (.slice b1 m1 d1) (.int .i64 (x1 : Int)) (.int .i64 (x2 : Int)) (.bool (t i).miss) (.bool p2) (.slice a2 n2 c2) (.slice b2 m2 d2) (.bool p3) (.slice a3 n3 c3) (.slice b3 m3 d3)
   replace VT := VT.below hL41
   replace VO := VO.below hL41
   replace GA := GA.below hL41
   replace ht := ht.below hL41
   replace rk := rk.below hL41
   replace BB := BB.trans (hL41.mono BB.size)
   clear hL41
   obtain ⟨V_0,V_1,V_2,V_3,V_4,V_5,V_6,V_7,V_8,V_9,V_10,V_11,V_12,V_13⟩ := id VN
   rw [hW41] at V_0 V_1 V_2 V_3 V_4 V_5 V_6 V_7 V_8 V_9 V_10 V_11 V_12 V_13
   gi_wp2_with fail
   clear V_0 V_1 V_2 V_3 V_4 V_5 V_6 V_7 V_8 V_9 V_10 V_11 V_12 V_13 N_0 N_1 N_2 N_3 N_4 N_5 N_6 N_7 N_8 N_9 N_10 N_11 N_12 N_13 FN NN T_0 T_1
   rw [← hW41]
   generalize W5.heap.size = R41 at *
   clear hW41 hS41
   obtain ⟨p5,a5,n5,c5,b5,m5,d5,e50,e51,e52,R5⟩ := GA.at k2
   obtain ⟨p7,a7,n7,c7,b7,m7,d7,e70,e71,e72,R7⟩ := GA.at k4
   have X5 : E3 W41 g (x1 * 3) _ _ _ := ⟨e50,e51,e52⟩
   have X7 : E3 W41 g (x2 * 3) _ _ _ := ⟨e70,e71,e72⟩
   clear e50 e51 e52 e70 e71 e72
   refine region_until_in (by rintro ⟨_,_,h⟩; exact h) (by kernel_rfl) 13 #[true,true,true,true,true,true,true,true,true,true,true,true,true,false,false] (fun aF lsd a' w' => ∃ vu0 vu1 vu2 vu3 vu4 vu5 vu6 vu7 vu8 vu9 vu10 vu11 vu12 : Value,a' = ((((((((((((aF.put (some 29) vu0).put (some 30) vu1).put (some 31) vu2).put (some 32) vu3).put (some 33) vu4).put (some 34) vu5).put (some 35) vu6).put (some 36) vu7).put (some 37) vu8).put (some 38) vu9).put (some 39) vu10).put (some 40) vu11).put (some 41) vu12 ∧ Below W41.heap.size W41 w' ∧ (lsd.getD 0 false = true → vu0 = .slice (some ⟨g,0,none⟩) n n) ∧ (lsd.getD 1 false = true → vu1 = .int .i64 (i : Int)) ∧ (lsd.getD 2 false = true → vu2 = .slice (some ⟨g,0,none⟩) n n) ∧ (lsd.getD 3 false = true → vu3 = .pointer (some ⟨R41,5,none⟩)) ∧ (lsd.getD 4 false = true → vu4 = .int .i64 (x1 : Int)) ∧ (lsd.getD 5 false = true → vu5 = .pointer (some ⟨g,x1 * 3,none⟩)) ∧ (lsd.getD 6 false = true → vu6 = .agg #[.bool p5,.slice a5 n5 c5,.slice b5 m5 d5]) ∧ (lsd.getD 7 false = true → vu7 = .slice (some ⟨g,0,none⟩) n n) ∧ (lsd.getD 8 false = true → vu8 = .pointer (some ⟨R41,6,none⟩)) ∧ (lsd.getD 9 false = true → vu9 = .int .i64 (x2 : Int)) ∧ (lsd.getD 10 false = true → vu10 = .pointer (some ⟨g,x2 * 3,none⟩)) ∧ (lsd.getD 11 false = true → vu11 = .agg #[.bool p7,.slice a7 n7 c7,.slice b7 m7 d7]) ∧ (lsd.getD 12 false = true → RepQ w' vu12 (q x1 + q x2))) (by kernel_rfl) (by decide) (by kernel_rfl) (by rfl) (by kernel_rfl) ?_ ?_ ?_
   ·exact ⟨_,_,_,_,_,_,_,_,_,_,_,_,_,by simp only [Act.put,xL4,xL5,xL6]; rfl,(Below.refl _ _).drew,fun h => absurd h (fun h => mark_none h),fun h => absurd h (fun h => mark_none h),fun h => absurd h (fun h => mark_none h),fun h => absurd h (fun h => mark_none h),fun h => absurd h (fun h => mark_none h),fun h => absurd h (fun h => mark_none h),fun h => absurd h (fun h => mark_none h),fun h => absurd h (fun h => mark_none h),fun h => absurd h (fun h => mark_none h),fun h => absurd h (fun h => mark_none h),fun h => absurd h (fun h => mark_none h),fun h => absurd h (fun h => mark_none h),fun h => absurd h (fun h => mark_none h)⟩
   ·rintro lsd au wn iu hszu ⟨vu0,vu1,vu2,vu3,vu4,vu5,vu6,vu7,vu8,vu9,vu10,vu11,vu12,rfl,hbu,fu0,fu1,fu2,fu3,fu4,fu5,fu6,fu7,fu8,fu9,fu10,fu11,fu12⟩ himu hru
    rcases (show iu = 0 ∨ iu = 1 ∨ iu = 2 ∨ iu = 3 ∨ iu = 4 ∨ iu = 5 ∨ iu = 6 ∨ iu = 7 ∨ iu = 8 ∨ iu = 9 ∨ iu = 10 ∨ iu = 11 ∨ iu = 12 by omega) with rfl | rfl | rfl | rfl | rfl | rfl | rfl | rfl | rfl | rfl | rfl | rfl | rfl
    ·refine wpOp_shut (by rfl) (fun K hK => ?_)
     simp only [Act.put,xL4,xL5,xL6]
     obtain ⟨VO_0,VO_1⟩ := VO.below hbu
     go_simp
     exact hK.out _ _ ⟨(.slice (some ⟨g,0,none⟩) n n),vu1,vu2,vu3,vu4,vu5,vu6,vu7,vu8,vu9,vu10,vu11,vu12,by simp only [Act.put,xL4,xL5,xL6],hbu,fun _ => rfl,fun h => fu1 (mark_of (by decide) h),fun h => fu2 (mark_of (by decide) h),fun h => fu3 (mark_of (by decide) h),fun h => fu4 (mark_of (by decide) h),fun h => fu5 (mark_of (by decide) h),fun h => fu6 (mark_of (by decide) h),fun h => fu7 (mark_of (by decide) h),fun h => fu8 (mark_of (by decide) h),fun h => fu9 (mark_of (by decide) h),fun h => fu10 (mark_of (by decide) h),fun h => fu11 (mark_of (by decide) h),fun h => fu12 (mark_of (by decide) h)⟩
    ·refine wpOp_shut (by rfl) (fun K hK => ?_)
     simp only [Act.put,xL4,xL5,xL6]
     go_simp
     exact hK.out _ _ ⟨vu0,(.int .i64 (i : Int)),vu2,vu3,vu4,vu5,vu6,vu7,vu8,vu9,vu10,vu11,vu12,by simp only [Act.put,xL4,xL5,xL6],hbu,fun h => fu0 (mark_of (by decide) h),fun _ => rfl,fun h => fu2 (mark_of (by decide) h),fun h => fu3 (mark_of (by decide) h),fun h => fu4 (mark_of (by decide) h),fun h => fu5 (mark_of (by decide) h),fun h => fu6 (mark_of (by decide) h),fun h => fu7 (mark_of (by decide) h),fun h => fu8 (mark_of (by decide) h),fun h => fu9 (mark_of (by decide) h),fun h => fu10 (mark_of (by decide) h),fun h => fu11 (mark_of (by decide) h),fun h => fu12 (mark_of (by decide) h)⟩
    ·refine wpOp_shut (by rfl) (fun K hK => ?_)
     simp only [Act.put,xL4,xL5,xL6]
     obtain ⟨VO_0,VO_1⟩ := VO.below hbu
     go_simp
     exact hK.out _ _ ⟨vu0,vu1,(.slice (some ⟨g,0,none⟩) n n),vu3,vu4,vu5,vu6,vu7,vu8,vu9,vu10,vu11,vu12,by simp only [Act.put,xL4,xL5,xL6],hbu,fun h => fu0 (mark_of (by decide) h),fun h => fu1 (mark_of (by decide) h),fun _ => rfl,fun h => fu3 (mark_of (by decide) h),fun h => fu4 (mark_of (by decide) h),fun h => fu5 (mark_of (by decide) h),fun h => fu6 (mark_of (by decide) h),fun h => fu7 (mark_of (by decide) h),fun h => fu8 (mark_of (by decide) h),fun h => fu9 (mark_of (by decide) h),fun h => fu10 (mark_of (by decide) h),fun h => fu11 (mark_of (by decide) h),fun h => fu12 (mark_of (by decide) h)⟩
    ·refine wpOp_shut (by rfl) (fun K hK => ?_)
     simp only [Act.put,xL4,xL5,xL6]
     go_simp
     exact hK.out _ _ ⟨vu0,vu1,vu2,(.pointer (some ⟨R41,5,none⟩)),vu4,vu5,vu6,vu7,vu8,vu9,vu10,vu11,vu12,by simp only [Act.put,xL4,xL5,xL6],hbu,fun h => fu0 (mark_of (by decide) h),fun h => fu1 (mark_of (by decide) h),fun h => fu2 (mark_of (by decide) h),fun _ => rfl,fun h => fu4 (mark_of (by decide) h),fun h => fu5 (mark_of (by decide) h),fun h => fu6 (mark_of (by decide) h),fun h => fu7 (mark_of (by decide) h),fun h => fu8 (mark_of (by decide) h),fun h => fu9 (mark_of (by decide) h),fun h => fu10 (mark_of (by decide) h),fun h => fu11 (mark_of (by decide) h),fun h => fu12 (mark_of (by decide) h)⟩
    ·have eu3 := fu3 (dep_of 3 hru rfl (by kernel_rfl))
     replace eu3 := eu3.symm
     subst eu3
     refine wpOp_shut (by rfl) (fun K hK => ?_)
     simp only [Act.put,xL4,xL5,xL6]
     obtain ⟨y0,y1,y2,y3,y4,y5,y6,y7,y8,y9,y10,y11,y12,y13⟩ := VN.below hbu
     go_simp
     exact hK.out _ _ ⟨vu0,vu1,vu2,(.pointer (some ⟨R41,5,none⟩)),(.int .i64 (x1 : Int)),vu5,vu6,vu7,vu8,vu9,vu10,vu11,vu12,by simp only [Act.put,xL4,xL5,xL6],hbu,fun h => fu0 (mark_of (by decide) h),fun h => fu1 (mark_of (by decide) h),fun h => fu2 (mark_of (by decide) h),fun _ => rfl,fun _ => rfl,fun h => fu5 (mark_of (by decide) h),fun h => fu6 (mark_of (by decide) h),fun h => fu7 (mark_of (by decide) h),fun h => fu8 (mark_of (by decide) h),fun h => fu9 (mark_of (by decide) h),fun h => fu10 (mark_of (by decide) h),fun h => fu11 (mark_of (by decide) h),fun h => fu12 (mark_of (by decide) h)⟩
    ·have eu2 := fu2 (dep_of 2 hru rfl (by kernel_rfl))
     have eu4 := fu4 (dep_of 4 hru rfl (by kernel_rfl))
     replace eu2 := eu2.symm
     subst eu2
     replace eu4 := eu4.symm
     subst eu4
     refine wpOp_shut (by rfl) (fun K hK => ?_)
     simp only [Act.put,xL4,xL5,xL6]
     go_simp
     exact hK.out _ _ ⟨vu0,vu1,(.slice (some ⟨g,0,none⟩) n n),vu3,(.int .i64 (x1 : Int)),(.pointer (some ⟨g,x1 * 3,none⟩)),vu6,vu7,vu8,vu9,vu10,vu11,vu12,by simp only [Act.put,xL4,xL5,xL6],hbu,fun h => fu0 (mark_of (by decide) h),fun h => fu1 (mark_of (by decide) h),fun _ => rfl,fun h => fu3 (mark_of (by decide) h),fun _ => rfl,fun _ => rfl,fun h => fu6 (mark_of (by decide) h),fun h => fu7 (mark_of (by decide) h),fun h => fu8 (mark_of (by decide) h),fun h => fu9 (mark_of (by decide) h),fun h => fu10 (mark_of (by decide) h),fun h => fu11 (mark_of (by decide) h),fun h => fu12 (mark_of (by decide) h)⟩
    ·have eu5 := fu5 (dep_of 5 hru rfl (by kernel_rfl))
     replace eu5 := eu5.symm
     subst eu5
     refine wpOp_shut (by rfl) (fun K hK => ?_)
     simp only [Act.put,xL4,xL5,xL6]
     obtain ⟨X5_0,X5_1,X5_2⟩ := X5.below hbu
     go_simp
     exact hK.out _ _ ⟨vu0,vu1,vu2,vu3,vu4,(.pointer (some ⟨g,x1 * 3,none⟩)),(.agg #[.bool p5,.slice a5 n5 c5,.slice b5 m5 d5]),vu7,vu8,vu9,vu10,vu11,vu12,by simp only [Act.put,xL4,xL5,xL6],hbu,fun h => fu0 (mark_of (by decide) h),fun h => fu1 (mark_of (by decide) h),fun h => fu2 (mark_of (by decide) h),fun h => fu3 (mark_of (by decide) h),fun h => fu4 (mark_of (by decide) h),fun _ => rfl,fun _ => rfl,fun h => fu7 (mark_of (by decide) h),fun h => fu8 (mark_of (by decide) h),fun h => fu9 (mark_of (by decide) h),fun h => fu10 (mark_of (by decide) h),fun h => fu11 (mark_of (by decide) h),fun h => fu12 (mark_of (by decide) h)⟩
    ·refine wpOp_shut (by rfl) (fun K hK => ?_)
     simp only [Act.put,xL4,xL5,xL6]
     obtain ⟨VO_0,VO_1⟩ := VO.below hbu
     go_simp
     exact hK.out _ _ ⟨vu0,vu1,vu2,vu3,vu4,vu5,vu6,(.slice (some ⟨g,0,none⟩) n n),vu8,vu9,vu10,vu11,vu12,by simp only [Act.put,xL4,xL5,xL6],hbu,fun h => fu0 (mark_of (by decide) h),fun h => fu1 (mark_of (by decide) h),fun h => fu2 (mark_of (by decide) h),fun h => fu3 (mark_of (by decide) h),fun h => fu4 (mark_of (by decide) h),fun h => fu5 (mark_of (by decide) h),fun h => fu6 (mark_of (by decide) h),fun _ => rfl,fun h => fu8 (mark_of (by decide) h),fun h => fu9 (mark_of (by decide) h),fun h => fu10 (mark_of (by decide) h),fun h => fu11 (mark_of (by decide) h),fun h => fu12 (mark_of (by decide) h)⟩
    ·refine wpOp_shut (by rfl) (fun K hK => ?_)
     simp only [Act.put,xL4,xL5,xL6]
     go_simp
     exact hK.out _ _ ⟨vu0,vu1,vu2,vu3,vu4,vu5,vu6,vu7,(.pointer (some ⟨R41,6,none⟩)),vu9,vu10,vu11,vu12,by simp only [Act.put,xL4,xL5,xL6],hbu,fun h => fu0 (mark_of (by decide) h),fun h => fu1 (mark_of (by decide) h),fun h => fu2 (mark_of (by decide) h),fun h => fu3 (mark_of (by decide) h),fun h => fu4 (mark_of (by decide) h),fun h => fu5 (mark_of (by decide) h),fun h => fu6 (mark_of (by decide) h),fun h => fu7 (mark_of (by decide) h),fun _ => rfl,fun h => fu9 (mark_of (by decide) h),fun h => fu10 (mark_of (by decide) h),fun h => fu11 (mark_of (by decide) h),fun h => fu12 (mark_of (by decide) h)⟩
    ·have eu8 := fu8 (dep_of 8 hru rfl (by kernel_rfl))
     replace eu8 := eu8.symm
     subst eu8
     refine wpOp_shut (by rfl) (fun K hK => ?_)
     simp only [Act.put,xL4,xL5,xL6]
     obtain ⟨y0,y1,y2,y3,y4,y5,y6,y7,y8,y9,y10,y11,y12,y13⟩ := VN.below hbu
     go_simp
     exact hK.out _ _ ⟨vu0,vu1,vu2,vu3,vu4,vu5,vu6,vu7,(.pointer (some ⟨R41,6,none⟩)),(.int .i64 (x2 : Int)),vu10,vu11,vu12,by simp only [Act.put,xL4,xL5,xL6],hbu,fun h => fu0 (mark_of (by decide) h),fun h => fu1 (mark_of (by decide) h),fun h => fu2 (mark_of (by decide) h),fun h => fu3 (mark_of (by decide) h),fun h => fu4 (mark_of (by decide) h),fun h => fu5 (mark_of (by decide) h),fun h => fu6 (mark_of (by decide) h),fun h => fu7 (mark_of (by decide) h),fun _ => rfl,fun _ => rfl,fun h => fu10 (mark_of (by decide) h),fun h => fu11 (mark_of (by decide) h),fun h => fu12 (mark_of (by decide) h)⟩
    ·have eu7 := fu7 (dep_of 7 hru rfl (by kernel_rfl))
     have eu9 := fu9 (dep_of 9 hru rfl (by kernel_rfl))
     replace eu7 := eu7.symm
     subst eu7
     replace eu9 := eu9.symm
     subst eu9
     refine wpOp_shut (by rfl) (fun K hK => ?_)
     simp only [Act.put,xL4,xL5,xL6]
     go_simp
     exact hK.out _ _ ⟨vu0,vu1,vu2,vu3,vu4,vu5,vu6,(.slice (some ⟨g,0,none⟩) n n),vu8,(.int .i64 (x2 : Int)),(.pointer (some ⟨g,x2 * 3,none⟩)),vu11,vu12,by simp only [Act.put,xL4,xL5,xL6],hbu,fun h => fu0 (mark_of (by decide) h),fun h => fu1 (mark_of (by decide) h),fun h => fu2 (mark_of (by decide) h),fun h => fu3 (mark_of (by decide) h),fun h => fu4 (mark_of (by decide) h),fun h => fu5 (mark_of (by decide) h),fun h => fu6 (mark_of (by decide) h),fun _ => rfl,fun h => fu8 (mark_of (by decide) h),fun _ => rfl,fun _ => rfl,fun h => fu11 (mark_of (by decide) h),fun h => fu12 (mark_of (by decide) h)⟩
    ·have eu10 := fu10 (dep_of 10 hru rfl (by kernel_rfl))
     replace eu10 := eu10.symm
     subst eu10
     refine wpOp_shut (by rfl) (fun K hK => ?_)
     simp only [Act.put,xL4,xL5,xL6]
     obtain ⟨X7_0,X7_1,X7_2⟩ := X7.below hbu
     go_simp
     exact hK.out _ _ ⟨vu0,vu1,vu2,vu3,vu4,vu5,vu6,vu7,vu8,vu9,(.pointer (some ⟨g,x2 * 3,none⟩)),(.agg #[.bool p7,.slice a7 n7 c7,.slice b7 m7 d7]),vu12,by simp only [Act.put,xL4,xL5,xL6],hbu,fun h => fu0 (mark_of (by decide) h),fun h => fu1 (mark_of (by decide) h),fun h => fu2 (mark_of (by decide) h),fun h => fu3 (mark_of (by decide) h),fun h => fu4 (mark_of (by decide) h),fun h => fu5 (mark_of (by decide) h),fun h => fu6 (mark_of (by decide) h),fun h => fu7 (mark_of (by decide) h),fun h => fu8 (mark_of (by decide) h),fun h => fu9 (mark_of (by decide) h),fun _ => rfl,fun _ => rfl,fun h => fu12 (mark_of (by decide) h)⟩
    ·have eu6 := fu6 (dep_of 6 hru rfl (by kernel_rfl))
     have eu11 := fu11 (dep_of 11 hru rfl (by kernel_rfl))
     replace eu6 := eu6.symm
     subst eu6
     replace eu11 := eu11.symm
     subst eu11
     refine wpOp_shut (by rfl) (fun K hK => ?_)
     simp only [Act.put,xL4,xL5,xL6]
     have ht := ht.below hbu
     have R5 := R5.below hbu
     have R7 := R7.below hbu
     go_simp
     refine (qadd_at _ _ (q x1) (q x2) (n * C) _ R5 R7 hNC (by omega) ht).mono ?_
     rintro eu wx ⟨x6,rfl,h6,bu⟩
     go_wp2_with fail
     have hbu2 := hbu.trans (bu.mono hbu.size)
     exact hK.out _ _ ⟨vu0,vu1,vu2,vu3,vu4,vu5,(.agg #[.bool p5,.slice a5 n5 c5,.slice b5 m5 d5]),vu7,vu8,vu9,vu10,(.agg #[.bool p7,.slice a7 n7 c7,.slice b7 m7 d7]),_,by simp only [Act.put,xL4,xL5,xL6],hbu2,fun h => fu0 (mark_of (by decide) h),fun h => fu1 (mark_of (by decide) h),fun h => fu2 (mark_of (by decide) h),fun h => fu3 (mark_of (by decide) h),fun h => fu4 (mark_of (by decide) h),fun h => fu5 (mark_of (by decide) h),fun _ => rfl,fun h => fu7 (mark_of (by decide) h),fun h => fu8 (mark_of (by decide) h),fun h => fu9 (mark_of (by decide) h),fun h => fu10 (mark_of (by decide) h),fun _ => rfl,fun _ => h6⟩
   rintro au Wu42 ⟨vu0,vu1,vu2,vu3,vu4,vu5,vu6,vu7,vu8,vu9,vu10,vu11,vu12,rfl,hbu,fu0,fu1,fu2,fu3,fu4,fu5,fu6,fu7,fu8,fu9,fu10,fu11,fu12⟩
   have eu0 := (fu0 rfl).symm
   subst eu0
   have eu1 := (fu1 rfl).symm
   subst eu1
   have eu2 := (fu2 rfl).symm
   subst eu2
   have eu3 := (fu3 rfl).symm
   subst eu3
   have eu4 := (fu4 rfl).symm
   subst eu4
   have eu5 := (fu5 rfl).symm
   subst eu5
   have eu6 := (fu6 rfl).symm
   subst eu6
   have eu7 := (fu7 rfl).symm
   subst eu7
   have eu8 := (fu8 rfl).symm
   subst eu8
   have eu9 := (fu9 rfl).symm
   subst eu9
   have eu10 := (fu10 rfl).symm
   subst eu10
   have eu11 := (fu11 rfl).symm
   subst eu11
   have h6 := fu12 rfl
   clear fu0 fu1 fu2 fu3 fu4 fu5 fu6 fu7 fu8 fu9 fu10 fu11 fu12
   have hlX5 : g < W41.heap.size := X5.lt
   have hlX7 : g < W41.heap.size := X7.lt
   replace VT := VT.below hbu
   replace VO := VO.below hbu
   replace GA := GA.below hbu
   replace ht := ht.below hbu
   replace rk := rk.below hbu
   replace VN := VN.below hbu
   replace R5 := R5.below hbu
   replace R7 := R7.below hbu
   replace X5 := X5.below hbu
   replace X7 := X7.below hbu
   replace BB := BB.trans (hbu.mono BB.size)
   clear hbu
   obtain ⟨p6,a6,n6,c6,b6,m6,d6,rfl⟩ := h6.open
   rw [← HFV.out] at h6
   simp only [Act.put,xL4,xL5,xL6]
   refine xR [13] (h := ?_)
   refine AllReadyH.cons (by rfl) (fun K hK => ?_) AllReadyH.nil
   go_simp
   refine hK.out _ _ trivial (fun _ => ?_)
   clear hK K
   simp only [Act.put,xL4,xL5,xL6]
   refine xR [14] (h := ?_)
   refine AllReadyH.cons (by rfl) (fun K hK => ?_) AllReadyH.nil
   obtain ⟨⟨u0,u1,u2,s0,s1,s2,s3,s4,s5⟩,FIN⟩ := AInv.put (E := fun W => V1 W Bt (.slice (some ⟨b,off,none⟩) n ct)) (x := ⟨k,hkK⟩) (fun W W2 h e => V1.block11 e (h _ (by have := hG.out; omega))) hB VT VO (HQQ.out.symm ▸ GA) BB rk HI.out hin (by rw [HQQ.out]; exact h6.at _ HRN.out)
   go_simp
   clear s0 s1 s2 s3 s4 s5
   refine hK.out _ _ trivial (fun _ => ?_)
   clear hK K
   simp only [Act.put,xL4,xL5,xL6]
   refine wpAnyH_done (by kernel_rfl) ?_ _
   exact FIN
  ·have HFV : Hid (fSum t q i = (t i).val * (t i).cov) := by show fSum t q i = _; unfold fSum; rw [if_pos hlf]
   rw [hlf] at NN
   clear hlf
   obtain ⟨T_0,T_1⟩ := id VT
   obtain ⟨N_0,N_1,N_2,N_3,N_4,N_5,N_6,N_7,N_8,N_9,N_10,N_11,N_12,N_13⟩ := id NN
   obtain ⟨W41,hW41,hS41,hL41,VN,FN⟩ := V14.lay W5 57 (.bool true) (.int .i64 (t i).feat) (.bool p1) (.slice a1 n1 c1) (.slice b1 m1 d1) (.int .i64 (t i).left) (.int .i64 (t i).right) (.bool (t i).miss) (.bool p2) (.slice a2 n2 c2) (.slice b2 m2 d2) (.bool p3) (.slice a3 n3 c3) (.slice b3 m3 d3)
   replace VT := VT.below hL41
   replace VO := VO.below hL41
   replace GA := GA.below hL41
   replace ht := ht.below hL41
   replace rk := rk.below hL41
   replace r2 := r2.below hL41
   replace r3 := r3.below hL41
   replace BB := BB.trans (hL41.mono BB.size)
   clear hL41
   obtain ⟨V_0,V_1,V_2,V_3,V_4,V_5,V_6,V_7,V_8,V_9,V_10,V_11,V_12,V_13⟩ := id VN
   rw [hW41] at V_0 V_1 V_2 V_3 V_4 V_5 V_6 V_7 V_8 V_9 V_10 V_11 V_12 V_13
   gi_wp2_with fail
   clear V_0 V_1 V_2 V_3 V_4 V_5 V_6 V_7 V_8 V_9 V_10 V_11 V_12 V_13 N_0 N_1 N_2 N_3 N_4 N_5 N_6 N_7 N_8 N_9 N_10 N_11 N_12 N_13 FN NN T_0 T_1
   rw [← hW41]
   generalize W5.heap.size = R41 at *
   clear hW41 hS41
   refine region_until_in (by rintro ⟨_,_,h⟩; exact h) (by kernel_rfl) 7 #[true,true,true,true,true,true,true,false,false] (fun aF lsd a' w' => ∃ vu0 vu1 vu2 vu3 vu4 vu5 vu6 : Value,a' = ((((((aF.put (some 21) vu0).put (some 22) vu1).put (some 23) vu2).put (some 24) vu3).put (some 25) vu4).put (some 26) vu5).put (some 27) vu6 ∧ Below W41.heap.size W41 w' ∧ (lsd.getD 0 false = true → vu0 = .slice (some ⟨g,0,none⟩) n n) ∧ (lsd.getD 1 false = true → vu1 = .int .i64 (i : Int)) ∧ (lsd.getD 2 false = true → vu2 = .pointer (some ⟨R41,8,none⟩)) ∧ (lsd.getD 3 false = true → vu3 = .agg #[.bool p2,.slice a2 n2 c2,.slice b2 m2 d2]) ∧ (lsd.getD 4 false = true → vu4 = .pointer (some ⟨R41,11,none⟩)) ∧ (lsd.getD 5 false = true → vu5 = .agg #[.bool p3,.slice a3 n3 c3,.slice b3 m3 d3]) ∧ (lsd.getD 6 false = true → RepQ w' vu6 ((t i).val * (t i).cov))) (by kernel_rfl) (by decide) (by kernel_rfl) (by rfl) (by kernel_rfl) ?_ ?_ ?_
   ·exact ⟨_,_,_,_,_,_,_,by simp only [Act.put,xL4,xL5,xL6]; rfl,(Below.refl _ _).drew,fun h => absurd h (fun h => mark_none h),fun h => absurd h (fun h => mark_none h),fun h => absurd h (fun h => mark_none h),fun h => absurd h (fun h => mark_none h),fun h => absurd h (fun h => mark_none h),fun h => absurd h (fun h => mark_none h),fun h => absurd h (fun h => mark_none h)⟩
   ·rintro lsd au wn iu hszu ⟨vu0,vu1,vu2,vu3,vu4,vu5,vu6,rfl,hbu,fu0,fu1,fu2,fu3,fu4,fu5,fu6⟩ himu hru
    rcases (show iu = 0 ∨ iu = 1 ∨ iu = 2 ∨ iu = 3 ∨ iu = 4 ∨ iu = 5 ∨ iu = 6 by omega) with rfl | rfl | rfl | rfl | rfl | rfl | rfl
    ·refine wpOp_shut (by rfl) (fun K hK => ?_)
     simp only [Act.put,xL4,xL5,xL6]
     obtain ⟨VO_0,VO_1⟩ := VO.below hbu
     go_simp
     exact hK.out _ _ ⟨(.slice (some ⟨g,0,none⟩) n n),vu1,vu2,vu3,vu4,vu5,vu6,by simp only [Act.put,xL4,xL5,xL6],hbu,fun _ => rfl,fun h => fu1 (mark_of (by decide) h),fun h => fu2 (mark_of (by decide) h),fun h => fu3 (mark_of (by decide) h),fun h => fu4 (mark_of (by decide) h),fun h => fu5 (mark_of (by decide) h),fun h => fu6 (mark_of (by decide) h)⟩
    ·refine wpOp_shut (by rfl) (fun K hK => ?_)
     simp only [Act.put,xL4,xL5,xL6]
     go_simp
     exact hK.out _ _ ⟨vu0,(.int .i64 (i : Int)),vu2,vu3,vu4,vu5,vu6,by simp only [Act.put,xL4,xL5,xL6],hbu,fun h => fu0 (mark_of (by decide) h),fun _ => rfl,fun h => fu2 (mark_of (by decide) h),fun h => fu3 (mark_of (by decide) h),fun h => fu4 (mark_of (by decide) h),fun h => fu5 (mark_of (by decide) h),fun h => fu6 (mark_of (by decide) h)⟩
    ·refine wpOp_shut (by rfl) (fun K hK => ?_)
     simp only [Act.put,xL4,xL5,xL6]
     go_simp
     exact hK.out _ _ ⟨vu0,vu1,(.pointer (some ⟨R41,8,none⟩)),vu3,vu4,vu5,vu6,by simp only [Act.put,xL4,xL5,xL6],hbu,fun h => fu0 (mark_of (by decide) h),fun h => fu1 (mark_of (by decide) h),fun _ => rfl,fun h => fu3 (mark_of (by decide) h),fun h => fu4 (mark_of (by decide) h),fun h => fu5 (mark_of (by decide) h),fun h => fu6 (mark_of (by decide) h)⟩
    ·have eu2 := fu2 (dep_of 2 hru rfl (by kernel_rfl))
     replace eu2 := eu2.symm
     subst eu2
     refine wpOp_shut (by rfl) (fun K hK => ?_)
     simp only [Act.put,xL4,xL5,xL6]
     obtain ⟨y0,y1,y2,y3,y4,y5,y6,y7,y8,y9,y10,y11,y12,y13⟩ := VN.below hbu
     go_simp
     exact hK.out _ _ ⟨vu0,vu1,(.pointer (some ⟨R41,8,none⟩)),(.agg #[.bool p2,.slice a2 n2 c2,.slice b2 m2 d2]),vu4,vu5,vu6,by simp only [Act.put,xL4,xL5,xL6],hbu,fun h => fu0 (mark_of (by decide) h),fun h => fu1 (mark_of (by decide) h),fun _ => rfl,fun _ => rfl,fun h => fu4 (mark_of (by decide) h),fun h => fu5 (mark_of (by decide) h),fun h => fu6 (mark_of (by decide) h)⟩
    ·refine wpOp_shut (by rfl) (fun K hK => ?_)
     simp only [Act.put,xL4,xL5,xL6]
     go_simp
     exact hK.out _ _ ⟨vu0,vu1,vu2,vu3,(.pointer (some ⟨R41,11,none⟩)),vu5,vu6,by simp only [Act.put,xL4,xL5,xL6],hbu,fun h => fu0 (mark_of (by decide) h),fun h => fu1 (mark_of (by decide) h),fun h => fu2 (mark_of (by decide) h),fun h => fu3 (mark_of (by decide) h),fun _ => rfl,fun h => fu5 (mark_of (by decide) h),fun h => fu6 (mark_of (by decide) h)⟩
    ·have eu4 := fu4 (dep_of 4 hru rfl (by kernel_rfl))
     replace eu4 := eu4.symm
     subst eu4
     refine wpOp_shut (by rfl) (fun K hK => ?_)
     simp only [Act.put,xL4,xL5,xL6]
     obtain ⟨y0,y1,y2,y3,y4,y5,y6,y7,y8,y9,y10,y11,y12,y13⟩ := VN.below hbu
     go_simp
     exact hK.out _ _ ⟨vu0,vu1,vu2,vu3,(.pointer (some ⟨R41,11,none⟩)),(.agg #[.bool p3,.slice a3 n3 c3,.slice b3 m3 d3]),vu6,by simp only [Act.put,xL4,xL5,xL6],hbu,fun h => fu0 (mark_of (by decide) h),fun h => fu1 (mark_of (by decide) h),fun h => fu2 (mark_of (by decide) h),fun h => fu3 (mark_of (by decide) h),fun _ => rfl,fun _ => rfl,fun h => fu6 (mark_of (by decide) h)⟩
    ·have eu3 := fu3 (dep_of 3 hru rfl (by kernel_rfl))
     have eu5 := fu5 (dep_of 5 hru rfl (by kernel_rfl))
     replace eu3 := eu3.symm
     subst eu3
     replace eu5 := eu5.symm
     subst eu5
     refine wpOp_shut (by rfl) (fun K hK => ?_)
     simp only [Act.put,xL4,xL5,xL6]
     have ht := ht.below hbu
     have r2 := r2.below hbu
     have r3 := r3.below hbu
     go_simp
     refine (qmul_at _ _ (t i).val (t i).cov L _ r2 r3 hL (by omega) ht).mono ?_
     rintro eu wx ⟨x6,rfl,h6,bu⟩
     go_wp2_with fail
     have hbu2 := hbu.trans (bu.mono hbu.size)
     exact hK.out _ _ ⟨vu0,vu1,vu2,(.agg #[.bool p2,.slice a2 n2 c2,.slice b2 m2 d2]),vu4,(.agg #[.bool p3,.slice a3 n3 c3,.slice b3 m3 d3]),_,by simp only [Act.put,xL4,xL5,xL6],hbu2,fun h => fu0 (mark_of (by decide) h),fun h => fu1 (mark_of (by decide) h),fun h => fu2 (mark_of (by decide) h),fun _ => rfl,fun h => fu4 (mark_of (by decide) h),fun _ => rfl,fun _ => h6⟩
   rintro au Wu42 ⟨vu0,vu1,vu2,vu3,vu4,vu5,vu6,rfl,hbu,fu0,fu1,fu2,fu3,fu4,fu5,fu6⟩
   have eu0 := (fu0 rfl).symm
   subst eu0
   have eu1 := (fu1 rfl).symm
   subst eu1
   have eu2 := (fu2 rfl).symm
   subst eu2
   have eu3 := (fu3 rfl).symm
   subst eu3
   have eu4 := (fu4 rfl).symm
   subst eu4
   have eu5 := (fu5 rfl).symm
   subst eu5
   have h6 := fu6 rfl
   clear fu0 fu1 fu2 fu3 fu4 fu5 fu6
   replace VT := VT.below hbu
   replace VO := VO.below hbu
   replace GA := GA.below hbu
   replace ht := ht.below hbu
   replace rk := rk.below hbu
   replace r2 := r2.below hbu
   replace r3 := r3.below hbu
   replace VN := VN.below hbu
   replace BB := BB.trans (hbu.mono BB.size)
   clear hbu
   obtain ⟨p6,a6,n6,c6,b6,m6,d6,rfl⟩ := h6.open
   rw [← HFV.out] at h6
   simp only [Act.put,xL4,xL5,xL6]
   refine xR [7] (h := ?_)
   refine AllReadyH.cons (by rfl) (fun K hK => ?_) AllReadyH.nil
   go_simp
   refine hK.out _ _ trivial (fun _ => ?_)
   clear hK K
   simp only [Act.put,xL4,xL5,xL6]
   refine xR [8] (h := ?_)
   refine AllReadyH.cons (by rfl) (fun K hK => ?_) AllReadyH.nil
   obtain ⟨⟨u0,u1,u2,s0,s1,s2,s3,s4,s5⟩,FIN⟩ := AInv.put (E := fun W => V1 W Bt (.slice (some ⟨b,off,none⟩) n ct)) (x := ⟨k,hkK⟩) (fun W W2 h e => V1.block11 e (h _ (by have := hG.out; omega))) hB VT VO (HQQ.out.symm ▸ GA) BB rk HI.out hin (by rw [HQQ.out]; exact h6.at _ HRN.out)
   go_simp
   clear s0 s1 s2 s3 s4 s5
   refine hK.out _ _ trivial (fun _ => ?_)
   clear hK K
   simp only [Act.put,xL4,xL5,xL6]
   refine wpAnyH_done (by kernel_rfl) ?_ _
   exact FIN
 case done =>
  rintro D ys W5 hD rfl ⟨VT,VO,GA,BB,hO⟩ hKD
  clear hce hcs
  have hMk : Marks w.heap.size W5 [{ target := .collected D,args := #[] }] := ⟨D,rfl,Nat.le_trans HWL.out hD,hKD,by simp,trivial⟩
  have e9 : (finsB K K).map (fun x => nthB zs K x.1) = zs.reverse := by
   have e := HK.out
   subst e
   exact finsB_all zs
  rw [e9] at GA
  replace GA := GA.congr (q' := ws t n) (fun i hi => HM.out.run_sum HQ.out hi)
  clear e9 hKD hO hK
  obtain ⟨VO1,VO2⟩ := id VO
  gi_wp2_with fail
  refine leaves_marksF (B := w.heap.size) _ _ hMk BB.size ?_
  intro W' hb hcl
  refine ⟨.slice (some ⟨g,0,none⟩) n n,by simp [results,go_sem],g,rfl,hB.out.2.2.2.2.2,GA.left hcl,BB.trans hb⟩
end Go.Proofs.YtgddiimnpliolaaGreatDoor

namespace Go.Proofs.YtgddiimnpliolaaGreatDoor
open Go.RowKit
set_option linter.unusedVariables false
set_option linter.unusedSimpArgs false
def mean0 (T : Nat → Nat → Nd) (N : Nat → Nat) (i : Nat) : Rat := ws (T i) (N i) 0 / (T i 0).cov
theorem VArr.full {w : World} {g k : Nat} {q : Nat → Rat} {L : Nat} (h : VArr w g k k q) (hk : k ≤ 100000) (hq : ∀ i,i < k → qsz (q i) ≤ L) : QRow w (.slice (some ⟨g,0,none⟩) k k) k q L :=
 let ⟨el,a,b⟩ := h; ⟨el,a.row k k (Nat.le_refl _) (Nat.le_refl _) (by omega),fun j hj => (b j hj).at _ (hq j hj)⟩
def SumV (w : World) (v : Value) (n : Nat) (q : Nat → Rat) (L : Nat) : Prop := ∃ g,v = .slice (some ⟨g,0,none⟩) n n ∧ GArr w g n q L
def PtrV (w : World) (v : Value) (n : Nat) (q : Nat → Rat) (L : Nat) : Prop := ∃ g,v = .pointer (some ⟨g,0,none⟩) ∧ GArr w g n q L
theorem SumV.below {w w' : World} {v : Value} {n : Nat} {q : Nat → Rat} {L : Nat} (h : SumV w v n q L) (hb : Below w.heap.size w w') : SumV w' v n q L := let ⟨g,e,G⟩ := h; ⟨g,e,G.below hb⟩
theorem PtrV.below {w w' : World} {v : Value} {n : Nat} {q : Nat → Rat} {L : Nat} (h : PtrV w v n q L) (hb : Below w.heap.size w w') : PtrV w' v n q L := let ⟨g,e,G⟩ := h; ⟨g,e,G.below hb⟩
theorem ws_sz {F : Int} {t : Nat → Nd} {n L C : Nat} (hm : MayT F t n) (hz : ∀ i,i < n → qsz (t i).val ≤ L ∧ qsz (t i).cov ≤ L) (hC : 2 * L + 2 ≤ C) {M : Nat} (hM : n * C ≤ M) : ∀ {x : Nat},x < n → qsz (ws t n x) ≤ M := by
 intro x hx
 refine Nat.le_trans ?_ (Nat.le_trans (hm.bnd_le C hx) hM)
 refine hm.by_tree (P := fun x => qsz (ws t n x) ≤ bnd t n C x) (fun x hx hl => ?_) (fun x hx hl a b => ?_) hx
 ·rw [ws_leaf hl]
  have h1 := qsz_mul _ _ (hz x hx).1 (hz x hx).2
  have h2 := bnd_pos (t := t) (n := n) (C := C) (by omega) x
  omega
 ·rw [hm.ws_split hx hl]
  have h1 := qsz_add _ _ a b
  have h2 := hm.bnd_split C hx hl
  omega
set_option maxRecDepth 100000 in
set_option maxHeartbeats 16000000 in
theorem base_yes (F : Int) (vm : Value) (k : Nat) (N : Nat → Nat) (T : Nat → Nat → Nd) (L C : Nat) (w : World) (hM : MRow w vm k N T L) (ht : Tab w) (hL : 1 ≤ L) (hC : 2 * L + 2 ≤ C) (hCn : 255 * C ≤ 10000) (hw : mayB F k N T = true) (hk : k ≤ 6) :
  Calls Tryz.prog 48 #[.agg #[.int .i64 F,vm]] w fun e w' => ∃ x,e = .returned (.tuple #[x,.int .i64 0]) ∧ RepQ w' x (sumq (mean0 T N) k) ∧ Below w.heap.size w w' := by
 obtain ⟨ao,c,rfl,hnc,hc63⟩ := hM.open
 obtain ⟨i0,hi,hz0,hz1,hz2⟩ := info_parts info_wrat
 obtain ⟨W0,hW0,hS0,hL0,VM⟩ := V2.lay w 24 (.int .i64 F) (.slice ao k c)
 have BB : Below w.heap.size w W0 := hL0
 obtain ⟨W1,hW1,hS1,hL1,VR⟩ := V3.lay W0 40 (.bool false) (.slice none 0 0) (.slice none 0 0)
 rw [hS0] at VR
 replace VM := VM.below hL1
 replace BB := BB.trans (hL1.mono BB.size)
 clear hL0 hL1
 have HM0 : Hid (MRow w (.slice ao k c) k N T L) := hM
 have HT0 : Hid (Tab w) := ht
 clear hM ht
 go_enter Tryz.func48,Tryz.ntmps48
 obtain ⟨VM_0,VM_1,VM_2,VM_3⟩ := id VM
 rw [hW1,hW0] at VM_0 VM_1 VM_2 VM_3
 go_wp2_with fail
 clear VM_0 VM_1 VM_2 VM_3
 rw [← hW0,← hW1]
 clear hW0 hW1 hS0 hS1
 refine (ok_may F _ k N T L _ (HM0.out.below BB) (HT0.out.below BB) hL (by omega)).mono ?_
 rintro e w1 ⟨rfl,b1⟩
 replace VM := VM.below b1
 replace VR := VR.below b1
 replace BB := BB.trans (b1.mono BB.size)
 clear b1
 obtain ⟨_,_,_,hmy⟩ := mayB_may hw
 have HMY : Hid (∀ i,i < k → MayT F (T i) (N i)) := hmy
 have hF64 : F ≤ 64 := (mayB_may hw).2.1
 rw [hw]
 clear hmy hw
 obtain ⟨VM_0,VM_1,VM_2,VM_3⟩ := id VM
 go_wp2_with (at_make; refine wpList_make_full _ rfl _ _ 31 rfl _ 40 i0 (.agg #[.bool false,.slice none 0 0,.slice none 0 0]) 3 Tryz.underlying31 hi hz0 hz1 _ _ _ _ k rfl rfl (by omega) (by omega) (by rw [hz2]; omega) (by unfold maxLen; omega) (Nat.le_refl _) ?_; intro w2 hown hgrow; have hb1 := below_grown hgrow; have A1 := arr3_made hown; have BB1 := BB.trans (hb1.mono BB.size); have VM1 := VM.below hb1; obtain ⟨q1,q2,q3,q4⟩ := id VM1; clear VM_0 VM_1 VM_2 VM_3)
 have VA : VArr w2 w1.heap.size k 0 (mean0 T N) := ⟨_,A1,fun j hj => absurd hj (Nat.not_lt_zero _)⟩
 have hGB : w.heap.size ≤ w1.heap.size := BB.size
 have hGR : w.heap.size + 1 ≠ w1.heap.size := Nat.ne_of_lt VR.lt
 replace VR := VR.below hb1
 clear q1 q2 q3 q4 hown hgrow hb1 A1 VM VM1 BB hi hz0 hz1 hz2
 generalize w1.heap.size = G at *
 go_loopw [18] (fun vi wr => ∃ i : Nat,i ≤ k ∧ vi = .int .i64 (i : Int) ∧ VArr wr G k i (mean0 T N) ∧ V3 wr (w.heap.size + 1) (.bool false) (.slice none 0 0) (.slice none 0 0) ∧ Below w.heap.size w wr) (fun vi _ => k - (intOf vi).toNat)
 case atStart => exact ⟨0,by omega,rfl,VA,VR,BB1⟩
 case round =>
  clear VA BB1 VR
  obtain ⟨i,hi,rfl,VA,VR,BB⟩ := hrel
  by_cases hlt : i < k
  ·have g1 : (i : Int) < (k : Int) := by omega
   have g0 : (0 : Int) ≤ (i : Int) := by omega
   obtain ⟨b,off,cc,a,d,hvv,hcc,XC0,TR0⟩ := HM0.out.at hlt
   cases hvv
   have XC : wr.cell? ⟨b,off + i,none⟩ = some (.slice a (N i) d) := (BB.cell (p := ⟨b,off + i,none⟩) (World.block_lt_of_cell? _ _ XC0)).trans XC0
   have HMT : Hid (MayT F (T i) (N i)) := HMY.out i hlt
   have HTR : Hid (TRow w (.slice a (N i) d) (N i) (T i) L) := TR0
   have HMV : Hid (mean0 T N i = ws (T i) (N i) 0 / (T i 0).cov) := rfl
   have hn0 : 0 < N i := HMT.out.pos
   have hn255 : N i ≤ 255 := HMT.out.few
   generalize N i = n at *
   generalize T i = t at *
   have hnC : n * C ≤ 10000 := Nat.le_trans (Nat.mul_le_mul_right C hn255) hCn
   have hNC : 1 ≤ n * C := Nat.le_trans (by omega) (Nat.mul_le_mul hn0 hC)
   have hLC : L ≤ n * C := Nat.le_trans (by omega) (Nat.mul_le_mul hn0 hC)
   have hcn : (t 0).cov ≠ 0 := fun e => by have := HMT.out.cov 0 hn0; rw [e] at this; exact absurd this (by decide)
   clear XC0 TR0
   go_wp2
   clear XC
   obtain ⟨b9,off9,cc9,p1,a1,n1,c1,b1,m1,d1,p2,a2,n2,c2,b2,m2,d2,p3,a3,n3,c3,b3,m3,d3,hvv,hcc9,hc6,NN,r1,r2,rc,i1,i2,i3⟩ := (HTR.out.below BB).at hn0
   cases hvv
   have X0 : E3 wr b9 (off9 + 11) (.bool p3) (.slice a3 n3 c3) (.slice b3 m3 d3) := by simpa using (show E3 wr b9 (off9 + 0 * 14 + 11) _ _ _ from ⟨NN.c11,NN.c12,NN.c13⟩)
   have f1 : (0 : Int) < (n : Int) := by omega
   have ht := HT0.out.below BB
   clear NN r1 r2 i1 i2 i3
   refine wp_region_until 11 #[true,true,true,true,true,true,true,true,true,true,true,false,false] (fun aF lsd a' w' => ∃ vu0 vu1 vu2 vu3 vu4 vu5 vu6 vu7 vu8 vu9 vu10 : Value,a' = ((((((((((aF.put (some 23) vu0).put (some 24) vu1).put (some 25) vu2).put (some 26) vu3).put (some 27) vu4).put (some 28) vu5).put (some 29) vu6).put (some 30) vu7).put (some 31) vu8).put (some 32) vu9).put (some 33) vu10 ∧ Below wr.heap.size wr w' ∧ (lsd.getD 0 false = true → vu0 = .slice (some ⟨G,0,none⟩) k k) ∧ (lsd.getD 1 false = true → vu1 = .int .i64 (i : Int)) ∧ (lsd.getD 2 false = true → vu2 = .slice (some ⟨b9,off9,none⟩) n d) ∧ (lsd.getD 3 false = true → SumV w' vu3 n (ws t n) (n * C)) ∧ (lsd.getD 4 false = true → PtrV w' vu4 n (ws t n) (n * C)) ∧ (lsd.getD 5 false = true → RatAt w' vu5 (ws t n 0) (n * C)) ∧ (lsd.getD 6 false = true → vu6 = .slice (some ⟨b9,off9,none⟩) n d) ∧ (lsd.getD 7 false = true → vu7 = .pointer (some ⟨b9,off9,none⟩)) ∧ (lsd.getD 8 false = true → vu8 = .pointer (some ⟨b9,off9 + 11,none⟩)) ∧ (lsd.getD 9 false = true → vu9 = .agg #[.bool p3,.slice a3 n3 c3,.slice b3 m3 d3]) ∧ (lsd.getD 10 false = true → RepQ w' vu10 (ws t n 0 / (t 0).cov))) (by kernel_rfl) (by decide) (by kernel_rfl) (by rfl) (by kernel_rfl) ?_ ?_ ?_
   ·exact ⟨_,_,_,_,_,_,_,_,_,_,_,by simp only [Act.put,xL4,xL5,xL6]; rfl,(Below.refl _ _).drew,fun h => absurd h (fun h => mark_none h),fun h => absurd h (fun h => mark_none h),fun h => absurd h (fun h => mark_none h),fun h => absurd h (fun h => mark_none h),fun h => absurd h (fun h => mark_none h),fun h => absurd h (fun h => mark_none h),fun h => absurd h (fun h => mark_none h),fun h => absurd h (fun h => mark_none h),fun h => absurd h (fun h => mark_none h),fun h => absurd h (fun h => mark_none h),fun h => absurd h (fun h => mark_none h)⟩
   ·rintro lsd au wn iu hszu ⟨vu0,vu1,vu2,vu3,vu4,vu5,vu6,vu7,vu8,vu9,vu10,rfl,hbu,fu0,fu1,fu2,fu3,fu4,fu5,fu6,fu7,fu8,fu9,fu10⟩ himu hru
    rcases (show iu = 0 ∨ iu = 1 ∨ iu = 2 ∨ iu = 3 ∨ iu = 4 ∨ iu = 5 ∨ iu = 6 ∨ iu = 7 ∨ iu = 8 ∨ iu = 9 ∨ iu = 10 by omega) with rfl | rfl | rfl | rfl | rfl | rfl | rfl | rfl | rfl | rfl | rfl
    ·refine wpOp_shut (by rfl) (fun K hK => ?_)
     simp only [Act.put,xL4,xL5,xL6]
     go_simp
     exact hK.out _ _ ⟨(.slice (some ⟨G,0,none⟩) k k),vu1,vu2,vu3,vu4,vu5,vu6,vu7,vu8,vu9,vu10,by simp only [Act.put,xL4,xL5,xL6],hbu,fun _ => rfl,fun h => fu1 (mark_of (by decide) h),fun h => fu2 (mark_of (by decide) h),fun h => fu3 (mark_of (by decide) h),fun h => fu4 (mark_of (by decide) h),fun h => fu5 (mark_of (by decide) h),fun h => fu6 (mark_of (by decide) h),fun h => fu7 (mark_of (by decide) h),fun h => fu8 (mark_of (by decide) h),fun h => fu9 (mark_of (by decide) h),fun h => fu10 (mark_of (by decide) h)⟩
    ·refine wpOp_shut (by rfl) (fun K hK => ?_)
     simp only [Act.put,xL4,xL5,xL6]
     go_simp
     exact hK.out _ _ ⟨vu0,(.int .i64 (i : Int)),vu2,vu3,vu4,vu5,vu6,vu7,vu8,vu9,vu10,by simp only [Act.put,xL4,xL5,xL6],hbu,fun h => fu0 (mark_of (by decide) h),fun _ => rfl,fun h => fu2 (mark_of (by decide) h),fun h => fu3 (mark_of (by decide) h),fun h => fu4 (mark_of (by decide) h),fun h => fu5 (mark_of (by decide) h),fun h => fu6 (mark_of (by decide) h),fun h => fu7 (mark_of (by decide) h),fun h => fu8 (mark_of (by decide) h),fun h => fu9 (mark_of (by decide) h),fun h => fu10 (mark_of (by decide) h)⟩
    ·refine wpOp_shut (by rfl) (fun K hK => ?_)
     simp only [Act.put,xL4,xL5,xL6]
     go_simp
     exact hK.out _ _ ⟨vu0,vu1,(.slice (some ⟨b9,off9,none⟩) n d),vu3,vu4,vu5,vu6,vu7,vu8,vu9,vu10,by simp only [Act.put,xL4,xL5,xL6],hbu,fun h => fu0 (mark_of (by decide) h),fun h => fu1 (mark_of (by decide) h),fun _ => rfl,fun h => fu3 (mark_of (by decide) h),fun h => fu4 (mark_of (by decide) h),fun h => fu5 (mark_of (by decide) h),fun h => fu6 (mark_of (by decide) h),fun h => fu7 (mark_of (by decide) h),fun h => fu8 (mark_of (by decide) h),fun h => fu9 (mark_of (by decide) h),fun h => fu10 (mark_of (by decide) h)⟩
    ·have eu2 := fu2 (dep_of 2 hru rfl (by kernel_rfl))
     replace eu2 := eu2.symm
     subst eu2
     refine wpOp_shut (by rfl) (fun K hK => ?_)
     simp only [Act.put,xL4,xL5,xL6]
     have ht := ht.below hbu
     go_simp
     refine (sums_at F _ n t L C _ ((HTR.out.below BB).below hbu) HMT.out hF64 ht hL hC (by omega)).mono ?_
     rintro eu wx ⟨g5,rfl,hg5,G5,bu⟩
     have S3 : SumV wx _ n (ws t n) (n * C) := ⟨g5,rfl,G5⟩
     go_wp2_with fail
     have hbu2 := hbu.trans (bu.mono hbu.size)
     exact hK.out _ _ ⟨vu0,vu1,(.slice (some ⟨b9,off9,none⟩) n d),_,vu4,vu5,vu6,vu7,vu8,vu9,vu10,by simp only [Act.put,xL4,xL5,xL6],hbu2,fun h => fu0 (mark_of (by decide) h),fun h => fu1 (mark_of (by decide) h),fun _ => rfl,fun _ => S3,fun h => (fu4 (mark_of (by decide) h)).below bu,fun h => (fu5 (mark_of (by decide) h)).below bu,fun h => fu6 (mark_of (by decide) h),fun h => fu7 (mark_of (by decide) h),fun h => fu8 (mark_of (by decide) h),fun h => fu9 (mark_of (by decide) h),fun h => (fu10 (mark_of (by decide) h)).below bu⟩
    ·have S3 := fu3 (dep_of 3 hru rfl (by kernel_rfl))
     obtain ⟨g5,rfl,G5⟩ := S3
     refine wpOp_shut (by rfl) (fun K hK => ?_)
     simp only [Act.put,xL4,xL5,xL6]
     go_simp
     exact hK.out _ _ ⟨vu0,vu1,vu2,(.slice (some ⟨g5,0,none⟩) n n),(.pointer (some ⟨g5,0,none⟩)),vu5,vu6,vu7,vu8,vu9,vu10,by simp only [Act.put,xL4,xL5,xL6],hbu,fun h => fu0 (mark_of (by decide) h),fun h => fu1 (mark_of (by decide) h),fun h => fu2 (mark_of (by decide) h),fun h => fu3 (mark_of (by decide) h),fun _ => ⟨g5,rfl,G5⟩,fun h => fu5 (mark_of (by decide) h),fun h => fu6 (mark_of (by decide) h),fun h => fu7 (mark_of (by decide) h),fun h => fu8 (mark_of (by decide) h),fun h => fu9 (mark_of (by decide) h),fun h => fu10 (mark_of (by decide) h)⟩
    ·have P4 := fu4 (dep_of 4 hru rfl (by kernel_rfl))
     obtain ⟨g5,rfl,G5⟩ := P4
     obtain ⟨p5,a5,n5,c5,b5,m5,d5,e50,e51,e52,R5⟩ := G5.at hn0
     simp only [Nat.zero_mul,Nat.zero_add] at e50 e51 e52
     refine wpOp_shut (by rfl) (fun K hK => ?_)
     simp only [Act.put,xL4,xL5,xL6]
     go_simp
     exact hK.out _ _ ⟨vu0,vu1,vu2,vu3,(.pointer (some ⟨g5,0,none⟩)),(.agg #[.bool p5,.slice a5 n5 c5,.slice b5 m5 d5]),vu6,vu7,vu8,vu9,vu10,by simp only [Act.put,xL4,xL5,xL6],hbu,fun h => fu0 (mark_of (by decide) h),fun h => fu1 (mark_of (by decide) h),fun h => fu2 (mark_of (by decide) h),fun h => fu3 (mark_of (by decide) h),fun h => fu4 (mark_of (by decide) h),fun _ => R5,fun h => fu6 (mark_of (by decide) h),fun h => fu7 (mark_of (by decide) h),fun h => fu8 (mark_of (by decide) h),fun h => fu9 (mark_of (by decide) h),fun h => fu10 (mark_of (by decide) h)⟩
    ·refine wpOp_shut (by rfl) (fun K hK => ?_)
     simp only [Act.put,xL4,xL5,xL6]
     go_simp
     exact hK.out _ _ ⟨vu0,vu1,vu2,vu3,vu4,vu5,(.slice (some ⟨b9,off9,none⟩) n d),vu7,vu8,vu9,vu10,by simp only [Act.put,xL4,xL5,xL6],hbu,fun h => fu0 (mark_of (by decide) h),fun h => fu1 (mark_of (by decide) h),fun h => fu2 (mark_of (by decide) h),fun h => fu3 (mark_of (by decide) h),fun h => fu4 (mark_of (by decide) h),fun h => fu5 (mark_of (by decide) h),fun _ => rfl,fun h => fu7 (mark_of (by decide) h),fun h => fu8 (mark_of (by decide) h),fun h => fu9 (mark_of (by decide) h),fun h => fu10 (mark_of (by decide) h)⟩
    ·have eu6 := fu6 (dep_of 6 hru rfl (by kernel_rfl))
     replace eu6 := eu6.symm
     subst eu6
     refine wpOp_shut (by rfl) (fun K hK => ?_)
     simp only [Act.put,xL4,xL5,xL6]
     go_simp
     exact hK.out _ _ ⟨vu0,vu1,vu2,vu3,vu4,vu5,(.slice (some ⟨b9,off9,none⟩) n d),(.pointer (some ⟨b9,off9,none⟩)),vu8,vu9,vu10,by simp only [Act.put,xL4,xL5,xL6],hbu,fun h => fu0 (mark_of (by decide) h),fun h => fu1 (mark_of (by decide) h),fun h => fu2 (mark_of (by decide) h),fun h => fu3 (mark_of (by decide) h),fun h => fu4 (mark_of (by decide) h),fun h => fu5 (mark_of (by decide) h),fun _ => rfl,fun _ => rfl,fun h => fu8 (mark_of (by decide) h),fun h => fu9 (mark_of (by decide) h),fun h => fu10 (mark_of (by decide) h)⟩
    ·have eu7 := fu7 (dep_of 7 hru rfl (by kernel_rfl))
     replace eu7 := eu7.symm
     subst eu7
     refine wpOp_shut (by rfl) (fun K hK => ?_)
     simp only [Act.put,xL4,xL5,xL6]
     go_simp
     exact hK.out _ _ ⟨vu0,vu1,vu2,vu3,vu4,vu5,vu6,(.pointer (some ⟨b9,off9,none⟩)),(.pointer (some ⟨b9,off9 + 11,none⟩)),vu9,vu10,by simp only [Act.put,xL4,xL5,xL6],hbu,fun h => fu0 (mark_of (by decide) h),fun h => fu1 (mark_of (by decide) h),fun h => fu2 (mark_of (by decide) h),fun h => fu3 (mark_of (by decide) h),fun h => fu4 (mark_of (by decide) h),fun h => fu5 (mark_of (by decide) h),fun h => fu6 (mark_of (by decide) h),fun _ => rfl,fun _ => rfl,fun h => fu9 (mark_of (by decide) h),fun h => fu10 (mark_of (by decide) h)⟩
    ·have eu8 := fu8 (dep_of 8 hru rfl (by kernel_rfl))
     replace eu8 := eu8.symm
     subst eu8
     refine wpOp_shut (by rfl) (fun K hK => ?_)
     simp only [Act.put,xL4,xL5,xL6]
     obtain ⟨X0_0,X0_1,X0_2⟩ := X0.below hbu
     go_simp
     exact hK.out _ _ ⟨vu0,vu1,vu2,vu3,vu4,vu5,vu6,vu7,(.pointer (some ⟨b9,off9 + 11,none⟩)),(.agg #[.bool p3,.slice a3 n3 c3,.slice b3 m3 d3]),vu10,by simp only [Act.put,xL4,xL5,xL6],hbu,fun h => fu0 (mark_of (by decide) h),fun h => fu1 (mark_of (by decide) h),fun h => fu2 (mark_of (by decide) h),fun h => fu3 (mark_of (by decide) h),fun h => fu4 (mark_of (by decide) h),fun h => fu5 (mark_of (by decide) h),fun h => fu6 (mark_of (by decide) h),fun h => fu7 (mark_of (by decide) h),fun _ => rfl,fun _ => rfl,fun h => fu10 (mark_of (by decide) h)⟩
    ·have eu9 := fu9 (dep_of 9 hru rfl (by kernel_rfl))
     replace eu9 := eu9.symm
     subst eu9
     have S3 := fu3 (dep_of 3 hru rfl (by kernel_rfl))
     have R5 := fu5 (dep_of 5 hru rfl (by kernel_rfl))
     refine wpOp_shut (by rfl) (fun K hK => ?_)
     simp only [Act.put,xL4,xL5,xL6]
     have ht := ht.below hbu
     have rc := rc.below hbu
     go_simp
     refine (share_at _ _ (ws t n 0) (t 0).cov (n * C) _ R5 (rc.le hLC) hNC (by omega) ht hcn).mono ?_
     rintro eu wx ⟨x6,rfl,hx,bu⟩
     go_wp2_with fail
     have hbu2 := hbu.trans (bu.mono hbu.size)
     exact hK.out _ _ ⟨vu0,vu1,vu2,vu3,vu4,vu5,vu6,vu7,vu8,(.agg #[.bool p3,.slice a3 n3 c3,.slice b3 m3 d3]),_,by simp only [Act.put,xL4,xL5,xL6],hbu2,fun h => fu0 (mark_of (by decide) h),fun h => fu1 (mark_of (by decide) h),fun h => fu2 (mark_of (by decide) h),fun h => (fu3 (mark_of (by decide) h)).below bu,fun h => (fu4 (mark_of (by decide) h)).below bu,fun h => (fu5 (mark_of (by decide) h)).below bu,fun h => fu6 (mark_of (by decide) h),fun h => fu7 (mark_of (by decide) h),fun h => fu8 (mark_of (by decide) h),fun _ => rfl,fun _ => hx⟩
   rintro au Wu51 ⟨vu0,vu1,vu2,vu3,vu4,vu5,vu6,vu7,vu8,vu9,vu10,rfl,hbu,fu0,fu1,fu2,fu3,fu4,fu5,fu6,fu7,fu8,fu9,fu10⟩
   have eu0 := (fu0 rfl).symm
   subst eu0
   have eu1 := (fu1 rfl).symm
   subst eu1
   have eu2 := (fu2 rfl).symm
   subst eu2
   have S3 := fu3 rfl
   have P4 := fu4 rfl
   have R5 := fu5 rfl
   have eu6 := (fu6 rfl).symm
   subst eu6
   have eu7 := (fu7 rfl).symm
   subst eu7
   have eu8 := (fu8 rfl).symm
   subst eu8
   have eu9 := (fu9 rfl).symm
   subst eu9
   have hx := fu10 rfl
   clear fu0 fu1 fu2 fu3 fu4 fu5 fu6 fu7 fu8 fu9 fu10
   have hlX0 : b9 < wr.heap.size := X0.lt
   replace VA := VA.below hbu
   replace VR := VR.below hbu
   replace ht := ht.below hbu
   replace rc := rc.below hbu
   replace X0 := X0.below hbu
   replace BB := BB.trans (hbu.mono BB.size)
   clear hbu
   rw [← HMV.out] at hx
   obtain ⟨p6,a6,n6,c6,b6,m6,d6,rfl⟩ := hx.open
   simp only [Act.put,xL4,xL5,xL6]
   refine xR [11] (h := ?_)
   refine AllReadyH.cons (by rfl) (fun K hK => ?_) AllReadyH.nil
   go_simp
   refine hK.out _ _ trivial (fun _ => ?_)
   clear hK K
   simp only [Act.put,xL4,xL5,xL6]
   refine xR [12] (h := ?_)
   refine AllReadyH.cons (by rfl) (fun K hK => ?_) AllReadyH.nil
   obtain ⟨u0,u1,u2,x0,x1,x2,y0,y1,y2,VA2⟩ := VA.put hlt hx
   have BB2 : Below w.heap.size w (((Wu51.setCell ⟨G,i * 3,none⟩ (.bool p6)).setCell ⟨G,i * 3 + 1,none⟩ (.slice a6 n6 c6)).setCell ⟨G,i * 3 + 2,none⟩ (.slice b6 m6 d6)) := ((BB.setCell hGB _).setCell hGB _).setCell hGB _
   go_simp
   clear x0 x1 x2 y0 y1 y2
   refine hK.out _ _ trivial (fun _ => ?_)
   clear hK K
   simp only [Act.put,xL4,xL5,xL6]
   refine wpAnyH_done (by kernel_rfl) ?_ _
   have VR2 : V3 (((Wu51.setCell ⟨G,i * 3,none⟩ (.bool p6)).setCell ⟨G,i * 3 + 1,none⟩ (.slice a6 n6 c6)).setCell ⟨G,i * 3 + 2,none⟩ (.slice b6 m6 d6)) (w.heap.size + 1) (.bool false) (.slice none 0 0) (.slice none 0 0) := VR.block11 (put3_block _ _ _ _ _ _ _ hGR)
   go_wp2
   go_roundw
   case rel => exact ⟨i + 1,by omega,by go_num,VA2,VR2,BB2⟩
   case measure => simp [intOf]; omega
  ·obtain rfl : i = k := by omega
   have g1 : ¬ (i : Int) < (i : Int) := by omega
   have HSQ : ∀ j,j < i → qsz (mean0 T N j) ≤ 10000 + L := fun j hj => by
    obtain ⟨b,off,cc,a,d,hvv,hcc,XC0,TR0⟩ := HM0.out.at hj
    have hm := HMY.out j hj
    have h1 : qsz (ws (T j) (N j) 0) ≤ 10000 := ws_sz hm (fun i hi => TR0.sz11 hL hi) hC (Nat.le_trans (Nat.mul_le_mul_right C hm.few) hCn) hm.pos
    exact qsz_div _ _ h1 (TR0.sz11 hL hm.pos).2
   have hv := VA.full (L := 10000 + L) (by omega) HSQ
   have ht := HT0.out.below BB
   go_wp2_with fail
   have hMM : i * (10000 + L + 1) + 1 ≤ 100000 := by
    have := Nat.mul_le_mul_right (10000 + L + 1) hk
    omega
   refine (qsum_any (10000 + L) 100000 (by omega) (by omega) (by omega) i _ _ _ hv ht hMM).mono ?_
   rintro e w7 ⟨x7,rfl,h7,b7⟩
   replace VR := VR.below b7
   replace BB := BB.trans (b7.mono BB.size)
   obtain ⟨p7,a7,n7,c7,y7,m7,d7,rfl⟩ := h7.open
   have hKp := VR.keepJ (.bool p7) (.slice a7 n7 c7) (.slice y7 m7 d7)
   have h7n := h7.keep hKp
   have BBn := below_store3 (R := w.heap.size + 1) BB (by omega) (.bool p7) (.slice a7 n7 c7) (.slice y7 m7 d7)
   obtain ⟨z1,z2,z3,z4,z5,z6⟩ := id VR
   clear hv VA h7 hKp HSQ
   go_wp2
   (try simp only [Exit.inBlock,Exit.then])
   refine bodyPost_ret (v := .tuple #[.agg #[.bool p7,.slice a7 n7 c7,.slice y7 m7 d7],.int .i64 0]) (by simp [results,go_sem,z1,z2,z3]) rfl ?_
   exact ⟨_,rfl,h7n,BBn⟩

def ex11 (i : Nat) : Nd := if i = 0 then ⟨false,0,0,1,2,false,0,((4 : Int) : Rat)⟩ else if i = 1 then ⟨true,0,0,0,0,false,0,1⟩ else ⟨true,0,0,0,0,false,1,((3 : Int) : Rat)⟩
theorem ex11_may : mayB 1 1 (fun _ => 3) (fun _ => ex11) = true := by
 unfold mayB
 refine @decide_eq_true _ (Classical.propDecidable _) (.inr ⟨by decide +kernel,none,.inl ⟨rfl,fun r hr i hi => ?_⟩,rfl⟩)
 obtain rfl : i = 0 := by omega
 rcases (by omega : r = 0 ∨ r = 1 ∨ r = 2 ∨ r = 3) with rfl | rfl | rfl | rfl <;> decide +kernel
theorem ex11_sum : sumq (mean0 (fun _ => ex11) (fun _ => 3)) 1 = ((3 : Int) : Rat) / ((4 : Int) : Rat) := by decide +kernel
theorem ex11_sz : qsz (((3 : Int) : Rat) / ((4 : Int) : Rat)) ≤ 2 := by decide +kernel
theorem zero_atn11 (w : World) : AtN w (.bool false) (.slice none 0 0) (.slice none 0 0) 0 4 := by
 have h := RatAt.raw (p := false) (K := 4) (Nums.nil .u64 w (fun _ => 0)) (fun i hi => by omega) (Nums.nil .u64 w (fun _ => 0)) (fun i hi => by omega) (by omega) (by omega)
 exact ⟨false,none,0,0,none,0,0,rfl,rfl,rfl,h⟩
theorem ex11_lay (w : World) {p1 : Bool} {a1 y1 : Option Addr} {n1 c1 m1 d1 : Nat} {p2 : Bool} {a2 y2 : Option Addr} {n2 c2 m2 d2 : Nat} {p3 : Bool} {a3 y3 : Option Addr} {n3 c3 m3 d3 : Nat} {p4 : Bool} {a4 y4 : Option Addr} {n4 c4 m4 d4 : Nat} (h1 : RepQ w (.agg #[.bool p1,.slice a1 n1 c1,.slice y1 m1 d1]) ((4 : Int) : Rat)) (h2 : RepQ w (.agg #[.bool p2,.slice a2 n2 c2,.slice y2 m2 d2]) 1) (h3 : RepQ w (.agg #[.bool p3,.slice a3 n3 c3,.slice y3 m3 d3]) 1) (h4 : RepQ w (.agg #[.bool p4,.slice a4 n4 c4,.slice y4 m4 d4]) ((3 : Int) : Rat)) :
  ∃ W,W = (w.alloc (.cells #[.bool false,.int .i64 0,.bool false,.slice none 0 0,.slice none 0 0,.int .i64 1,.int .i64 2,.bool false,.bool false,.slice none 0 0,.slice none 0 0,.bool p1,.slice a1 n1 c1,.slice y1 m1 d1,.bool true,.int .i64 0,.bool false,.slice none 0 0,.slice none 0 0,.int .i64 0,.int .i64 0,.bool false,.bool false,.slice none 0 0,.slice none 0 0,.bool p2,.slice a2 n2 c2,.slice y2 m2 d2,.bool true,.int .i64 0,.bool false,.slice none 0 0,.slice none 0 0,.int .i64 0,.int .i64 0,.bool false,.bool p3,.slice a3 n3 c3,.slice y3 m3 d3,.bool p4,.slice a4 n4 c4,.slice y4 m4 d4] 57)).alloc (.cells #[.slice (some ⟨w.heap.size,0,none⟩) 3 3] 44) ∧ Below w.heap.size w W ∧ W.heap.size = w.heap.size + 2 ∧ MRow W (.slice (some ⟨w.heap.size + 1,0,none⟩) 1 1) 1 (fun _ => 3) (fun _ => ex11) 4 := by
 obtain ⟨W1,hW1⟩ : ∃ W1,W1 = w.alloc (.cells #[.bool false,.int .i64 0,.bool false,.slice none 0 0,.slice none 0 0,.int .i64 1,.int .i64 2,.bool false,.bool false,.slice none 0 0,.slice none 0 0,.bool p1,.slice a1 n1 c1,.slice y1 m1 d1,.bool true,.int .i64 0,.bool false,.slice none 0 0,.slice none 0 0,.int .i64 0,.int .i64 0,.bool false,.bool false,.slice none 0 0,.slice none 0 0,.bool p2,.slice a2 n2 c2,.slice y2 m2 d2,.bool true,.int .i64 0,.bool false,.slice none 0 0,.slice none 0 0,.int .i64 0,.int .i64 0,.bool false,.bool p3,.slice a3 n3 c3,.slice y3 m3 d3,.bool p4,.slice a4 n4 c4,.slice y4 m4 d4] 57) := ⟨_,rfl⟩
 have hb1 := heap_alloc_new w (.cells #[.bool false,.int .i64 0,.bool false,.slice none 0 0,.slice none 0 0,.int .i64 1,.int .i64 2,.bool false,.bool false,.slice none 0 0,.slice none 0 0,.bool p1,.slice a1 n1 c1,.slice y1 m1 d1,.bool true,.int .i64 0,.bool false,.slice none 0 0,.slice none 0 0,.int .i64 0,.int .i64 0,.bool false,.bool false,.slice none 0 0,.slice none 0 0,.bool p2,.slice a2 n2 c2,.slice y2 m2 d2,.bool true,.int .i64 0,.bool false,.slice none 0 0,.slice none 0 0,.int .i64 0,.int .i64 0,.bool false,.bool p3,.slice a3 n3 c3,.slice y3 m3 d3,.bool p4,.slice a4 n4 c4,.slice y4 m4 d4] 57)
 rw [← hW1] at hb1
 have B1 : Below w.heap.size w W1 := by rw [hW1]; exact (Below.refl _ _).alloc (Nat.le_refl _) _
 have S1 : W1.heap.size = w.heap.size + 1 := by rw [hW1]; simp
 have B2 : Below W1.heap.size W1 (W1.alloc (.cells #[.slice (some ⟨w.heap.size,0,none⟩) 3 3] 44)) := (Below.refl _ _).alloc (Nat.le_refl _) _
 have q1 : RatAt W1 (.agg #[.bool p1,.slice a1 n1 c1,.slice y1 m1 d1]) ((4 : Int) : Rat) 4 := (h1.below B1).at 4 (by decide +kernel)
 have q2 : RatAt W1 (.agg #[.bool p2,.slice a2 n2 c2,.slice y2 m2 d2]) 1 4 := (h2.below B1).at 4 (by decide +kernel)
 have q3 : RatAt W1 (.agg #[.bool p3,.slice a3 n3 c3,.slice y3 m3 d3]) 1 4 := (h3.below B1).at 4 (by decide +kernel)
 have q4 : RatAt W1 (.agg #[.bool p4,.slice a4 n4 c4,.slice y4 m4 d4]) ((3 : Int) : Rat) 4 := (h4.below B1).at 4 (by decide +kernel)
 have z64 : I64 0 := by unfold I64; omega
 have o64 : I64 1 := by unfold I64; omega
 have t64 : I64 2 := by unfold I64; omega
 have TR : TRow W1 (.slice (some ⟨w.heap.size,0,none⟩) 3 3) 3 ex11 4 := by
  refine ⟨fun i j => if i = 0 then [.bool false,.int .i64 0,.bool false,.slice none 0 0,.slice none 0 0,.int .i64 1,.int .i64 2,.bool false,.bool false,.slice none 0 0,.slice none 0 0,.bool p1,.slice a1 n1 c1,.slice y1 m1 d1].getD j undef else if i = 1 then [.bool true,.int .i64 0,.bool false,.slice none 0 0,.slice none 0 0,.int .i64 0,.int .i64 0,.bool false,.bool false,.slice none 0 0,.slice none 0 0,.bool p2,.slice a2 n2 c2,.slice y2 m2 d2].getD j undef else [.bool true,.int .i64 0,.bool false,.slice none 0 0,.slice none 0 0,.int .i64 0,.int .i64 0,.bool false,.bool p3,.slice a3 n3 c3,.slice y3 m3 d3,.bool p4,.slice a4 n4 c4,.slice y4 m4 d4].getD j undef,⟨_,_,rfl,by omega,by omega,fun _ => ⟨_,_,rfl,fun i hi j hj => ?_⟩⟩,fun i hi => ?_⟩
  ·rw [cell_of_row _ _ _ _ _ _ hb1]
   rcases (by omega : i = 0 ∨ i = 1 ∨ i = 2) with rfl | rfl | rfl <;> rcases (by omega : j = 0 ∨ j = 1 ∨ j = 2 ∨ j = 3 ∨ j = 4 ∨ j = 5 ∨ j = 6 ∨ j = 7 ∨ j = 8 ∨ j = 9 ∨ j = 10 ∨ j = 11 ∨ j = 12 ∨ j = 13) with rfl | rfl | rfl | rfl | rfl | rfl | rfl | rfl | rfl | rfl | rfl | rfl | rfl | rfl <;> rfl
  ·rcases (by omega : i = 0 ∨ i = 1 ∨ i = 2) with rfl | rfl | rfl
   ·exact ⟨rfl,rfl,zero_atn11 _,rfl,rfl,rfl,zero_atn11 _,⟨p1,a1,n1,c1,y1,m1,d1,rfl,rfl,rfl,q1⟩,z64,o64,t64⟩
   ·exact ⟨rfl,rfl,zero_atn11 _,rfl,rfl,rfl,zero_atn11 _,⟨p2,a2,n2,c2,y2,m2,d2,rfl,rfl,rfl,q2⟩,z64,z64,z64⟩
   ·exact ⟨rfl,rfl,zero_atn11 _,rfl,rfl,rfl,⟨p3,a3,n3,c3,y3,m3,d3,rfl,rfl,rfl,q3⟩,⟨p4,a4,n4,c4,y4,m4,d4,rfl,rfl,rfl,q4⟩,z64,z64,z64⟩
 refine ⟨_,rfl,?_,?_,?_⟩
 ·rw [← hW1]; exact B1.trans (B2.mono B1.size)
 ·simp
 ·rw [← hW1,← S1]
  exact one_tree TR 44
set_option maxRecDepth 100000 in
set_option maxHeartbeats 8000000 in
theorem awake11_at (w : World) (ht : Tab w) :
  Calls Tryz.prog 15 #[] w fun e w' => e = .returned (.bool true) ∧ Below w.heap.size w w' := by
 have BB : Below w.heap.size w w := Below.refl _ _
 go_enter Tryz.func15,Tryz.ntmps15
 go_wp2_with fail
 refine (qof_at 4 _ (by omega) (by omega)).mono ?_
 rintro e w1 ⟨v1,rfl,h1,b1⟩
 replace ht := ht.below b1
 replace BB := BB.trans (b1.mono BB.size)
 clear b1
 obtain ⟨p1,a1,n1,c1,y1,m1,d1,rfl⟩ := h1.open
 go_wp2_with fail
 refine (qone_at _).mono ?_
 rintro e w2 ⟨v2,rfl,h2,b2⟩
 replace ht := ht.below b2
 replace h1 := h1.below b2
 replace BB := BB.trans (b2.mono BB.size)
 clear b2
 obtain ⟨p2,a2,n2,c2,y2,m2,d2,rfl⟩ := h2.open
 go_wp2_with fail
 refine (qone_at _).mono ?_
 rintro e w3 ⟨v3,rfl,h3,b3⟩
 replace ht := ht.below b3
 replace h1 := h1.below b3
 replace h2 := h2.below b3
 replace BB := BB.trans (b3.mono BB.size)
 clear b3
 obtain ⟨p3,a3,n3,c3,y3,m3,d3,rfl⟩ := h3.open
 go_wp2_with fail
 refine (qof_at 3 _ (by omega) (by omega)).mono ?_
 rintro e w4 ⟨v4,rfl,h4,b4⟩
 replace ht := ht.below b4
 replace h1 := h1.below b4
 replace h2 := h2.below b4
 replace h3 := h3.below b4
 replace BB := BB.trans (b4.mono BB.size)
 clear b4
 obtain ⟨p4,a4,n4,c4,y4,m4,d4,rfl⟩ := h4.open
 obtain ⟨Wb,hWb,hLb,hSb,MR⟩ := ex11_lay w4 h1 h2 h3 h4
 replace ht := ht.below hLb
 replace BB := BB.trans (hLb.mono BB.size)
 obtain ⟨Wc,hWc,hSc,hLc,VM⟩ := V2.lay Wb 24 (.int .i64 1) (.slice (some ⟨w4.heap.size + 1,0,none⟩) 1 1)
 replace ht := ht.below hLc
 replace MR := MR.below hLc
 replace BB := BB.trans (hLc.mono BB.size)
 obtain ⟨VM_0,VM_1,VM_2,VM_3⟩ := id VM
 rw [hWc,hWb] at VM_0 VM_1 VM_2 VM_3
 rw [hSb] at hSc
 go_wp2_with fail
 rw [← hWb,← hWc]
 clear VM_0 VM_1 VM_2 VM_3 hWb hWc hLb hLc VM h1 h2 h3 h4 hSb hSc
 refine (base_yes 1 _ 1 (fun _ => 3) (fun _ => ex11) 4 10 _ MR ht (by omega) (by omega) (by omega) ex11_may (by omega)).mono ?_
 rintro e w5 ⟨v5,rfl,h5,b5⟩
 replace ht := ht.below b5
 replace BB := BB.trans (b5.mono BB.size)
 clear b5
 rw [ex11_sum] at h5
 obtain ⟨p5,a5,n5,c5,y5,m5,d5,rfl⟩ := h5.open
 clear MR
 have hZ1 : w.heap.size ≤ w5.heap.size := BB.size
 obtain ⟨W1,hW1,hS1,hL1,VX⟩ := V3.lay w5 40 (.bool p5) (.slice a5 n5 c5) (.slice y5 m5 d5)
 replace ht := ht.below hL1
 replace h5 := h5.below hL1
 replace BB := BB.trans (hL1.mono BB.size)
 clear hL1
 obtain ⟨VX_0,VX_1,VX_2,VX_3,VX_4,VX_5⟩ := id VX
 rw [hW1] at VX_0 VX_1 VX_2 VX_3 VX_4 VX_5
 go_wp2_with fail
 clear VX_0 VX_1 VX_2 VX_3 VX_4 VX_5
 rw [← hW1]
 generalize w5.heap.size = R1 at *
 clear hW1 hS1
 have hDr : Below W1.heap.size W1 W1.drew := (Below.refl _ _).drew
 replace ht := ht.below hDr
 replace h5 := h5.below hDr
 replace VX := VX.below hDr
 replace BB := BB.trans (hDr.mono BB.size)
 clear hDr
 refine wp_region_held_drew (S := (fun w' => w'.cell? ⟨R1,0,none⟩ = some (.bool p5) ∧ w'.cell? ⟨R1,1,none⟩ = some (.slice a5 n5 c5) ∧ w'.cell? ⟨R1,2,none⟩ = some (.slice y5 m5 d5))) (by kernel_rfl) ?_ (fun hHeld => ?_)
 ·exact ⟨VX.1,VX.2.1,VX.2.2.1⟩
 generalize W1.drew = W2 at *
 refine xT 0 (v := ?_) (hy := Or.inl ⟨by rfl,?_⟩) (h := ?_)
 rotate_left
 ·(intro w hSw; (try dsimp only at hSw); go_simp; (try with_reducible rfl))
 (try simp only [Act.put,xL4,xL5,xL6])
 refine xT 1 (v := ?_) (hy := Or.inl ⟨by rfl,?_⟩) (h := ?_)
 rotate_left
 ·(intro w hSw; (try dsimp only at hSw); go_simp; (try with_reducible rfl))
 (try simp only [Act.put,xL4,xL5,xL6])
 refine xT 2 (v := ?_) (hy := Or.inl ⟨by rfl,?_⟩) (h := ?_)
 rotate_left
 ·(intro w hSw; (try dsimp only at hSw); go_simp; (try with_reducible rfl))
 (try simp only [Act.put,xL4,xL5,xL6])
 refine xT 3 (v := ?_) (hy := Or.inl ⟨by rfl,?_⟩) (h := ?_)
 rotate_left
 ·(intro w hSw; (try dsimp only at hSw); go_simp; (try with_reducible rfl))
 (try simp only [Act.put,xL4,xL5,xL6])
 refine xR [4] (h := ?_)
 refine xN (h := fun K hK => ?_)
 go_simp
 refine (qfrac_at 3 4 _ (by omega) (by omega) (by omega) (by omega) ht).mono ?_
 rintro e w6 ⟨v6,rfl,h6,b6⟩
 obtain ⟨p6,a6,n6,c6,y6,m6,d6,rfl⟩ := h6.open
 go_wp2_with fail
 replace ht := ht.below b6
 replace h5 := h5.below b6
 replace VX := VX.below b6
 replace BB := BB.trans (b6.mono BB.size)
 clear b6
 refine hK.out _ _ ?_ (fun hH1 => ?_)
 ·exact ⟨VX.1,VX.2.1,VX.2.2.1⟩
 clear hK K hHeld
 (try simp only [Act.put,xL4,xL5,xL6])
 refine xR [5] (h := ?_)
 refine xN (h := fun K hK => ?_)
 go_simp
 refine (qsame_at _ _ _ _ 2 _ (h5.at 2 ex11_sz) (h6.at 2 ex11_sz) (by omega) (by omega)).mono ?_
 rintro e w7 ⟨rfl,b7⟩
 rw [decide_eq_true rfl]
 go_wp2_with fail
 replace ht := ht.below b7
 replace h5 := h5.below b7
 replace h6 := h6.below b7
 replace VX := VX.below b7
 replace BB := BB.trans (b7.mono BB.size)
 clear b7
 refine hK.out _ _ ?_ (fun hH2 => ?_)
 ·exact ⟨VX.1,VX.2.1,VX.2.2.1⟩
 clear hK K hH1
 (try simp only [Act.put,xL4,xL5,xL6])
 refine xT 6 (v := ?_) (hy := Or.inl ⟨by rfl,?_⟩) (h := ?_)
 rotate_left
 ·(intro w hSw; (try dsimp only at hSw); go_simp; (try with_reducible rfl))
 (try simp only [Act.put,xL4,xL5,xL6])
 refine xT 7 (v := ?_) (hy := Or.inl ⟨by rfl,?_⟩) (h := ?_)
 rotate_left
 ·(intro w hSw; (try dsimp only at hSw); go_simp; (try with_reducible rfl))
 (try simp only [Act.put,xL4,xL5,xL6])
 refine wpAnyH_done (by kernel_rfl) ?_ _
 clear hH2
 go_wp2
 go_ret
 exact ⟨rfl,BB⟩
end Go.Proofs.YtgddiimnpliolaaGreatDoor
