/-
  Texts of mine, joined: what lies beneath the statement.
-/
import Derived.Test.YtcackghehjbeeaaGreatDoorJ28ba950bd3
import Derived.Test.YtcackghehjbeeaaGreatDoorJd637b456e8
import Derived.Test.YtcackghehjbeeaaGreatDoorJ1e89b81661
import Derived.Test.YtcackghehjbeeaaGreatDoorJ952dd77c35
import Derived.Test.YtcackghehjbeeaaGreatDoorJc30b9867e9
namespace Go.Proofs.YtcackghehjbeeaaGreatDoor
open Go.RowKit Go.Shelf
set_option linter.unusedVariables false
set_option linter.unusedSimpArgs false
attribute [local go_sem] Oper.semAt_some

theorem nthB_mem (zs : List Nat) {k : Nat} (h : k < zs.length) : nthB zs zs.length k ∈ zs := by
 unfold nthB
 rw [List.getD_eq_getElem?_getD, List.getElem?_eq_getElem (by omega)]
 exact List.getElem_mem _
theorem TRow.sz11 {w : World} {v : Value} {n : Nat} {t : Nat → Nd} {L : Nat} (h : TRow w v n t L) (hL : 1 ≤ L) {i : Nat} (hi : i < n) : qsz (t i).val ≤ L ∧ qsz (t i).cov ≤ L := by
 obtain ⟨b, off, c, p1, a1, n1, c1, b1, m1, d1, p2, a2, n2, c2, b2, m2, d2, p3, a3, n3, c3, b3, m3, d3, e, hc, hm, hN, r1, r2, r3, i1, i2, i3⟩ := h.at hi
 exact ⟨r2.qsz hL, r3.qsz hL⟩
theorem RInv.run {t : Nat → Nd} {n : Nat} : ∀ d (out wait : List Nat), n - out.length ≤ d → RInv t n out wait → ∃ out', RInv t n out' [] := by
 intro d
 induction d with
 | zero =>
  intro out wait hd h
  rcases List.eq_nil_or_concat wait with rfl | ⟨ws, i, rfl⟩
  ·exact ⟨out, h⟩
  ·have := h.len
   simp at this
   omega
 | succ d ih =>
  intro out wait hd h
  rcases List.eq_nil_or_concat wait with rfl | ⟨ws, i, rfl⟩
  ·exact ⟨out, h⟩
  ·rw [List.concat_eq_append] at h
   have hl := h.len
   simp at hl
   obtain ⟨F, hm⟩ := h.m
   have hi : i < n := h.d.small i (by simp)
   cases e : (t i).leaf with
   | true => exact ih _ _ (by simp; omega) (h.leaf e)
   | false =>
    obtain ⟨e1, e2, a1, a2, a3, a4, _, _⟩ := hm.kids hi e
    exact ih _ _ (by simp; omega) (h.split hm.once e e1 e2 a1 a2 a3 a4)
theorem MayT.pre_count {F : Int} {t : Nat → Nd} {n : Nat} (h : MayT F t n) : (pre t n 0).length = n := by
 obtain ⟨out, ho⟩ := RInv.run n [] [0] (by simp) (RInv.start (t := t) h.pos ⟨F, h⟩)
 rw [← ho.all]
 exact ho.count
theorem MayT.pre_few {F : Int} {t : Nat → Nd} {n : Nat} (h : MayT F t n) {x : Nat} (hx : x < n) : (pre t n x).length ≤ n := by
 have h0 : 0 < n := h.pos
 have h1 := ((h.pre_sub h0) x (h.pre_all x hx)).2.1
 have h2 := h.pre_count
 omega
theorem MayT.bnd_le {F : Int} {t : Nat → Nd} {n : Nat} (h : MayT F t n) (C : Nat) {x : Nat} (hx : x < n) : bnd t n C x ≤ n * C := Nat.mul_le_mul_right C (h.pre_few hx)
theorem sum_sz {F : Int} {t : Nat → Nd} {n L C : Nat} (hm : MayT F t n) (hz : ∀ i, i < n → qsz (t i).val ≤ L ∧ qsz (t i).cov ≤ L) (hC : 2 * L + 2 ≤ C) (q : Nat → Rat) (i : Nat) (hi : i < n) (hq : ∀ j, j < n → qsz (q j) ≤ bnd t n C j) : qsz (fSum t q i) ≤ bnd t n C i := by
 unfold fSum
 cases hl : (t i).leaf with
 | true =>
  rw [if_pos rfl]
  have h1 := qsz_mul _ _ (hz i hi).1 (hz i hi).2
  have h2 := bnd_pos (t := t) (n := n) (C := C) (by omega) i
  omega
 | false =>
  rw [if_neg (by simp)]
  obtain ⟨_, _, _, a2, _, a4, _, _⟩ := hm.kids hi hl
  have h1 := qsz_add _ _ (hq _ a2) (hq _ a4)
  have h2 := hm.bnd_split C hi hl
  omega


set_option maxRecDepth 100000 in
set_option maxHeartbeats 2000000 in
theorem share_at (u v : Value) (q r : Rat) (L : Nat) (w : World) (hu : RatAt w u q L) (hv : RatAt w v r L) (hL : 1 ≤ L) (hM : L ≤ 100000) (ht : Tab w) (h0 : r ≠ 0) :
  Calls Tryz.prog 41 #[u, v] w fun e w' => ∃ x, e = .returned x ∧ RepQ w' x (q / r) ∧ Below w.heap.size w w' := by
 obtain ⟨p, ao, n, c, bo, m, d, rfl⟩ := hu.open
 obtain ⟨p2, ao2, n2, c2, bo2, m2, d2, rfl⟩ := hv.open
 have BB : Below w.heap.size w w := Below.refl _ _
 obtain ⟨Wb0, hW0, hS0, hL0, VA⟩ := V3.lay w 34 (.bool p) (.slice ao n c) (.slice bo m d)
 replace hu := hu.below hL0
 replace hv := hv.below hL0
 replace ht := ht.below hL0
 replace BB := BB.trans (hL0.mono BB.size)
 clear hL0
 obtain ⟨Wb1, hW1, hS1, hL1, VB⟩ := V3.lay Wb0 34 (.bool p2) (.slice ao2 n2 c2) (.slice bo2 m2 d2)
 rw [hS0] at VB hS1
 replace hu := hu.below hL1
 replace hv := hv.below hL1
 replace ht := ht.below hL1
 replace VA := VA.below hL1
 replace BB := BB.trans (hL1.mono BB.size)
 clear hL1
 obtain ⟨Wb2, hW2, hS2, hL2, VR⟩ := V3.lay Wb1 34 (.bool false) (.slice none 0 0) (.slice none 0 0)
 rw [hS1] at VR hS2
 replace hu := hu.below hL2
 replace hv := hv.below hL2
 replace ht := ht.below hL2
 replace VA := VA.below hL2
 replace VB := VB.below hL2
 replace BB := BB.trans (hL2.mono BB.size)
 clear hL2
 go_enter Tryz.func41, Tryz.ntmps41
 go_wp2_with fail
 rw [← hW0]
 rw [← hW1]
 rw [← hW2]
 clear hW0 hW1 hW2 hS0 hS1 hS2
 refine (qdiv_at _ _ q r L _ hu hv hL hM ht h0).mono ?_
 rintro e w1 ⟨x3, rfl, hx, b1⟩
 replace hu := hu.below b1
 replace hv := hv.below b1
 replace ht := ht.below b1
 replace VA := VA.below b1
 replace VB := VB.below b1
 replace VR := VR.below b1
 replace BB := BB.trans (b1.mono BB.size)
 clear b1
 obtain ⟨p3, a3, n3, c3, b3, m3, d3, rfl⟩ := hx.open
 clear hu hv ht
 have hne : w.heap.size + 1 + 1 ≠ w1.heap.size := Nat.ne_of_lt VR.lt
 obtain ⟨W5, hW5, hS5, hL5, VO⟩ := V3.lay w1 34 (.bool p3) (.slice a3 n3 c3) (.slice b3 m3 d3)
 replace hx := hx.below hL5
 replace VR := VR.below hL5
 replace BB := BB.trans (hL5.mono BB.size)
 have hKp := VR.keepJ (.bool p3) (.slice a3 n3 c3) (.slice b3 m3 d3)
 have hx_n := hx.keep hKp
 have BB_n := below_store3 (R := w.heap.size + 1 + 1) BB (by omega) (.bool p3) (.slice a3 n3 c3) (.slice b3 m3 d3)
 obtain ⟨o1, o2, o3, o4, o5, o6⟩ := id VO
 obtain ⟨q1, q2, q3, q4, q5, q6⟩ := id VR
 rw [hW5] at o1 o2 o3 o4 o5 o6 q1 q2 q3 q4 q5 q6 hx_n BB_n
 clear hx VR BB hKp VO hL5 VA VB
 go_wp2
 (try simp only [Exit.inBlock, Exit.then])
 refine bodyPost_ret (v := .agg #[.bool p3, .slice a3 n3 c3, .slice b3 m3 d3]) (by simp [results, go_sem, q1, q2, q3]) rfl ?_
 exact ⟨_, rfl, hx_n, BB_n⟩


set_option maxRecDepth 100000 in
set_option maxHeartbeats 1000000 in
theorem downwards_at (F : Int) (v : Value) (n : Nat) (t : Nat → Nd) (r : Nat → Cl) (L : Nat) (w : World) (hT : TRow w v n t L) (hm : MayT F t n) (hF : F ≤ 64) :
  Calls Tryz.prog 81 #[v] w fun e w' => ∃ u outs, e = .returned u ∧ IntOwn w.heap.size w' u outs ∧ QInv t n r 0 outs outs.length ∧ Below w.heap.size w w' := by
 obtain ⟨at_, ct, rfl, htc, ht63⟩ := hT.open
 go_enter Tryz.func81, Tryz.ntmps81
 go_wp2_with fail
 refine (counted_at F _ _ _ n t r 0 L _ hT (OnW.none _ _ _ _ _ ⟨_, _, _, rfl⟩) ⟨_, _, _, rfl⟩ hm hF (by omega)).mono ?_
 rintro e w1 ⟨u, outs, rfl, hO, hQ, b1⟩
 go_wp2
 go_ret
 exact ⟨_, outs, rfl, hO, hQ, b1⟩


set_option maxRecDepth 100000 in
set_option maxHeartbeats 8000000 in
theorem sums_at (F : Int) (v : Value) (n : Nat) (t : Nat → Nd) (L C : Nat) (w : World) (hT : TRow w v n t L) (hm : MayT F t n) (hF : F ≤ 64) (ht : Tab w) (hL : 1 ≤ L) (hC : 2 * L + 2 ≤ C) (hCn : n * C ≤ 30000) :
  Calls Tryz.prog 42 #[v] w fun e w' => ∃ g, e = .returned (.slice (some ⟨g, 0, none⟩) n n) ∧ w.heap.size ≤ g ∧ GArr w' g n (ws t n) (n * C) ∧ Below w.heap.size w w' := by
 refine (callsIn_wide (n := 9)).1 ?_
 obtain ⟨at_, ct, rfl, htc, ht63⟩ := hT.open
 obtain ⟨i0, hi, hz0, hz1, hz2⟩ := info_parts info_wrat
 have BB : Below w.heap.size w w := Below.refl _ _
 have HT0 : Hid (TRow w (.slice at_ n ct) n t L) := hT
 have HTB : Hid (Tab w) := ht
 have HM : Hid (MayT F t n) := hm
 have hn0 : 0 < n := hm.pos
 have hn255 := hm.few
 have HZ : Hid (∀ i, i < n → qsz (t i).val ≤ L ∧ qsz (t i).cov ≤ L) := fun i hi => hT.sz11 hL hi
 obtain ⟨W1, hW1, hS1, hL1, VT⟩ := V1.lay w 47 (.slice at_ n ct)
 replace BB := BB.trans (hL1.mono BB.size)
 clear hL1 hT hm ht
 refine callsIn_of_wp_marks Tryz.func42 rfl trivial ?_
 simp only [Tryz.ntmps42, List.size_toArray, List.length_cons, List.length_nil, Nat.reduceAdd, Nat.reduceSub, Array.replicate_succ, Array.replicate_zero, List.push_toArray, List.append_toArray, List.nil_append, List.cons_append]
 obtain ⟨VT1, VT2⟩ := id VT
 rw [hW1] at VT1 VT2
 gi_wp2_with (gi_at_make; rw [← hW1]; refine wpListIn_make_full _ rfl _ _ 49 rfl _ 34 i0 (.agg #[.bool false, .slice none 0 0, .slice none 0 0]) 3 Tryz.underlying49 hi hz0 hz1 _ _ _ _ n rfl rfl (by omega) (by omega) (by rw [hz2]; omega) (by unfold maxLen; omega) (Nat.le_refl _) ?_; intro w2 hown hgrow; have hb1 := below_grown hgrow; have GA := GArr.made hown (n * C); have VT5 := VT.below hb1; obtain ⟨W3, hW3, hS3, hL3, VO⟩ := V1.lay w2 49 (.slice (some ⟨w.heap.size + 1, 0, none⟩) n n); have VT6 := VT5.below hL3; obtain ⟨VT7, VT8⟩ := id VT6; rw [hW3] at VT7 VT8; clear hown hgrow VT1 VT2 hW1)
 replace BB := BB.trans (hb1.mono BB.size)
 have hg2 : W1.heap.size < w2.heap.size := GA.lt hn0
 clear hb1 hi hz0 hz1 hz2 VT VT5 VT7 VT8
 have VT := VT6
 rw [← hW3]
 replace GA := GA.below hL3
 replace BB := BB.trans (hL3.mono BB.size)
 have hgl := GA.lt hn0
 clear hL3 hW3 VT6
 have hlT := VT.lt
 have hlO := VO.lt
 rw [hS1] at GA hgl hg2
 obtain ⟨g, hg⟩ : ∃ B, B = w.heap.size + 1 := ⟨_, rfl⟩
 rw [← hg] at GA VO ⊢
 obtain ⟨Bt, hBt⟩ : ∃ B, B = w.heap.size := ⟨_, rfl⟩
 rw [← hBt] at VT ⊢
 obtain ⟨Bo, hBo⟩ : ∃ B, B = w2.heap.size := ⟨_, rfl⟩
 rw [← hBo] at VO hg2 ⊢
 rw [← hg] at hg2
 have hG : Hid (Bt = w.heap.size ∧ g = w.heap.size + 1 ∧ g < Bo ∧ Bo < W3.heap.size) := ⟨hBt, hg, hg2, by omega⟩
 clear hBt hg hBo hg2 hlT hlO hgl hS1 hS3
 have HSZ : Hid (∀ l : List Nat, (∀ x ∈ l, x < n) → ∀ j, j < n → qsz (runB (fSum t) l j) ≤ n * C) := fun l hl j hj =>
  Nat.le_trans (runB_sz (b := bnd t n C) (n := n) (fun i => Nat.le_trans (by omega) (bnd_pos (by omega) i)) (fun q i hi hq => sum_sz HM.out HZ.out hC q i hi hq) l hl j hj) (HM.out.bnd_le C hj)
 have hL9 : L ≤ 30000 := by have := Nat.mul_le_mul hn0 hC; omega
 have hNC : 1 ≤ n * C := Nat.le_trans (by omega) (Nat.mul_le_mul hn0 hC)
 refine ⟨trivial, (callsIn_wide.2 (downwards_at F _ n t (fun _ => ⟨true, 0⟩) L _ (HT0.out.below BB) HM.out hF)).mono ?_⟩
 rintro e W4 ⟨u, zs, rfl, hI, hQ, b4⟩
 have HQ : Hid (QInv t n (fun _ => ⟨true, 0⟩) 0 zs zs.length) := hQ
 have hK1000 : zs.length ≤ n := hQ.len
 have hne : 0 < zs.length := (List.getElem?_eq_some_iff.1 hQ.root).1
 obtain ⟨b0, cz, rfl, hcz⟩ := hI.open hne
 have hb1 := hI.both b0 rfl
 have HC : Hid (∀ j x : Nat, zs[j]? = some x → W4.cell? ⟨b0, j, none⟩ = some (.int .i64 (x : Int))) := fun j x hj => hI.cell rfl hj
 replace VT := VT.below b4
 replace VO := VO.below b4
 replace GA := GA.below b4
 replace BB := BB.trans (b4.mono BB.size)
 have hs4 := b4.size
 clear b4 hI hQ
 gi_wp2_with fail
 refine ⟨trivial, (callsIn_wide.2 (back_at _ _ _ _ _ rfl)).mono ?_⟩
 rintro e WL ⟨Bs, rfl, hs1, hs2, hcs, b5⟩
 have hs5 := b5.size
 replace VT := VT.below b5
 replace VO := VO.below b5
 replace GA := GA.below b5
 replace BB := BB.trans (b5.mono BB.size)
 have hce : ∀ j x : Nat, zs[j]? = some x → WL.cell? ⟨b0, j, none⟩ = some (.int .i64 (x : Int)) := fun j x hj => (b5.cell (p := ⟨b0, j, none⟩) hb1.2).trans (HC.out j x hj)
 clear b5 HC
 have hB : Hid (Bo ≠ g ∧ Bs ≠ g ∧ b0 ≠ g ∧ Bs < WL.heap.size ∧ b0 < WL.heap.size ∧ w.heap.size ≤ g) := by
  obtain ⟨g1, g2, g3, g4⟩ := hG.out
  exact ⟨by omega, by omega, by omega, hs2, by omega, by omega⟩
 have hbl : b0 < WL.heap.size := by omega
 have HWL : Hid (w.heap.size ≤ WL.heap.size) := BB.size
 clear hb1 hs4 hs1 hs5
 gi_wp2_with fail
 obtain ⟨K, hK⟩ : ∃ K, K = zs.length := ⟨_, rfl⟩
 rw [← hK] at hcs hcz hK1000 ⊢
 have HK : Hid (K = zs.length) := hK
 refine wpIn_rangeFunc_ownG rfl (by decide) (gf := 106) (lb := #[.pointer (some ⟨Bs, 0, none⟩)]) rfl trivial (enters_of Tryz.func106 (by kernel_rfl) rfl)
  (back_stops 8 Bs b0 cz K zs (by omega) hK (by omega) hcz WL hs2 hbl hcs hce) KeepB.trans (keepB_b hs2 hbl) (Below.refl _ _) (fun _ => rfl)
  (AInv w WL (fun W => V1 W Bt (.slice at_ n ct)) Bo g n (fSum t) (n * C) zs K) (fun _ _ _ => False) (AInv.own BB.size (fun W W' row h hg hr => V1.kept11 h hg hr)) (fun c s W W' row h _ _ => h)
  ⟨VT, VO, GA, BB, KeepsOthers.refl _⟩
  (fun x => { tmps := List.toArray ((.slice at_ n ct) :: .pointer (some ⟨Bt, 0, none⟩) :: .slice none 0 0 :: .pointer (some ⟨Bo, 0, none⟩) :: undef :: .int .i64 (nthB zs K x.1 : Int) :: undef :: (.slice at_ n ct) :: .int .i64 (n : Int) :: (.slice (some ⟨g, 0, none⟩) n n) :: (.slice at_ n ct) :: .slice (some ⟨b0, 0, none⟩) K cz :: .func (.func 106) #[] #[.pointer (some ⟨Bs, 0, none⟩)] :: .int .i64 ((K - 1 - x.1 : Nat) : Int) :: .int .i64 (nthB zs K x.1 : Int) :: undef :: undef :: undef :: undef :: undef :: undef :: undef :: undef :: undef :: undef :: undef :: undef :: undef :: undef :: undef :: undef :: undef :: undef :: undef :: undef :: undef :: undef :: undef :: undef :: undef :: undef :: undef :: undef :: undef :: []), defers := [] }) ?assign ?body ?done ?stop
 case assign =>
  clear hK
  intro l x W Kk hKk
  unfold backV
  gi_wp2
  exact hKk
 case stop =>
  rintro D c pre W _ _ h _
  exact h.elim
 case body =>
  clear hce hcs VT VO GA BB hK
  rintro l pre ⟨k, hkK⟩ W5 ⟨VT, VO, GA, BB, hO⟩ hlt
  have rk : RK11 WL.heap.size WL W5 W5 := ⟨hO, KeepsOthers.refl _, Below.refl _ _, hO.size⟩
  have HPL : Hid (∀ x ∈ pre.map (fun x => nthB zs K x.1), x < n) := by
   intro x hx
   obtain ⟨y, _, rfl⟩ := List.mem_map.1 hx
   have hy := y.2
   have e := HK.out
   subst e
   exact HQ.out.small _ (nthB_mem zs hy)
  obtain ⟨i, hi⟩ : ∃ i, nthB zs K k = i := ⟨_, rfl⟩
  have HI : Hid (nthB zs K k = i) := hi
  have hin : i < n := by
   rw [← hi]
   have e := HK.out
   subst e
   exact HQ.out.small _ (nthB_mem zs hkK)
  dsimp only
  rw [hi]
  clear hi hO
  have HR : Hid (∀ j, j < n → qsz (runB (fSum t) (pre.map (fun x => nthB zs K x.1)) j) ≤ n * C) := HSZ.out _ HPL.out
  have HRN : Hid (qsz (fSum t (runB (fSum t) (pre.map (fun x => nthB zs K x.1))) i) ≤ n * C) := by
   have h1 := HSZ.out (pre.map (fun x => nthB zs K x.1) ++ [i]) (fun x hx => by
    rcases List.mem_append.1 hx with h | h
    ·exact HPL.out x h
    ·simp at h; omega) i hin
   rw [runB_more] at h1
   show qsz _ ≤ n * C
   simpa [stp] using h1
  generalize hqq : runB (fSum t) (pre.map (fun x => nthB zs K x.1)) = q at GA HR HRN
  have HQQ : Hid (runB (fSum t) (pre.map (fun x => nthB zs K x.1)) = q) := hqq
  clear hqq
  have g0 : (0 : Int) ≤ (i : Int) := by omega
  have g1 : (i : Int) < (n : Int) := by omega
  have ht := HTB.out.below BB
  obtain ⟨b, off, cc, p1, a1, n1, c1, b1, m1, d1, p2, a2, n2, c2, b2, m2, d2, p3, a3, n3, c3, b3, m3, d3, hvv, hcc, hc6, NN, r1, r2, r3, i1, i2, i3⟩ := (HT0.out.below BB).at hin
  cases hvv
  clear r1 i1 i2 i3
  cases hlf : (t i).leaf
  ·obtain ⟨e1, e2, k1, k2, k3, k4, _, _⟩ := HM.out.kids hin hlf
   have HFV : Hid (fSum t q i = q (kl t i) + q (kr t i)) := by show fSum t q i = _; unfold fSum; rw [if_neg (by simp [hlf])]
   rw [hlf, e1, e2] at NN
   clear hlf e1 e2 k1 k3
   generalize kl t i = x1 at *
   generalize kr t i = x2 at *
   have f0 : (0 : Int) ≤ (x1 : Int) := by omega
   have f1 : (x1 : Int) < (n : Int) := by omega
   have f2 : (0 : Int) ≤ (x2 : Int) := by omega
   have f3 : (x2 : Int) < (n : Int) := by omega
   clear r2 r3
   obtain ⟨T_0, T_1⟩ := id VT
   obtain ⟨N_0, N_1, N_2, N_3, N_4, N_5, N_6, N_7, N_8, N_9, N_10, N_11, N_12, N_13⟩ := id NN
   obtain ⟨W41, hW41, hS41, hL41, VN, FN⟩ := V14.lay W5 58 (.bool false) (.int .i64 (t i).feat) (.bool p1) (.slice a1 n1 c1) (.slice b1 m1 d1) (.int .i64 (x1 : Int)) (.int .i64 (x2 : Int)) (.bool (t i).miss) (.bool p2) (.slice a2 n2 c2) (.slice b2 m2 d2) (.bool p3) (.slice a3 n3 c3) (.slice b3 m3 d3)
   replace VT := VT.below hL41
   replace VO := VO.below hL41
   replace GA := GA.below hL41
   replace ht := ht.below hL41
   replace rk := rk.below hL41
   replace BB := BB.trans (hL41.mono BB.size)
   clear hL41
   obtain ⟨V_0, V_1, V_2, V_3, V_4, V_5, V_6, V_7, V_8, V_9, V_10, V_11, V_12, V_13⟩ := id VN
   rw [hW41] at V_0 V_1 V_2 V_3 V_4 V_5 V_6 V_7 V_8 V_9 V_10 V_11 V_12 V_13
   gi_wp2_with fail
   clear V_0 V_1 V_2 V_3 V_4 V_5 V_6 V_7 V_8 V_9 V_10 V_11 V_12 V_13 N_0 N_1 N_2 N_3 N_4 N_5 N_6 N_7 N_8 N_9 N_10 N_11 N_12 N_13 FN NN T_0 T_1
   rw [← hW41]
   generalize W5.heap.size = R41 at *
   clear hW41 hS41
   obtain ⟨p5, a5, n5, c5, b5, m5, d5, e50, e51, e52, R5⟩ := GA.at k2
   obtain ⟨p7, a7, n7, c7, b7, m7, d7, e70, e71, e72, R7⟩ := GA.at k4
   have X5 : E3 W41 g (x1 * 3) _ _ _ := ⟨e50, e51, e52⟩
   have X7 : E3 W41 g (x2 * 3) _ _ _ := ⟨e70, e71, e72⟩
   clear e50 e51 e52 e70 e71 e72
   refine region_until_in (by rintro ⟨_, _, h⟩; exact h) (by kernel_rfl) 13 #[true, true, true, true, true, true, true, true, true, true, true, true, true, false, false] (fun aF lsd a' w' => ∃ vu0 vu1 vu2 vu3 vu4 vu5 vu6 vu7 vu8 vu9 vu10 vu11 vu12 : Value, a' = ((((((((((((aF.put (some 29) vu0).put (some 30) vu1).put (some 31) vu2).put (some 32) vu3).put (some 33) vu4).put (some 34) vu5).put (some 35) vu6).put (some 36) vu7).put (some 37) vu8).put (some 38) vu9).put (some 39) vu10).put (some 40) vu11).put (some 41) vu12 ∧ Below W41.heap.size W41 w' ∧ (lsd.getD 0 false = true → vu0 = .slice (some ⟨g, 0, none⟩) n n) ∧ (lsd.getD 1 false = true → vu1 = .int .i64 (i : Int)) ∧ (lsd.getD 2 false = true → vu2 = .slice (some ⟨g, 0, none⟩) n n) ∧ (lsd.getD 3 false = true → vu3 = .pointer (some ⟨R41, 5, none⟩)) ∧ (lsd.getD 4 false = true → vu4 = .int .i64 (x1 : Int)) ∧ (lsd.getD 5 false = true → vu5 = .pointer (some ⟨g, x1 * 3, none⟩)) ∧ (lsd.getD 6 false = true → vu6 = .agg #[.bool p5, .slice a5 n5 c5, .slice b5 m5 d5]) ∧ (lsd.getD 7 false = true → vu7 = .slice (some ⟨g, 0, none⟩) n n) ∧ (lsd.getD 8 false = true → vu8 = .pointer (some ⟨R41, 6, none⟩)) ∧ (lsd.getD 9 false = true → vu9 = .int .i64 (x2 : Int)) ∧ (lsd.getD 10 false = true → vu10 = .pointer (some ⟨g, x2 * 3, none⟩)) ∧ (lsd.getD 11 false = true → vu11 = .agg #[.bool p7, .slice a7 n7 c7, .slice b7 m7 d7]) ∧ (lsd.getD 12 false = true → RepQ w' vu12 (q x1 + q x2))) (by kernel_rfl) (by decide) (by kernel_rfl) (by rfl) (by kernel_rfl) ?_ ?_ ?_
   ·exact ⟨_, _, _, _, _, _, _, _, _, _, _, _, _, by simp only [Act.put, xL4, xL5, xL6]; rfl, (Below.refl _ _).drew, fun h => absurd h (fun h => mark_none h), fun h => absurd h (fun h => mark_none h), fun h => absurd h (fun h => mark_none h), fun h => absurd h (fun h => mark_none h), fun h => absurd h (fun h => mark_none h), fun h => absurd h (fun h => mark_none h), fun h => absurd h (fun h => mark_none h), fun h => absurd h (fun h => mark_none h), fun h => absurd h (fun h => mark_none h), fun h => absurd h (fun h => mark_none h), fun h => absurd h (fun h => mark_none h), fun h => absurd h (fun h => mark_none h), fun h => absurd h (fun h => mark_none h)⟩
   ·rintro lsd au wn iu hszu ⟨vu0, vu1, vu2, vu3, vu4, vu5, vu6, vu7, vu8, vu9, vu10, vu11, vu12, rfl, hbu, fu0, fu1, fu2, fu3, fu4, fu5, fu6, fu7, fu8, fu9, fu10, fu11, fu12⟩ himu hru
    rcases (show iu = 0 ∨ iu = 1 ∨ iu = 2 ∨ iu = 3 ∨ iu = 4 ∨ iu = 5 ∨ iu = 6 ∨ iu = 7 ∨ iu = 8 ∨ iu = 9 ∨ iu = 10 ∨ iu = 11 ∨ iu = 12 by omega) with rfl | rfl | rfl | rfl | rfl | rfl | rfl | rfl | rfl | rfl | rfl | rfl | rfl
    ·refine wpOp_shut (by rfl) (fun K hK => ?_)
     simp only [Act.put, xL4, xL5, xL6]
     obtain ⟨VO_0, VO_1⟩ := VO.below hbu
     go_simp
     exact hK.out _ _ ⟨(.slice (some ⟨g, 0, none⟩) n n), vu1, vu2, vu3, vu4, vu5, vu6, vu7, vu8, vu9, vu10, vu11, vu12, by simp only [Act.put, xL4, xL5, xL6], hbu, fun _ => rfl, fun h => fu1 (mark_of (by decide) h), fun h => fu2 (mark_of (by decide) h), fun h => fu3 (mark_of (by decide) h), fun h => fu4 (mark_of (by decide) h), fun h => fu5 (mark_of (by decide) h), fun h => fu6 (mark_of (by decide) h), fun h => fu7 (mark_of (by decide) h), fun h => fu8 (mark_of (by decide) h), fun h => fu9 (mark_of (by decide) h), fun h => fu10 (mark_of (by decide) h), fun h => fu11 (mark_of (by decide) h), fun h => fu12 (mark_of (by decide) h)⟩
    ·refine wpOp_shut (by rfl) (fun K hK => ?_)
     simp only [Act.put, xL4, xL5, xL6]
     go_simp
     exact hK.out _ _ ⟨vu0, (.int .i64 (i : Int)), vu2, vu3, vu4, vu5, vu6, vu7, vu8, vu9, vu10, vu11, vu12, by simp only [Act.put, xL4, xL5, xL6], hbu, fun h => fu0 (mark_of (by decide) h), fun _ => rfl, fun h => fu2 (mark_of (by decide) h), fun h => fu3 (mark_of (by decide) h), fun h => fu4 (mark_of (by decide) h), fun h => fu5 (mark_of (by decide) h), fun h => fu6 (mark_of (by decide) h), fun h => fu7 (mark_of (by decide) h), fun h => fu8 (mark_of (by decide) h), fun h => fu9 (mark_of (by decide) h), fun h => fu10 (mark_of (by decide) h), fun h => fu11 (mark_of (by decide) h), fun h => fu12 (mark_of (by decide) h)⟩
    ·refine wpOp_shut (by rfl) (fun K hK => ?_)
     simp only [Act.put, xL4, xL5, xL6]
     obtain ⟨VO_0, VO_1⟩ := VO.below hbu
     go_simp
     exact hK.out _ _ ⟨vu0, vu1, (.slice (some ⟨g, 0, none⟩) n n), vu3, vu4, vu5, vu6, vu7, vu8, vu9, vu10, vu11, vu12, by simp only [Act.put, xL4, xL5, xL6], hbu, fun h => fu0 (mark_of (by decide) h), fun h => fu1 (mark_of (by decide) h), fun _ => rfl, fun h => fu3 (mark_of (by decide) h), fun h => fu4 (mark_of (by decide) h), fun h => fu5 (mark_of (by decide) h), fun h => fu6 (mark_of (by decide) h), fun h => fu7 (mark_of (by decide) h), fun h => fu8 (mark_of (by decide) h), fun h => fu9 (mark_of (by decide) h), fun h => fu10 (mark_of (by decide) h), fun h => fu11 (mark_of (by decide) h), fun h => fu12 (mark_of (by decide) h)⟩
    ·refine wpOp_shut (by rfl) (fun K hK => ?_)
     simp only [Act.put, xL4, xL5, xL6]
     go_simp
     exact hK.out _ _ ⟨vu0, vu1, vu2, (.pointer (some ⟨R41, 5, none⟩)), vu4, vu5, vu6, vu7, vu8, vu9, vu10, vu11, vu12, by simp only [Act.put, xL4, xL5, xL6], hbu, fun h => fu0 (mark_of (by decide) h), fun h => fu1 (mark_of (by decide) h), fun h => fu2 (mark_of (by decide) h), fun _ => rfl, fun h => fu4 (mark_of (by decide) h), fun h => fu5 (mark_of (by decide) h), fun h => fu6 (mark_of (by decide) h), fun h => fu7 (mark_of (by decide) h), fun h => fu8 (mark_of (by decide) h), fun h => fu9 (mark_of (by decide) h), fun h => fu10 (mark_of (by decide) h), fun h => fu11 (mark_of (by decide) h), fun h => fu12 (mark_of (by decide) h)⟩
    ·have eu3 := fu3 (dep_of 3 hru rfl (by kernel_rfl))
     replace eu3 := eu3.symm
     subst eu3
     refine wpOp_shut (by rfl) (fun K hK => ?_)
     simp only [Act.put, xL4, xL5, xL6]
     obtain ⟨y0, y1, y2, y3, y4, y5, y6, y7, y8, y9, y10, y11, y12, y13⟩ := VN.below hbu
     go_simp
     exact hK.out _ _ ⟨vu0, vu1, vu2, (.pointer (some ⟨R41, 5, none⟩)), (.int .i64 (x1 : Int)), vu5, vu6, vu7, vu8, vu9, vu10, vu11, vu12, by simp only [Act.put, xL4, xL5, xL6], hbu, fun h => fu0 (mark_of (by decide) h), fun h => fu1 (mark_of (by decide) h), fun h => fu2 (mark_of (by decide) h), fun _ => rfl, fun _ => rfl, fun h => fu5 (mark_of (by decide) h), fun h => fu6 (mark_of (by decide) h), fun h => fu7 (mark_of (by decide) h), fun h => fu8 (mark_of (by decide) h), fun h => fu9 (mark_of (by decide) h), fun h => fu10 (mark_of (by decide) h), fun h => fu11 (mark_of (by decide) h), fun h => fu12 (mark_of (by decide) h)⟩
    ·have eu2 := fu2 (dep_of 2 hru rfl (by kernel_rfl))
     have eu4 := fu4 (dep_of 4 hru rfl (by kernel_rfl))
     replace eu2 := eu2.symm
     subst eu2
     replace eu4 := eu4.symm
     subst eu4
     refine wpOp_shut (by rfl) (fun K hK => ?_)
     simp only [Act.put, xL4, xL5, xL6]
     go_simp
     exact hK.out _ _ ⟨vu0, vu1, (.slice (some ⟨g, 0, none⟩) n n), vu3, (.int .i64 (x1 : Int)), (.pointer (some ⟨g, x1 * 3, none⟩)), vu6, vu7, vu8, vu9, vu10, vu11, vu12, by simp only [Act.put, xL4, xL5, xL6], hbu, fun h => fu0 (mark_of (by decide) h), fun h => fu1 (mark_of (by decide) h), fun _ => rfl, fun h => fu3 (mark_of (by decide) h), fun _ => rfl, fun _ => rfl, fun h => fu6 (mark_of (by decide) h), fun h => fu7 (mark_of (by decide) h), fun h => fu8 (mark_of (by decide) h), fun h => fu9 (mark_of (by decide) h), fun h => fu10 (mark_of (by decide) h), fun h => fu11 (mark_of (by decide) h), fun h => fu12 (mark_of (by decide) h)⟩
    ·have eu5 := fu5 (dep_of 5 hru rfl (by kernel_rfl))
     replace eu5 := eu5.symm
     subst eu5
     refine wpOp_shut (by rfl) (fun K hK => ?_)
     simp only [Act.put, xL4, xL5, xL6]
     obtain ⟨X5_0, X5_1, X5_2⟩ := X5.below hbu
     go_simp
     exact hK.out _ _ ⟨vu0, vu1, vu2, vu3, vu4, (.pointer (some ⟨g, x1 * 3, none⟩)), (.agg #[.bool p5, .slice a5 n5 c5, .slice b5 m5 d5]), vu7, vu8, vu9, vu10, vu11, vu12, by simp only [Act.put, xL4, xL5, xL6], hbu, fun h => fu0 (mark_of (by decide) h), fun h => fu1 (mark_of (by decide) h), fun h => fu2 (mark_of (by decide) h), fun h => fu3 (mark_of (by decide) h), fun h => fu4 (mark_of (by decide) h), fun _ => rfl, fun _ => rfl, fun h => fu7 (mark_of (by decide) h), fun h => fu8 (mark_of (by decide) h), fun h => fu9 (mark_of (by decide) h), fun h => fu10 (mark_of (by decide) h), fun h => fu11 (mark_of (by decide) h), fun h => fu12 (mark_of (by decide) h)⟩
    ·refine wpOp_shut (by rfl) (fun K hK => ?_)
     simp only [Act.put, xL4, xL5, xL6]
     obtain ⟨VO_0, VO_1⟩ := VO.below hbu
     go_simp
     exact hK.out _ _ ⟨vu0, vu1, vu2, vu3, vu4, vu5, vu6, (.slice (some ⟨g, 0, none⟩) n n), vu8, vu9, vu10, vu11, vu12, by simp only [Act.put, xL4, xL5, xL6], hbu, fun h => fu0 (mark_of (by decide) h), fun h => fu1 (mark_of (by decide) h), fun h => fu2 (mark_of (by decide) h), fun h => fu3 (mark_of (by decide) h), fun h => fu4 (mark_of (by decide) h), fun h => fu5 (mark_of (by decide) h), fun h => fu6 (mark_of (by decide) h), fun _ => rfl, fun h => fu8 (mark_of (by decide) h), fun h => fu9 (mark_of (by decide) h), fun h => fu10 (mark_of (by decide) h), fun h => fu11 (mark_of (by decide) h), fun h => fu12 (mark_of (by decide) h)⟩
    ·refine wpOp_shut (by rfl) (fun K hK => ?_)
     simp only [Act.put, xL4, xL5, xL6]
     go_simp
     exact hK.out _ _ ⟨vu0, vu1, vu2, vu3, vu4, vu5, vu6, vu7, (.pointer (some ⟨R41, 6, none⟩)), vu9, vu10, vu11, vu12, by simp only [Act.put, xL4, xL5, xL6], hbu, fun h => fu0 (mark_of (by decide) h), fun h => fu1 (mark_of (by decide) h), fun h => fu2 (mark_of (by decide) h), fun h => fu3 (mark_of (by decide) h), fun h => fu4 (mark_of (by decide) h), fun h => fu5 (mark_of (by decide) h), fun h => fu6 (mark_of (by decide) h), fun h => fu7 (mark_of (by decide) h), fun _ => rfl, fun h => fu9 (mark_of (by decide) h), fun h => fu10 (mark_of (by decide) h), fun h => fu11 (mark_of (by decide) h), fun h => fu12 (mark_of (by decide) h)⟩
    ·have eu8 := fu8 (dep_of 8 hru rfl (by kernel_rfl))
     replace eu8 := eu8.symm
     subst eu8
     refine wpOp_shut (by rfl) (fun K hK => ?_)
     simp only [Act.put, xL4, xL5, xL6]
     obtain ⟨y0, y1, y2, y3, y4, y5, y6, y7, y8, y9, y10, y11, y12, y13⟩ := VN.below hbu
     go_simp
     exact hK.out _ _ ⟨vu0, vu1, vu2, vu3, vu4, vu5, vu6, vu7, (.pointer (some ⟨R41, 6, none⟩)), (.int .i64 (x2 : Int)), vu10, vu11, vu12, by simp only [Act.put, xL4, xL5, xL6], hbu, fun h => fu0 (mark_of (by decide) h), fun h => fu1 (mark_of (by decide) h), fun h => fu2 (mark_of (by decide) h), fun h => fu3 (mark_of (by decide) h), fun h => fu4 (mark_of (by decide) h), fun h => fu5 (mark_of (by decide) h), fun h => fu6 (mark_of (by decide) h), fun h => fu7 (mark_of (by decide) h), fun _ => rfl, fun _ => rfl, fun h => fu10 (mark_of (by decide) h), fun h => fu11 (mark_of (by decide) h), fun h => fu12 (mark_of (by decide) h)⟩
    ·have eu7 := fu7 (dep_of 7 hru rfl (by kernel_rfl))
     have eu9 := fu9 (dep_of 9 hru rfl (by kernel_rfl))
     replace eu7 := eu7.symm
     subst eu7
     replace eu9 := eu9.symm
     subst eu9
     refine wpOp_shut (by rfl) (fun K hK => ?_)
     simp only [Act.put, xL4, xL5, xL6]
     go_simp
     exact hK.out _ _ ⟨vu0, vu1, vu2, vu3, vu4, vu5, vu6, (.slice (some ⟨g, 0, none⟩) n n), vu8, (.int .i64 (x2 : Int)), (.pointer (some ⟨g, x2 * 3, none⟩)), vu11, vu12, by simp only [Act.put, xL4, xL5, xL6], hbu, fun h => fu0 (mark_of (by decide) h), fun h => fu1 (mark_of (by decide) h), fun h => fu2 (mark_of (by decide) h), fun h => fu3 (mark_of (by decide) h), fun h => fu4 (mark_of (by decide) h), fun h => fu5 (mark_of (by decide) h), fun h => fu6 (mark_of (by decide) h), fun _ => rfl, fun h => fu8 (mark_of (by decide) h), fun _ => rfl, fun _ => rfl, fun h => fu11 (mark_of (by decide) h), fun h => fu12 (mark_of (by decide) h)⟩
    ·have eu10 := fu10 (dep_of 10 hru rfl (by kernel_rfl))
     replace eu10 := eu10.symm
     subst eu10
     refine wpOp_shut (by rfl) (fun K hK => ?_)
     simp only [Act.put, xL4, xL5, xL6]
     obtain ⟨X7_0, X7_1, X7_2⟩ := X7.below hbu
     go_simp
     exact hK.out _ _ ⟨vu0, vu1, vu2, vu3, vu4, vu5, vu6, vu7, vu8, vu9, (.pointer (some ⟨g, x2 * 3, none⟩)), (.agg #[.bool p7, .slice a7 n7 c7, .slice b7 m7 d7]), vu12, by simp only [Act.put, xL4, xL5, xL6], hbu, fun h => fu0 (mark_of (by decide) h), fun h => fu1 (mark_of (by decide) h), fun h => fu2 (mark_of (by decide) h), fun h => fu3 (mark_of (by decide) h), fun h => fu4 (mark_of (by decide) h), fun h => fu5 (mark_of (by decide) h), fun h => fu6 (mark_of (by decide) h), fun h => fu7 (mark_of (by decide) h), fun h => fu8 (mark_of (by decide) h), fun h => fu9 (mark_of (by decide) h), fun _ => rfl, fun _ => rfl, fun h => fu12 (mark_of (by decide) h)⟩
    ·have eu6 := fu6 (dep_of 6 hru rfl (by kernel_rfl))
     have eu11 := fu11 (dep_of 11 hru rfl (by kernel_rfl))
     replace eu6 := eu6.symm
     subst eu6
     replace eu11 := eu11.symm
     subst eu11
     refine wpOp_shut (by rfl) (fun K hK => ?_)
     simp only [Act.put, xL4, xL5, xL6]
     have ht := ht.below hbu
     have R5 := R5.below hbu
     have R7 := R7.below hbu
     go_simp
     refine (qadd_at _ _ (q x1) (q x2) (n * C) _ R5 R7 hNC (by omega) ht).mono ?_
     rintro eu wx ⟨x6, rfl, h6, bu⟩
     go_wp2_with fail
     have hbu2 := hbu.trans (bu.mono hbu.size)
     exact hK.out _ _ ⟨vu0, vu1, vu2, vu3, vu4, vu5, (.agg #[.bool p5, .slice a5 n5 c5, .slice b5 m5 d5]), vu7, vu8, vu9, vu10, (.agg #[.bool p7, .slice a7 n7 c7, .slice b7 m7 d7]), _, by simp only [Act.put, xL4, xL5, xL6], hbu2, fun h => fu0 (mark_of (by decide) h), fun h => fu1 (mark_of (by decide) h), fun h => fu2 (mark_of (by decide) h), fun h => fu3 (mark_of (by decide) h), fun h => fu4 (mark_of (by decide) h), fun h => fu5 (mark_of (by decide) h), fun _ => rfl, fun h => fu7 (mark_of (by decide) h), fun h => fu8 (mark_of (by decide) h), fun h => fu9 (mark_of (by decide) h), fun h => fu10 (mark_of (by decide) h), fun _ => rfl, fun _ => h6⟩
   rintro au Wu42 ⟨vu0, vu1, vu2, vu3, vu4, vu5, vu6, vu7, vu8, vu9, vu10, vu11, vu12, rfl, hbu, fu0, fu1, fu2, fu3, fu4, fu5, fu6, fu7, fu8, fu9, fu10, fu11, fu12⟩
   have eu0 := (fu0 rfl).symm
   subst eu0
   have eu1 := (fu1 rfl).symm
   subst eu1
   have eu2 := (fu2 rfl).symm
   subst eu2
   have eu3 := (fu3 rfl).symm
   subst eu3
   have eu4 := (fu4 rfl).symm
   subst eu4
   have eu5 := (fu5 rfl).symm
   subst eu5
   have eu6 := (fu6 rfl).symm
   subst eu6
   have eu7 := (fu7 rfl).symm
   subst eu7
   have eu8 := (fu8 rfl).symm
   subst eu8
   have eu9 := (fu9 rfl).symm
   subst eu9
   have eu10 := (fu10 rfl).symm
   subst eu10
   have eu11 := (fu11 rfl).symm
   subst eu11
   have h6 := fu12 rfl
   clear fu0 fu1 fu2 fu3 fu4 fu5 fu6 fu7 fu8 fu9 fu10 fu11 fu12
   have hlX5 : g < W41.heap.size := X5.lt
   have hlX7 : g < W41.heap.size := X7.lt
   replace VT := VT.below hbu
   replace VO := VO.below hbu
   replace GA := GA.below hbu
   replace ht := ht.below hbu
   replace rk := rk.below hbu
   replace VN := VN.below hbu
   replace R5 := R5.below hbu
   replace R7 := R7.below hbu
   replace X5 := X5.below hbu
   replace X7 := X7.below hbu
   replace BB := BB.trans (hbu.mono BB.size)
   clear hbu
   obtain ⟨p6, a6, n6, c6, b6, m6, d6, rfl⟩ := h6.open
   rw [← HFV.out] at h6
   simp only [Act.put, xL4, xL5, xL6]
   refine wpAnyH_ready (rs := [13]) (by kernel_rfl) (by simp) ?_
   refine AllReadyH.cons (by rfl) (fun K hK => ?_) AllReadyH.nil
   go_simp
   refine hK.out _ _ trivial (fun _ => ?_)
   clear hK K
   simp only [Act.put, xL4, xL5, xL6]
   refine wpAnyH_ready (rs := [14]) (by kernel_rfl) (by simp) ?_
   refine AllReadyH.cons (by rfl) (fun K hK => ?_) AllReadyH.nil
   obtain ⟨⟨u0, u1, u2, s0, s1, s2, s3, s4, s5⟩, FIN⟩ := AInv.put (E := fun W => V1 W Bt (.slice (some ⟨b, off, none⟩) n ct)) (x := ⟨k, hkK⟩) (fun W W2 h e => V1.block11 e (h _ (by have := hG.out; omega))) hB VT VO (HQQ.out.symm ▸ GA) BB rk HI.out hin (by rw [HQQ.out]; exact h6.at _ HRN.out)
   go_simp
   clear s0 s1 s2 s3 s4 s5
   refine hK.out _ _ trivial (fun _ => ?_)
   clear hK K
   simp only [Act.put, xL4, xL5, xL6]
   refine wpAnyH_done (by kernel_rfl) ?_ _
   exact FIN
  ·have HFV : Hid (fSum t q i = (t i).val * (t i).cov) := by show fSum t q i = _; unfold fSum; rw [if_pos hlf]
   rw [hlf] at NN
   clear hlf
   obtain ⟨T_0, T_1⟩ := id VT
   obtain ⟨N_0, N_1, N_2, N_3, N_4, N_5, N_6, N_7, N_8, N_9, N_10, N_11, N_12, N_13⟩ := id NN
   obtain ⟨W41, hW41, hS41, hL41, VN, FN⟩ := V14.lay W5 58 (.bool true) (.int .i64 (t i).feat) (.bool p1) (.slice a1 n1 c1) (.slice b1 m1 d1) (.int .i64 (t i).left) (.int .i64 (t i).right) (.bool (t i).miss) (.bool p2) (.slice a2 n2 c2) (.slice b2 m2 d2) (.bool p3) (.slice a3 n3 c3) (.slice b3 m3 d3)
   replace VT := VT.below hL41
   replace VO := VO.below hL41
   replace GA := GA.below hL41
   replace ht := ht.below hL41
   replace rk := rk.below hL41
   replace r2 := r2.below hL41
   replace r3 := r3.below hL41
   replace BB := BB.trans (hL41.mono BB.size)
   clear hL41
   obtain ⟨V_0, V_1, V_2, V_3, V_4, V_5, V_6, V_7, V_8, V_9, V_10, V_11, V_12, V_13⟩ := id VN
   rw [hW41] at V_0 V_1 V_2 V_3 V_4 V_5 V_6 V_7 V_8 V_9 V_10 V_11 V_12 V_13
   gi_wp2_with fail
   clear V_0 V_1 V_2 V_3 V_4 V_5 V_6 V_7 V_8 V_9 V_10 V_11 V_12 V_13 N_0 N_1 N_2 N_3 N_4 N_5 N_6 N_7 N_8 N_9 N_10 N_11 N_12 N_13 FN NN T_0 T_1
   rw [← hW41]
   generalize W5.heap.size = R41 at *
   clear hW41 hS41
   refine region_until_in (by rintro ⟨_, _, h⟩; exact h) (by kernel_rfl) 7 #[true, true, true, true, true, true, true, false, false] (fun aF lsd a' w' => ∃ vu0 vu1 vu2 vu3 vu4 vu5 vu6 : Value, a' = ((((((aF.put (some 21) vu0).put (some 22) vu1).put (some 23) vu2).put (some 24) vu3).put (some 25) vu4).put (some 26) vu5).put (some 27) vu6 ∧ Below W41.heap.size W41 w' ∧ (lsd.getD 0 false = true → vu0 = .slice (some ⟨g, 0, none⟩) n n) ∧ (lsd.getD 1 false = true → vu1 = .int .i64 (i : Int)) ∧ (lsd.getD 2 false = true → vu2 = .pointer (some ⟨R41, 8, none⟩)) ∧ (lsd.getD 3 false = true → vu3 = .agg #[.bool p2, .slice a2 n2 c2, .slice b2 m2 d2]) ∧ (lsd.getD 4 false = true → vu4 = .pointer (some ⟨R41, 11, none⟩)) ∧ (lsd.getD 5 false = true → vu5 = .agg #[.bool p3, .slice a3 n3 c3, .slice b3 m3 d3]) ∧ (lsd.getD 6 false = true → RepQ w' vu6 ((t i).val * (t i).cov))) (by kernel_rfl) (by decide) (by kernel_rfl) (by rfl) (by kernel_rfl) ?_ ?_ ?_
   ·exact ⟨_, _, _, _, _, _, _, by simp only [Act.put, xL4, xL5, xL6]; rfl, (Below.refl _ _).drew, fun h => absurd h (fun h => mark_none h), fun h => absurd h (fun h => mark_none h), fun h => absurd h (fun h => mark_none h), fun h => absurd h (fun h => mark_none h), fun h => absurd h (fun h => mark_none h), fun h => absurd h (fun h => mark_none h), fun h => absurd h (fun h => mark_none h)⟩
   ·rintro lsd au wn iu hszu ⟨vu0, vu1, vu2, vu3, vu4, vu5, vu6, rfl, hbu, fu0, fu1, fu2, fu3, fu4, fu5, fu6⟩ himu hru
    rcases (show iu = 0 ∨ iu = 1 ∨ iu = 2 ∨ iu = 3 ∨ iu = 4 ∨ iu = 5 ∨ iu = 6 by omega) with rfl | rfl | rfl | rfl | rfl | rfl | rfl
    ·refine wpOp_shut (by rfl) (fun K hK => ?_)
     simp only [Act.put, xL4, xL5, xL6]
     obtain ⟨VO_0, VO_1⟩ := VO.below hbu
     go_simp
     exact hK.out _ _ ⟨(.slice (some ⟨g, 0, none⟩) n n), vu1, vu2, vu3, vu4, vu5, vu6, by simp only [Act.put, xL4, xL5, xL6], hbu, fun _ => rfl, fun h => fu1 (mark_of (by decide) h), fun h => fu2 (mark_of (by decide) h), fun h => fu3 (mark_of (by decide) h), fun h => fu4 (mark_of (by decide) h), fun h => fu5 (mark_of (by decide) h), fun h => fu6 (mark_of (by decide) h)⟩
    ·refine wpOp_shut (by rfl) (fun K hK => ?_)
     simp only [Act.put, xL4, xL5, xL6]
     go_simp
     exact hK.out _ _ ⟨vu0, (.int .i64 (i : Int)), vu2, vu3, vu4, vu5, vu6, by simp only [Act.put, xL4, xL5, xL6], hbu, fun h => fu0 (mark_of (by decide) h), fun _ => rfl, fun h => fu2 (mark_of (by decide) h), fun h => fu3 (mark_of (by decide) h), fun h => fu4 (mark_of (by decide) h), fun h => fu5 (mark_of (by decide) h), fun h => fu6 (mark_of (by decide) h)⟩
    ·refine wpOp_shut (by rfl) (fun K hK => ?_)
     simp only [Act.put, xL4, xL5, xL6]
     go_simp
     exact hK.out _ _ ⟨vu0, vu1, (.pointer (some ⟨R41, 8, none⟩)), vu3, vu4, vu5, vu6, by simp only [Act.put, xL4, xL5, xL6], hbu, fun h => fu0 (mark_of (by decide) h), fun h => fu1 (mark_of (by decide) h), fun _ => rfl, fun h => fu3 (mark_of (by decide) h), fun h => fu4 (mark_of (by decide) h), fun h => fu5 (mark_of (by decide) h), fun h => fu6 (mark_of (by decide) h)⟩
    ·have eu2 := fu2 (dep_of 2 hru rfl (by kernel_rfl))
     replace eu2 := eu2.symm
     subst eu2
     refine wpOp_shut (by rfl) (fun K hK => ?_)
     simp only [Act.put, xL4, xL5, xL6]
     obtain ⟨y0, y1, y2, y3, y4, y5, y6, y7, y8, y9, y10, y11, y12, y13⟩ := VN.below hbu
     go_simp
     exact hK.out _ _ ⟨vu0, vu1, (.pointer (some ⟨R41, 8, none⟩)), (.agg #[.bool p2, .slice a2 n2 c2, .slice b2 m2 d2]), vu4, vu5, vu6, by simp only [Act.put, xL4, xL5, xL6], hbu, fun h => fu0 (mark_of (by decide) h), fun h => fu1 (mark_of (by decide) h), fun _ => rfl, fun _ => rfl, fun h => fu4 (mark_of (by decide) h), fun h => fu5 (mark_of (by decide) h), fun h => fu6 (mark_of (by decide) h)⟩
    ·refine wpOp_shut (by rfl) (fun K hK => ?_)
     simp only [Act.put, xL4, xL5, xL6]
     go_simp
     exact hK.out _ _ ⟨vu0, vu1, vu2, vu3, (.pointer (some ⟨R41, 11, none⟩)), vu5, vu6, by simp only [Act.put, xL4, xL5, xL6], hbu, fun h => fu0 (mark_of (by decide) h), fun h => fu1 (mark_of (by decide) h), fun h => fu2 (mark_of (by decide) h), fun h => fu3 (mark_of (by decide) h), fun _ => rfl, fun h => fu5 (mark_of (by decide) h), fun h => fu6 (mark_of (by decide) h)⟩
    ·have eu4 := fu4 (dep_of 4 hru rfl (by kernel_rfl))
     replace eu4 := eu4.symm
     subst eu4
     refine wpOp_shut (by rfl) (fun K hK => ?_)
     simp only [Act.put, xL4, xL5, xL6]
     obtain ⟨y0, y1, y2, y3, y4, y5, y6, y7, y8, y9, y10, y11, y12, y13⟩ := VN.below hbu
     go_simp
     exact hK.out _ _ ⟨vu0, vu1, vu2, vu3, (.pointer (some ⟨R41, 11, none⟩)), (.agg #[.bool p3, .slice a3 n3 c3, .slice b3 m3 d3]), vu6, by simp only [Act.put, xL4, xL5, xL6], hbu, fun h => fu0 (mark_of (by decide) h), fun h => fu1 (mark_of (by decide) h), fun h => fu2 (mark_of (by decide) h), fun h => fu3 (mark_of (by decide) h), fun _ => rfl, fun _ => rfl, fun h => fu6 (mark_of (by decide) h)⟩
    ·have eu3 := fu3 (dep_of 3 hru rfl (by kernel_rfl))
     have eu5 := fu5 (dep_of 5 hru rfl (by kernel_rfl))
     replace eu3 := eu3.symm
     subst eu3
     replace eu5 := eu5.symm
     subst eu5
     refine wpOp_shut (by rfl) (fun K hK => ?_)
     simp only [Act.put, xL4, xL5, xL6]
     have ht := ht.below hbu
     have r2 := r2.below hbu
     have r3 := r3.below hbu
     go_simp
     refine (qmul_at _ _ (t i).val (t i).cov L _ r2 r3 hL (by omega) ht).mono ?_
     rintro eu wx ⟨x6, rfl, h6, bu⟩
     go_wp2_with fail
     have hbu2 := hbu.trans (bu.mono hbu.size)
     exact hK.out _ _ ⟨vu0, vu1, vu2, (.agg #[.bool p2, .slice a2 n2 c2, .slice b2 m2 d2]), vu4, (.agg #[.bool p3, .slice a3 n3 c3, .slice b3 m3 d3]), _, by simp only [Act.put, xL4, xL5, xL6], hbu2, fun h => fu0 (mark_of (by decide) h), fun h => fu1 (mark_of (by decide) h), fun h => fu2 (mark_of (by decide) h), fun _ => rfl, fun h => fu4 (mark_of (by decide) h), fun _ => rfl, fun _ => h6⟩
   rintro au Wu42 ⟨vu0, vu1, vu2, vu3, vu4, vu5, vu6, rfl, hbu, fu0, fu1, fu2, fu3, fu4, fu5, fu6⟩
   have eu0 := (fu0 rfl).symm
   subst eu0
   have eu1 := (fu1 rfl).symm
   subst eu1
   have eu2 := (fu2 rfl).symm
   subst eu2
   have eu3 := (fu3 rfl).symm
   subst eu3
   have eu4 := (fu4 rfl).symm
   subst eu4
   have eu5 := (fu5 rfl).symm
   subst eu5
   have h6 := fu6 rfl
   clear fu0 fu1 fu2 fu3 fu4 fu5 fu6
   replace VT := VT.below hbu
   replace VO := VO.below hbu
   replace GA := GA.below hbu
   replace ht := ht.below hbu
   replace rk := rk.below hbu
   replace r2 := r2.below hbu
   replace r3 := r3.below hbu
   replace VN := VN.below hbu
   replace BB := BB.trans (hbu.mono BB.size)
   clear hbu
   obtain ⟨p6, a6, n6, c6, b6, m6, d6, rfl⟩ := h6.open
   rw [← HFV.out] at h6
   simp only [Act.put, xL4, xL5, xL6]
   refine wpAnyH_ready (rs := [7]) (by kernel_rfl) (by simp) ?_
   refine AllReadyH.cons (by rfl) (fun K hK => ?_) AllReadyH.nil
   go_simp
   refine hK.out _ _ trivial (fun _ => ?_)
   clear hK K
   simp only [Act.put, xL4, xL5, xL6]
   refine wpAnyH_ready (rs := [8]) (by kernel_rfl) (by simp) ?_
   refine AllReadyH.cons (by rfl) (fun K hK => ?_) AllReadyH.nil
   obtain ⟨⟨u0, u1, u2, s0, s1, s2, s3, s4, s5⟩, FIN⟩ := AInv.put (E := fun W => V1 W Bt (.slice (some ⟨b, off, none⟩) n ct)) (x := ⟨k, hkK⟩) (fun W W2 h e => V1.block11 e (h _ (by have := hG.out; omega))) hB VT VO (HQQ.out.symm ▸ GA) BB rk HI.out hin (by rw [HQQ.out]; exact h6.at _ HRN.out)
   go_simp
   clear s0 s1 s2 s3 s4 s5
   refine hK.out _ _ trivial (fun _ => ?_)
   clear hK K
   simp only [Act.put, xL4, xL5, xL6]
   refine wpAnyH_done (by kernel_rfl) ?_ _
   exact FIN
 case done =>
  rintro D ys W5 hD rfl ⟨VT, VO, GA, BB, hO⟩ hKD
  clear hce hcs
  have hMk : Marks w.heap.size W5 [{ target := .collected D, args := #[] }] := ⟨D, rfl, Nat.le_trans HWL.out hD, hKD, by simp, trivial⟩
  have e9 : (finsB K K).map (fun x => nthB zs K x.1) = zs.reverse := by
   have e := HK.out
   subst e
   exact finsB_all zs
  rw [e9] at GA
  replace GA := GA.congr (q' := ws t n) (fun i hi => HM.out.run_sum HQ.out hi)
  clear e9 hKD hO hK
  obtain ⟨VO1, VO2⟩ := id VO
  gi_wp2_with fail
  refine leaves_marksF (B := w.heap.size) _ _ hMk BB.size ?_
  intro W' hb hcl
  refine ⟨.slice (some ⟨g, 0, none⟩) n n, by simp [results, go_sem], g, rfl, hB.out.2.2.2.2.2, GA.left hcl, BB.trans hb⟩

end Go.Proofs.YtcackghehjbeeaaGreatDoor

namespace Go.Proofs.YtcackghehjbeeaaGreatDoor
open Go.RowKit
set_option linter.unusedVariables false
set_option linter.unusedSimpArgs false

/-- The mean of a tree's leaves. -/
def mean0 (T : Nat → Nat → Nd) (N : Nat → Nat) (i : Nat) : Rat := ws (T i) (N i) 0 / (T i 0).cov
theorem VArr.full {w : World} {g k : Nat} {q : Nat → Rat} {L : Nat} (h : VArr w g k k q) (hk : k ≤ 100000) (hq : ∀ i, i < k → qsz (q i) ≤ L) : QRow w (.slice (some ⟨g, 0, none⟩) k k) k q L :=
 let ⟨el, a, b⟩ := h; ⟨el, a.row k k (Nat.le_refl _) (Nat.le_refl _) (by omega), fun j hj => (b j hj).at _ (hq j hj)⟩


set_option maxRecDepth 100000 in
set_option maxHeartbeats 4000000 in
theorem base_no (F : Int) (vm : Value) (k : Nat) (N : Nat → Nat) (T : Nat → Nat → Nd) (L C : Nat) (w : World) (hM : MRow w vm k N T L) (ht : Tab w) (hL : 1 ≤ L) (hC : 2 * L + 2 ≤ C) (hCn : 255 * C ≤ 10000) (hw : mayB F k N T = false) :
  Calls Tryz.prog 15 #[.agg #[.int .i64 F, vm]] w fun e w' => e = .returned (.tuple #[.agg #[.bool false, .slice none 0 0, .slice none 0 0], .int .i64 1]) ∧ Below w.heap.size w w' := by
 obtain ⟨ao, c, rfl, hnc, hc63⟩ := hM.open
 obtain ⟨i0, hi, hz0, hz1, hz2⟩ := info_parts info_wrat
 obtain ⟨W0, hW0, hS0, hL0, VM⟩ := V2.lay w 24 (.int .i64 F) (.slice ao k c)
 have BB : Below w.heap.size w W0 := hL0
 obtain ⟨W1, hW1, hS1, hL1, VR⟩ := V3.lay W0 34 (.bool false) (.slice none 0 0) (.slice none 0 0)
 rw [hS0] at VR
 replace VM := VM.below hL1
 replace BB := BB.trans (hL1.mono BB.size)
 clear hL0 hL1
 have HM0 : Hid (MRow w (.slice ao k c) k N T L) := hM
 have HT0 : Hid (Tab w) := ht
 clear hM ht
 go_enter Tryz.func15, Tryz.ntmps15
 obtain ⟨VM_0, VM_1, VM_2, VM_3⟩ := id VM
 rw [hW1, hW0] at VM_0 VM_1 VM_2 VM_3
 go_wp2_with fail
 clear VM_0 VM_1 VM_2 VM_3
 rw [← hW0, ← hW1]
 clear hW0 hW1 hS0 hS1
 refine (ok_may F _ k N T L _ (HM0.out.below BB) (HT0.out.below BB) hL (by omega)).mono ?_
 rintro e w1 ⟨rfl, b1⟩
 replace VM := VM.below b1
 replace VR := VR.below b1
 replace BB := BB.trans (b1.mono BB.size)
 clear b1
 rw [hw]
 obtain ⟨z1, z2, z3, z4, z5, z6⟩ := id VR
 have BB_n := below_store3 (R := w.heap.size + 1) BB (by omega) (.bool false) (.slice none 0 0) (.slice none 0 0)
 go_wp2
 (try simp only [Exit.inBlock, Exit.then])
 refine bodyPost_ret (v := .tuple #[.agg #[.bool false, .slice none 0 0, .slice none 0 0], .int .i64 1]) (by simp [results, go_sem, z1, z2, z3]) rfl ?_
 exact ⟨rfl, BB_n⟩


/-- What sums answers, as a value of its own. -/
def SumV (w : World) (v : Value) (n : Nat) (q : Nat → Rat) (L : Nat) : Prop := ∃ g, v = .slice (some ⟨g, 0, none⟩) n n ∧ GArr w g n q L
def PtrV (w : World) (v : Value) (n : Nat) (q : Nat → Rat) (L : Nat) : Prop := ∃ g, v = .pointer (some ⟨g, 0, none⟩) ∧ GArr w g n q L
theorem SumV.below {w w' : World} {v : Value} {n : Nat} {q : Nat → Rat} {L : Nat} (h : SumV w v n q L) (hb : Below w.heap.size w w') : SumV w' v n q L := let ⟨g, e, G⟩ := h; ⟨g, e, G.below hb⟩
theorem PtrV.below {w w' : World} {v : Value} {n : Nat} {q : Nat → Rat} {L : Nat} (h : PtrV w v n q L) (hb : Below w.heap.size w w') : PtrV w' v n q L := let ⟨g, e, G⟩ := h; ⟨g, e, G.below hb⟩
theorem ws_sz {F : Int} {t : Nat → Nd} {n L C : Nat} (hm : MayT F t n) (hz : ∀ i, i < n → qsz (t i).val ≤ L ∧ qsz (t i).cov ≤ L) (hC : 2 * L + 2 ≤ C) {M : Nat} (hM : n * C ≤ M) : ∀ {x : Nat}, x < n → qsz (ws t n x) ≤ M := by
 intro x hx
 refine Nat.le_trans ?_ (Nat.le_trans (hm.bnd_le C hx) hM)
 refine hm.by_tree (P := fun x => qsz (ws t n x) ≤ bnd t n C x) (fun x hx hl => ?_) (fun x hx hl a b => ?_) hx
 ·rw [ws_leaf hl]
  have h1 := qsz_mul _ _ (hz x hx).1 (hz x hx).2
  have h2 := bnd_pos (t := t) (n := n) (C := C) (by omega) x
  omega
 ·rw [hm.ws_split hx hl]
  have h1 := qsz_add _ _ a b
  have h2 := hm.bnd_split C hx hl
  omega


set_option maxRecDepth 100000 in
set_option maxHeartbeats 16000000 in
theorem base_yes (F : Int) (vm : Value) (k : Nat) (N : Nat → Nat) (T : Nat → Nat → Nd) (L C : Nat) (w : World) (hM : MRow w vm k N T L) (ht : Tab w) (hL : 1 ≤ L) (hC : 2 * L + 2 ≤ C) (hCn : 255 * C ≤ 10000) (hw : mayB F k N T = true) (hk : k ≤ 6) :
  Calls Tryz.prog 15 #[.agg #[.int .i64 F, vm]] w fun e w' => ∃ x, e = .returned (.tuple #[x, .int .i64 0]) ∧ RepQ w' x (sumq (mean0 T N) k) ∧ Below w.heap.size w w' := by
 obtain ⟨ao, c, rfl, hnc, hc63⟩ := hM.open
 obtain ⟨i0, hi, hz0, hz1, hz2⟩ := info_parts info_wrat
 obtain ⟨W0, hW0, hS0, hL0, VM⟩ := V2.lay w 24 (.int .i64 F) (.slice ao k c)
 have BB : Below w.heap.size w W0 := hL0
 obtain ⟨W1, hW1, hS1, hL1, VR⟩ := V3.lay W0 34 (.bool false) (.slice none 0 0) (.slice none 0 0)
 rw [hS0] at VR
 replace VM := VM.below hL1
 replace BB := BB.trans (hL1.mono BB.size)
 clear hL0 hL1
 have HM0 : Hid (MRow w (.slice ao k c) k N T L) := hM
 have HT0 : Hid (Tab w) := ht
 clear hM ht
 go_enter Tryz.func15, Tryz.ntmps15
 obtain ⟨VM_0, VM_1, VM_2, VM_3⟩ := id VM
 rw [hW1, hW0] at VM_0 VM_1 VM_2 VM_3
 go_wp2_with fail
 clear VM_0 VM_1 VM_2 VM_3
 rw [← hW0, ← hW1]
 clear hW0 hW1 hS0 hS1
 refine (ok_may F _ k N T L _ (HM0.out.below BB) (HT0.out.below BB) hL (by omega)).mono ?_
 rintro e w1 ⟨rfl, b1⟩
 replace VM := VM.below b1
 replace VR := VR.below b1
 replace BB := BB.trans (b1.mono BB.size)
 clear b1
 obtain ⟨_, _, _, hmy⟩ := mayB_may hw
 have HMY : Hid (∀ i, i < k → MayT F (T i) (N i)) := hmy
 have hF64 : F ≤ 64 := (mayB_may hw).2.1
 rw [hw]
 clear hmy hw
 obtain ⟨VM_0, VM_1, VM_2, VM_3⟩ := id VM
 go_wp2_with (at_make; refine wpList_make_full _ rfl _ _ 49 rfl _ 34 i0 (.agg #[.bool false, .slice none 0 0, .slice none 0 0]) 3 Tryz.underlying49 hi hz0 hz1 _ _ _ _ k rfl rfl (by omega) (by omega) (by rw [hz2]; omega) (by unfold maxLen; omega) (Nat.le_refl _) ?_; intro w2 hown hgrow; have hb1 := below_grown hgrow; have A1 := arr3_made hown; have BB1 := BB.trans (hb1.mono BB.size); have VM1 := VM.below hb1; obtain ⟨q1, q2, q3, q4⟩ := id VM1; clear VM_0 VM_1 VM_2 VM_3)
 have VA : VArr w2 w1.heap.size k 0 (mean0 T N) := ⟨_, A1, fun j hj => absurd hj (Nat.not_lt_zero _)⟩
 have hGB : w.heap.size ≤ w1.heap.size := BB.size
 have hGR : w.heap.size + 1 ≠ w1.heap.size := Nat.ne_of_lt VR.lt
 replace VR := VR.below hb1
 clear q1 q2 q3 q4 hown hgrow hb1 A1 VM VM1 BB hi hz0 hz1 hz2
 generalize w1.heap.size = G at *
 go_loopw [18] (fun vi wr => ∃ i : Nat, i ≤ k ∧ vi = .int .i64 (i : Int) ∧ VArr wr G k i (mean0 T N) ∧ V3 wr (w.heap.size + 1) (.bool false) (.slice none 0 0) (.slice none 0 0) ∧ Below w.heap.size w wr) (fun vi _ => k - (intOf vi).toNat)
 case atStart => exact ⟨0, by omega, rfl, VA, VR, BB1⟩
 case round =>
  clear VA BB1 VR
  obtain ⟨i, hi, rfl, VA, VR, BB⟩ := hrel
  by_cases hlt : i < k
  ·have g1 : (i : Int) < (k : Int) := by omega
   have g0 : (0 : Int) ≤ (i : Int) := by omega
   obtain ⟨b, off, cc, a, d, hvv, hcc, XC0, TR0⟩ := HM0.out.at hlt
   cases hvv
   have XC : wr.cell? ⟨b, off + i, none⟩ = some (.slice a (N i) d) := (BB.cell (p := ⟨b, off + i, none⟩) (World.block_lt_of_cell? _ _ XC0)).trans XC0
   have HMT : Hid (MayT F (T i) (N i)) := HMY.out i hlt
   have HTR : Hid (TRow w (.slice a (N i) d) (N i) (T i) L) := TR0
   have HMV : Hid (mean0 T N i = ws (T i) (N i) 0 / (T i 0).cov) := rfl
   have hn0 : 0 < N i := HMT.out.pos
   have hn255 : N i ≤ 255 := HMT.out.few
   generalize N i = n at *
   generalize T i = t at *
   have hnC : n * C ≤ 10000 := Nat.le_trans (Nat.mul_le_mul_right C hn255) hCn
   have hNC : 1 ≤ n * C := Nat.le_trans (by omega) (Nat.mul_le_mul hn0 hC)
   have hLC : L ≤ n * C := Nat.le_trans (by omega) (Nat.mul_le_mul hn0 hC)
   have hcn : (t 0).cov ≠ 0 := fun e => by have := HMT.out.cov 0 hn0; rw [e] at this; exact absurd this (by decide)
   clear XC0 TR0
   go_wp2
   clear XC
   obtain ⟨b9, off9, cc9, p1, a1, n1, c1, b1, m1, d1, p2, a2, n2, c2, b2, m2, d2, p3, a3, n3, c3, b3, m3, d3, hvv, hcc9, hc6, NN, r1, r2, rc, i1, i2, i3⟩ := (HTR.out.below BB).at hn0
   cases hvv
   have X0 : E3 wr b9 (off9 + 11) (.bool p3) (.slice a3 n3 c3) (.slice b3 m3 d3) := by simpa using (show E3 wr b9 (off9 + 0 * 14 + 11) _ _ _ from ⟨NN.c11, NN.c12, NN.c13⟩)
   have f1 : (0 : Int) < (n : Int) := by omega
   have ht := HT0.out.below BB
   clear NN r1 r2 i1 i2 i3
   refine wp_region_until 11 #[true, true, true, true, true, true, true, true, true, true, true, false, false] (fun aF lsd a' w' => ∃ vu0 vu1 vu2 vu3 vu4 vu5 vu6 vu7 vu8 vu9 vu10 : Value, a' = ((((((((((aF.put (some 23) vu0).put (some 24) vu1).put (some 25) vu2).put (some 26) vu3).put (some 27) vu4).put (some 28) vu5).put (some 29) vu6).put (some 30) vu7).put (some 31) vu8).put (some 32) vu9).put (some 33) vu10 ∧ Below wr.heap.size wr w' ∧ (lsd.getD 0 false = true → vu0 = .slice (some ⟨G, 0, none⟩) k k) ∧ (lsd.getD 1 false = true → vu1 = .int .i64 (i : Int)) ∧ (lsd.getD 2 false = true → vu2 = .slice (some ⟨b9, off9, none⟩) n d) ∧ (lsd.getD 3 false = true → SumV w' vu3 n (ws t n) (n * C)) ∧ (lsd.getD 4 false = true → PtrV w' vu4 n (ws t n) (n * C)) ∧ (lsd.getD 5 false = true → RatAt w' vu5 (ws t n 0) (n * C)) ∧ (lsd.getD 6 false = true → vu6 = .slice (some ⟨b9, off9, none⟩) n d) ∧ (lsd.getD 7 false = true → vu7 = .pointer (some ⟨b9, off9, none⟩)) ∧ (lsd.getD 8 false = true → vu8 = .pointer (some ⟨b9, off9 + 11, none⟩)) ∧ (lsd.getD 9 false = true → vu9 = .agg #[.bool p3, .slice a3 n3 c3, .slice b3 m3 d3]) ∧ (lsd.getD 10 false = true → RepQ w' vu10 (ws t n 0 / (t 0).cov))) (by kernel_rfl) (by decide) (by kernel_rfl) (by rfl) (by kernel_rfl) ?_ ?_ ?_
   ·exact ⟨_, _, _, _, _, _, _, _, _, _, _, by simp only [Act.put, xL4, xL5, xL6]; rfl, (Below.refl _ _).drew, fun h => absurd h (fun h => mark_none h), fun h => absurd h (fun h => mark_none h), fun h => absurd h (fun h => mark_none h), fun h => absurd h (fun h => mark_none h), fun h => absurd h (fun h => mark_none h), fun h => absurd h (fun h => mark_none h), fun h => absurd h (fun h => mark_none h), fun h => absurd h (fun h => mark_none h), fun h => absurd h (fun h => mark_none h), fun h => absurd h (fun h => mark_none h), fun h => absurd h (fun h => mark_none h)⟩
   ·rintro lsd au wn iu hszu ⟨vu0, vu1, vu2, vu3, vu4, vu5, vu6, vu7, vu8, vu9, vu10, rfl, hbu, fu0, fu1, fu2, fu3, fu4, fu5, fu6, fu7, fu8, fu9, fu10⟩ himu hru
    rcases (show iu = 0 ∨ iu = 1 ∨ iu = 2 ∨ iu = 3 ∨ iu = 4 ∨ iu = 5 ∨ iu = 6 ∨ iu = 7 ∨ iu = 8 ∨ iu = 9 ∨ iu = 10 by omega) with rfl | rfl | rfl | rfl | rfl | rfl | rfl | rfl | rfl | rfl | rfl
    ·refine wpOp_shut (by rfl) (fun K hK => ?_)
     simp only [Act.put, xL4, xL5, xL6]
     go_simp
     exact hK.out _ _ ⟨(.slice (some ⟨G, 0, none⟩) k k), vu1, vu2, vu3, vu4, vu5, vu6, vu7, vu8, vu9, vu10, by simp only [Act.put, xL4, xL5, xL6], hbu, fun _ => rfl, fun h => fu1 (mark_of (by decide) h), fun h => fu2 (mark_of (by decide) h), fun h => fu3 (mark_of (by decide) h), fun h => fu4 (mark_of (by decide) h), fun h => fu5 (mark_of (by decide) h), fun h => fu6 (mark_of (by decide) h), fun h => fu7 (mark_of (by decide) h), fun h => fu8 (mark_of (by decide) h), fun h => fu9 (mark_of (by decide) h), fun h => fu10 (mark_of (by decide) h)⟩
    ·refine wpOp_shut (by rfl) (fun K hK => ?_)
     simp only [Act.put, xL4, xL5, xL6]
     go_simp
     exact hK.out _ _ ⟨vu0, (.int .i64 (i : Int)), vu2, vu3, vu4, vu5, vu6, vu7, vu8, vu9, vu10, by simp only [Act.put, xL4, xL5, xL6], hbu, fun h => fu0 (mark_of (by decide) h), fun _ => rfl, fun h => fu2 (mark_of (by decide) h), fun h => fu3 (mark_of (by decide) h), fun h => fu4 (mark_of (by decide) h), fun h => fu5 (mark_of (by decide) h), fun h => fu6 (mark_of (by decide) h), fun h => fu7 (mark_of (by decide) h), fun h => fu8 (mark_of (by decide) h), fun h => fu9 (mark_of (by decide) h), fun h => fu10 (mark_of (by decide) h)⟩
    ·refine wpOp_shut (by rfl) (fun K hK => ?_)
     simp only [Act.put, xL4, xL5, xL6]
     go_simp
     exact hK.out _ _ ⟨vu0, vu1, (.slice (some ⟨b9, off9, none⟩) n d), vu3, vu4, vu5, vu6, vu7, vu8, vu9, vu10, by simp only [Act.put, xL4, xL5, xL6], hbu, fun h => fu0 (mark_of (by decide) h), fun h => fu1 (mark_of (by decide) h), fun _ => rfl, fun h => fu3 (mark_of (by decide) h), fun h => fu4 (mark_of (by decide) h), fun h => fu5 (mark_of (by decide) h), fun h => fu6 (mark_of (by decide) h), fun h => fu7 (mark_of (by decide) h), fun h => fu8 (mark_of (by decide) h), fun h => fu9 (mark_of (by decide) h), fun h => fu10 (mark_of (by decide) h)⟩
    ·have eu2 := fu2 (dep_of 2 hru rfl (by kernel_rfl))
     replace eu2 := eu2.symm
     subst eu2
     refine wpOp_shut (by rfl) (fun K hK => ?_)
     simp only [Act.put, xL4, xL5, xL6]
     have ht := ht.below hbu
     go_simp
     refine (sums_at F _ n t L C _ ((HTR.out.below BB).below hbu) HMT.out hF64 ht hL hC (by omega)).mono ?_
     rintro eu wx ⟨g5, rfl, hg5, G5, bu⟩
     have S3 : SumV wx _ n (ws t n) (n * C) := ⟨g5, rfl, G5⟩
     go_wp2_with fail
     have hbu2 := hbu.trans (bu.mono hbu.size)
     exact hK.out _ _ ⟨vu0, vu1, (.slice (some ⟨b9, off9, none⟩) n d), _, vu4, vu5, vu6, vu7, vu8, vu9, vu10, by simp only [Act.put, xL4, xL5, xL6], hbu2, fun h => fu0 (mark_of (by decide) h), fun h => fu1 (mark_of (by decide) h), fun _ => rfl, fun _ => S3, fun h => (fu4 (mark_of (by decide) h)).below bu, fun h => (fu5 (mark_of (by decide) h)).below bu, fun h => fu6 (mark_of (by decide) h), fun h => fu7 (mark_of (by decide) h), fun h => fu8 (mark_of (by decide) h), fun h => fu9 (mark_of (by decide) h), fun h => (fu10 (mark_of (by decide) h)).below bu⟩
    ·have S3 := fu3 (dep_of 3 hru rfl (by kernel_rfl))
     obtain ⟨g5, rfl, G5⟩ := S3
     refine wpOp_shut (by rfl) (fun K hK => ?_)
     simp only [Act.put, xL4, xL5, xL6]
     go_simp
     exact hK.out _ _ ⟨vu0, vu1, vu2, (.slice (some ⟨g5, 0, none⟩) n n), (.pointer (some ⟨g5, 0, none⟩)), vu5, vu6, vu7, vu8, vu9, vu10, by simp only [Act.put, xL4, xL5, xL6], hbu, fun h => fu0 (mark_of (by decide) h), fun h => fu1 (mark_of (by decide) h), fun h => fu2 (mark_of (by decide) h), fun h => fu3 (mark_of (by decide) h), fun _ => ⟨g5, rfl, G5⟩, fun h => fu5 (mark_of (by decide) h), fun h => fu6 (mark_of (by decide) h), fun h => fu7 (mark_of (by decide) h), fun h => fu8 (mark_of (by decide) h), fun h => fu9 (mark_of (by decide) h), fun h => fu10 (mark_of (by decide) h)⟩
    ·have P4 := fu4 (dep_of 4 hru rfl (by kernel_rfl))
     obtain ⟨g5, rfl, G5⟩ := P4
     obtain ⟨p5, a5, n5, c5, b5, m5, d5, e50, e51, e52, R5⟩ := G5.at hn0
     simp only [Nat.zero_mul, Nat.zero_add] at e50 e51 e52
     refine wpOp_shut (by rfl) (fun K hK => ?_)
     simp only [Act.put, xL4, xL5, xL6]
     go_simp
     exact hK.out _ _ ⟨vu0, vu1, vu2, vu3, (.pointer (some ⟨g5, 0, none⟩)), (.agg #[.bool p5, .slice a5 n5 c5, .slice b5 m5 d5]), vu6, vu7, vu8, vu9, vu10, by simp only [Act.put, xL4, xL5, xL6], hbu, fun h => fu0 (mark_of (by decide) h), fun h => fu1 (mark_of (by decide) h), fun h => fu2 (mark_of (by decide) h), fun h => fu3 (mark_of (by decide) h), fun h => fu4 (mark_of (by decide) h), fun _ => R5, fun h => fu6 (mark_of (by decide) h), fun h => fu7 (mark_of (by decide) h), fun h => fu8 (mark_of (by decide) h), fun h => fu9 (mark_of (by decide) h), fun h => fu10 (mark_of (by decide) h)⟩
    ·refine wpOp_shut (by rfl) (fun K hK => ?_)
     simp only [Act.put, xL4, xL5, xL6]
     go_simp
     exact hK.out _ _ ⟨vu0, vu1, vu2, vu3, vu4, vu5, (.slice (some ⟨b9, off9, none⟩) n d), vu7, vu8, vu9, vu10, by simp only [Act.put, xL4, xL5, xL6], hbu, fun h => fu0 (mark_of (by decide) h), fun h => fu1 (mark_of (by decide) h), fun h => fu2 (mark_of (by decide) h), fun h => fu3 (mark_of (by decide) h), fun h => fu4 (mark_of (by decide) h), fun h => fu5 (mark_of (by decide) h), fun _ => rfl, fun h => fu7 (mark_of (by decide) h), fun h => fu8 (mark_of (by decide) h), fun h => fu9 (mark_of (by decide) h), fun h => fu10 (mark_of (by decide) h)⟩
    ·have eu6 := fu6 (dep_of 6 hru rfl (by kernel_rfl))
     replace eu6 := eu6.symm
     subst eu6
     refine wpOp_shut (by rfl) (fun K hK => ?_)
     simp only [Act.put, xL4, xL5, xL6]
     go_simp
     exact hK.out _ _ ⟨vu0, vu1, vu2, vu3, vu4, vu5, (.slice (some ⟨b9, off9, none⟩) n d), (.pointer (some ⟨b9, off9, none⟩)), vu8, vu9, vu10, by simp only [Act.put, xL4, xL5, xL6], hbu, fun h => fu0 (mark_of (by decide) h), fun h => fu1 (mark_of (by decide) h), fun h => fu2 (mark_of (by decide) h), fun h => fu3 (mark_of (by decide) h), fun h => fu4 (mark_of (by decide) h), fun h => fu5 (mark_of (by decide) h), fun _ => rfl, fun _ => rfl, fun h => fu8 (mark_of (by decide) h), fun h => fu9 (mark_of (by decide) h), fun h => fu10 (mark_of (by decide) h)⟩
    ·have eu7 := fu7 (dep_of 7 hru rfl (by kernel_rfl))
     replace eu7 := eu7.symm
     subst eu7
     refine wpOp_shut (by rfl) (fun K hK => ?_)
     simp only [Act.put, xL4, xL5, xL6]
     go_simp
     exact hK.out _ _ ⟨vu0, vu1, vu2, vu3, vu4, vu5, vu6, (.pointer (some ⟨b9, off9, none⟩)), (.pointer (some ⟨b9, off9 + 11, none⟩)), vu9, vu10, by simp only [Act.put, xL4, xL5, xL6], hbu, fun h => fu0 (mark_of (by decide) h), fun h => fu1 (mark_of (by decide) h), fun h => fu2 (mark_of (by decide) h), fun h => fu3 (mark_of (by decide) h), fun h => fu4 (mark_of (by decide) h), fun h => fu5 (mark_of (by decide) h), fun h => fu6 (mark_of (by decide) h), fun _ => rfl, fun _ => rfl, fun h => fu9 (mark_of (by decide) h), fun h => fu10 (mark_of (by decide) h)⟩
    ·have eu8 := fu8 (dep_of 8 hru rfl (by kernel_rfl))
     replace eu8 := eu8.symm
     subst eu8
     refine wpOp_shut (by rfl) (fun K hK => ?_)
     simp only [Act.put, xL4, xL5, xL6]
     obtain ⟨X0_0, X0_1, X0_2⟩ := X0.below hbu
     go_simp
     exact hK.out _ _ ⟨vu0, vu1, vu2, vu3, vu4, vu5, vu6, vu7, (.pointer (some ⟨b9, off9 + 11, none⟩)), (.agg #[.bool p3, .slice a3 n3 c3, .slice b3 m3 d3]), vu10, by simp only [Act.put, xL4, xL5, xL6], hbu, fun h => fu0 (mark_of (by decide) h), fun h => fu1 (mark_of (by decide) h), fun h => fu2 (mark_of (by decide) h), fun h => fu3 (mark_of (by decide) h), fun h => fu4 (mark_of (by decide) h), fun h => fu5 (mark_of (by decide) h), fun h => fu6 (mark_of (by decide) h), fun h => fu7 (mark_of (by decide) h), fun _ => rfl, fun _ => rfl, fun h => fu10 (mark_of (by decide) h)⟩
    ·have eu9 := fu9 (dep_of 9 hru rfl (by kernel_rfl))
     replace eu9 := eu9.symm
     subst eu9
     have S3 := fu3 (dep_of 3 hru rfl (by kernel_rfl))
     have R5 := fu5 (dep_of 5 hru rfl (by kernel_rfl))
     refine wpOp_shut (by rfl) (fun K hK => ?_)
     simp only [Act.put, xL4, xL5, xL6]
     have ht := ht.below hbu
     have rc := rc.below hbu
     go_simp
     refine (share_at _ _ (ws t n 0) (t 0).cov (n * C) _ R5 (rc.le hLC) hNC (by omega) ht hcn).mono ?_
     rintro eu wx ⟨x6, rfl, hx, bu⟩
     go_wp2_with fail
     have hbu2 := hbu.trans (bu.mono hbu.size)
     exact hK.out _ _ ⟨vu0, vu1, vu2, vu3, vu4, vu5, vu6, vu7, vu8, (.agg #[.bool p3, .slice a3 n3 c3, .slice b3 m3 d3]), _, by simp only [Act.put, xL4, xL5, xL6], hbu2, fun h => fu0 (mark_of (by decide) h), fun h => fu1 (mark_of (by decide) h), fun h => fu2 (mark_of (by decide) h), fun h => (fu3 (mark_of (by decide) h)).below bu, fun h => (fu4 (mark_of (by decide) h)).below bu, fun h => (fu5 (mark_of (by decide) h)).below bu, fun h => fu6 (mark_of (by decide) h), fun h => fu7 (mark_of (by decide) h), fun h => fu8 (mark_of (by decide) h), fun _ => rfl, fun _ => hx⟩
   rintro au Wu51 ⟨vu0, vu1, vu2, vu3, vu4, vu5, vu6, vu7, vu8, vu9, vu10, rfl, hbu, fu0, fu1, fu2, fu3, fu4, fu5, fu6, fu7, fu8, fu9, fu10⟩
   have eu0 := (fu0 rfl).symm
   subst eu0
   have eu1 := (fu1 rfl).symm
   subst eu1
   have eu2 := (fu2 rfl).symm
   subst eu2
   have S3 := fu3 rfl
   have P4 := fu4 rfl
   have R5 := fu5 rfl
   have eu6 := (fu6 rfl).symm
   subst eu6
   have eu7 := (fu7 rfl).symm
   subst eu7
   have eu8 := (fu8 rfl).symm
   subst eu8
   have eu9 := (fu9 rfl).symm
   subst eu9
   have hx := fu10 rfl
   clear fu0 fu1 fu2 fu3 fu4 fu5 fu6 fu7 fu8 fu9 fu10
   have hlX0 : b9 < wr.heap.size := X0.lt
   replace VA := VA.below hbu
   replace VR := VR.below hbu
   replace ht := ht.below hbu
   replace rc := rc.below hbu
   replace X0 := X0.below hbu
   replace BB := BB.trans (hbu.mono BB.size)
   clear hbu
   rw [← HMV.out] at hx
   obtain ⟨p6, a6, n6, c6, b6, m6, d6, rfl⟩ := hx.open
   simp only [Act.put, xL4, xL5, xL6]
   refine wpAnyH_ready (rs := [11]) (by kernel_rfl) (by simp) ?_
   refine AllReadyH.cons (by rfl) (fun K hK => ?_) AllReadyH.nil
   go_simp
   refine hK.out _ _ trivial (fun _ => ?_)
   clear hK K
   simp only [Act.put, xL4, xL5, xL6]
   refine wpAnyH_ready (rs := [12]) (by kernel_rfl) (by simp) ?_
   refine AllReadyH.cons (by rfl) (fun K hK => ?_) AllReadyH.nil
   obtain ⟨u0, u1, u2, x0, x1, x2, y0, y1, y2, VA2⟩ := VA.put hlt hx
   have BB2 : Below w.heap.size w (((Wu51.setCell ⟨G, i * 3, none⟩ (.bool p6)).setCell ⟨G, i * 3 + 1, none⟩ (.slice a6 n6 c6)).setCell ⟨G, i * 3 + 2, none⟩ (.slice b6 m6 d6)) := ((BB.setCell hGB _).setCell hGB _).setCell hGB _
   go_simp
   clear x0 x1 x2 y0 y1 y2
   refine hK.out _ _ trivial (fun _ => ?_)
   clear hK K
   simp only [Act.put, xL4, xL5, xL6]
   refine wpAnyH_done (by kernel_rfl) ?_ _
   have VR2 : V3 (((Wu51.setCell ⟨G, i * 3, none⟩ (.bool p6)).setCell ⟨G, i * 3 + 1, none⟩ (.slice a6 n6 c6)).setCell ⟨G, i * 3 + 2, none⟩ (.slice b6 m6 d6)) (w.heap.size + 1) (.bool false) (.slice none 0 0) (.slice none 0 0) := VR.block11 (put3_block _ _ _ _ _ _ _ hGR)
   go_wp2
   go_roundw
   case rel => exact ⟨i + 1, by omega, by go_num, VA2, VR2, BB2⟩
   case measure => simp [intOf]; omega
  ·obtain rfl : i = k := by omega
   have g1 : ¬ (i : Int) < (i : Int) := by omega
   have HSQ : ∀ j, j < i → qsz (mean0 T N j) ≤ 10000 + L := fun j hj => by
    obtain ⟨b, off, cc, a, d, hvv, hcc, XC0, TR0⟩ := HM0.out.at hj
    have hm := HMY.out j hj
    have h1 : qsz (ws (T j) (N j) 0) ≤ 10000 := ws_sz hm (fun i hi => TR0.sz11 hL hi) hC (Nat.le_trans (Nat.mul_le_mul_right C hm.few) hCn) hm.pos
    exact qsz_div _ _ h1 (TR0.sz11 hL hm.pos).2
   have hv := VA.full (L := 10000 + L) (by omega) HSQ
   have ht := HT0.out.below BB
   go_wp2_with fail
   have hMM : i * (10000 + L + 1) + 1 ≤ 100000 := by
    have := Nat.mul_le_mul_right (10000 + L + 1) hk
    omega
   refine (qsum_any (10000 + L) 100000 (by omega) (by omega) (by omega) i _ _ _ hv ht hMM).mono ?_
   rintro e w7 ⟨x7, rfl, h7, b7⟩
   replace VR := VR.below b7
   replace BB := BB.trans (b7.mono BB.size)
   obtain ⟨p7, a7, n7, c7, y7, m7, d7, rfl⟩ := h7.open
   have hKp := VR.keepJ (.bool p7) (.slice a7 n7 c7) (.slice y7 m7 d7)
   have h7n := h7.keep hKp
   have BBn := below_store3 (R := w.heap.size + 1) BB (by omega) (.bool p7) (.slice a7 n7 c7) (.slice y7 m7 d7)
   obtain ⟨z1, z2, z3, z4, z5, z6⟩ := id VR
   clear hv VA h7 hKp HSQ
   go_wp2
   (try simp only [Exit.inBlock, Exit.then])
   refine bodyPost_ret (v := .tuple #[.agg #[.bool p7, .slice a7 n7 c7, .slice y7 m7 d7], .int .i64 0]) (by simp [results, go_sem, z1, z2, z3]) rfl ?_
   exact ⟨_, rfl, h7n, BBn⟩

def ex11 (i : Nat) : Nd := if i = 0 then ⟨false, 0, 0, 1, 2, false, 0, ((4 : Int) : Rat)⟩ else if i = 1 then ⟨true, 0, 0, 0, 0, false, 0, 1⟩ else ⟨true, 0, 0, 0, 0, false, 1, ((3 : Int) : Rat)⟩
theorem ex11_may : mayB 1 1 (fun _ => 3) (fun _ => ex11) = true := by
 unfold mayB
 refine @decide_eq_true _ (Classical.propDecidable _) (.inr ⟨by decide +kernel, none, .inl ⟨rfl, fun r hr i hi => ?_⟩, rfl⟩)
 obtain rfl : i = 0 := by omega
 rcases (by omega : r = 0 ∨ r = 1 ∨ r = 2 ∨ r = 3) with rfl | rfl | rfl | rfl <;> decide +kernel
theorem ex11_sum : sumq (mean0 (fun _ => ex11) (fun _ => 3)) 1 = ((3 : Int) : Rat) / ((4 : Int) : Rat) := by decide +kernel
theorem ex11_sz : qsz (((3 : Int) : Rat) / ((4 : Int) : Rat)) ≤ 2 := by decide +kernel
theorem zero_atn11 (w : World) : AtN w (.bool false) (.slice none 0 0) (.slice none 0 0) 0 4 := by
 have h := RatAt.raw (p := false) (K := 4) (Nums.nil .u64 w (fun _ => 0)) (fun i hi => by omega) (Nums.nil .u64 w (fun _ => 0)) (fun i hi => by omega) (by omega) (by omega)
 exact ⟨false, none, 0, 0, none, 0, 0, rfl, rfl, rfl, h⟩
theorem ex11_lay (w : World) {p1 : Bool} {a1 y1 : Option Addr} {n1 c1 m1 d1 : Nat} {p2 : Bool} {a2 y2 : Option Addr} {n2 c2 m2 d2 : Nat} {p3 : Bool} {a3 y3 : Option Addr} {n3 c3 m3 d3 : Nat} {p4 : Bool} {a4 y4 : Option Addr} {n4 c4 m4 d4 : Nat} (h1 : RepQ w (.agg #[.bool p1, .slice a1 n1 c1, .slice y1 m1 d1]) ((4 : Int) : Rat)) (h2 : RepQ w (.agg #[.bool p2, .slice a2 n2 c2, .slice y2 m2 d2]) 1) (h3 : RepQ w (.agg #[.bool p3, .slice a3 n3 c3, .slice y3 m3 d3]) 1) (h4 : RepQ w (.agg #[.bool p4, .slice a4 n4 c4, .slice y4 m4 d4]) ((3 : Int) : Rat)) :
  ∃ W, W = (w.alloc (.cells #[.bool false, .int .i64 0, .bool false, .slice none 0 0, .slice none 0 0, .int .i64 1, .int .i64 2, .bool false, .bool false, .slice none 0 0, .slice none 0 0, .bool p1, .slice a1 n1 c1, .slice y1 m1 d1, .bool true, .int .i64 0, .bool false, .slice none 0 0, .slice none 0 0, .int .i64 0, .int .i64 0, .bool false, .bool false, .slice none 0 0, .slice none 0 0, .bool p2, .slice a2 n2 c2, .slice y2 m2 d2, .bool true, .int .i64 0, .bool false, .slice none 0 0, .slice none 0 0, .int .i64 0, .int .i64 0, .bool false, .bool p3, .slice a3 n3 c3, .slice y3 m3 d3, .bool p4, .slice a4 n4 c4, .slice y4 m4 d4] 58)).alloc (.cells #[.slice (some ⟨w.heap.size, 0, none⟩) 3 3] 47) ∧ Below w.heap.size w W ∧ W.heap.size = w.heap.size + 2 ∧ MRow W (.slice (some ⟨w.heap.size + 1, 0, none⟩) 1 1) 1 (fun _ => 3) (fun _ => ex11) 4 := by
 obtain ⟨W1, hW1⟩ : ∃ W1, W1 = w.alloc (.cells #[.bool false, .int .i64 0, .bool false, .slice none 0 0, .slice none 0 0, .int .i64 1, .int .i64 2, .bool false, .bool false, .slice none 0 0, .slice none 0 0, .bool p1, .slice a1 n1 c1, .slice y1 m1 d1, .bool true, .int .i64 0, .bool false, .slice none 0 0, .slice none 0 0, .int .i64 0, .int .i64 0, .bool false, .bool false, .slice none 0 0, .slice none 0 0, .bool p2, .slice a2 n2 c2, .slice y2 m2 d2, .bool true, .int .i64 0, .bool false, .slice none 0 0, .slice none 0 0, .int .i64 0, .int .i64 0, .bool false, .bool p3, .slice a3 n3 c3, .slice y3 m3 d3, .bool p4, .slice a4 n4 c4, .slice y4 m4 d4] 58) := ⟨_, rfl⟩
 have hb1 := heap_alloc_new w (.cells #[.bool false, .int .i64 0, .bool false, .slice none 0 0, .slice none 0 0, .int .i64 1, .int .i64 2, .bool false, .bool false, .slice none 0 0, .slice none 0 0, .bool p1, .slice a1 n1 c1, .slice y1 m1 d1, .bool true, .int .i64 0, .bool false, .slice none 0 0, .slice none 0 0, .int .i64 0, .int .i64 0, .bool false, .bool false, .slice none 0 0, .slice none 0 0, .bool p2, .slice a2 n2 c2, .slice y2 m2 d2, .bool true, .int .i64 0, .bool false, .slice none 0 0, .slice none 0 0, .int .i64 0, .int .i64 0, .bool false, .bool p3, .slice a3 n3 c3, .slice y3 m3 d3, .bool p4, .slice a4 n4 c4, .slice y4 m4 d4] 58)
 rw [← hW1] at hb1
 have B1 : Below w.heap.size w W1 := by rw [hW1]; exact (Below.refl _ _).alloc (Nat.le_refl _) _
 have S1 : W1.heap.size = w.heap.size + 1 := by rw [hW1]; simp
 have B2 : Below W1.heap.size W1 (W1.alloc (.cells #[.slice (some ⟨w.heap.size, 0, none⟩) 3 3] 47)) := (Below.refl _ _).alloc (Nat.le_refl _) _
 have q1 : RatAt W1 (.agg #[.bool p1, .slice a1 n1 c1, .slice y1 m1 d1]) ((4 : Int) : Rat) 4 := (h1.below B1).at 4 (by decide +kernel)
 have q2 : RatAt W1 (.agg #[.bool p2, .slice a2 n2 c2, .slice y2 m2 d2]) 1 4 := (h2.below B1).at 4 (by decide +kernel)
 have q3 : RatAt W1 (.agg #[.bool p3, .slice a3 n3 c3, .slice y3 m3 d3]) 1 4 := (h3.below B1).at 4 (by decide +kernel)
 have q4 : RatAt W1 (.agg #[.bool p4, .slice a4 n4 c4, .slice y4 m4 d4]) ((3 : Int) : Rat) 4 := (h4.below B1).at 4 (by decide +kernel)
 have z64 : I64 0 := by unfold I64; omega
 have o64 : I64 1 := by unfold I64; omega
 have t64 : I64 2 := by unfold I64; omega
 have TR : TRow W1 (.slice (some ⟨w.heap.size, 0, none⟩) 3 3) 3 ex11 4 := by
  refine ⟨fun i j => if i = 0 then [.bool false, .int .i64 0, .bool false, .slice none 0 0, .slice none 0 0, .int .i64 1, .int .i64 2, .bool false, .bool false, .slice none 0 0, .slice none 0 0, .bool p1, .slice a1 n1 c1, .slice y1 m1 d1].getD j undef else if i = 1 then [.bool true, .int .i64 0, .bool false, .slice none 0 0, .slice none 0 0, .int .i64 0, .int .i64 0, .bool false, .bool false, .slice none 0 0, .slice none 0 0, .bool p2, .slice a2 n2 c2, .slice y2 m2 d2].getD j undef else [.bool true, .int .i64 0, .bool false, .slice none 0 0, .slice none 0 0, .int .i64 0, .int .i64 0, .bool false, .bool p3, .slice a3 n3 c3, .slice y3 m3 d3, .bool p4, .slice a4 n4 c4, .slice y4 m4 d4].getD j undef, ⟨_, _, rfl, by omega, by omega, fun _ => ⟨_, _, rfl, fun i hi j hj => ?_⟩⟩, fun i hi => ?_⟩
  ·rw [cell_of_row _ _ _ _ _ _ hb1]
   rcases (by omega : i = 0 ∨ i = 1 ∨ i = 2) with rfl | rfl | rfl <;> rcases (by omega : j = 0 ∨ j = 1 ∨ j = 2 ∨ j = 3 ∨ j = 4 ∨ j = 5 ∨ j = 6 ∨ j = 7 ∨ j = 8 ∨ j = 9 ∨ j = 10 ∨ j = 11 ∨ j = 12 ∨ j = 13) with rfl | rfl | rfl | rfl | rfl | rfl | rfl | rfl | rfl | rfl | rfl | rfl | rfl | rfl <;> rfl
  ·rcases (by omega : i = 0 ∨ i = 1 ∨ i = 2) with rfl | rfl | rfl
   ·exact ⟨rfl, rfl, zero_atn11 _, rfl, rfl, rfl, zero_atn11 _, ⟨p1, a1, n1, c1, y1, m1, d1, rfl, rfl, rfl, q1⟩, z64, o64, t64⟩
   ·exact ⟨rfl, rfl, zero_atn11 _, rfl, rfl, rfl, zero_atn11 _, ⟨p2, a2, n2, c2, y2, m2, d2, rfl, rfl, rfl, q2⟩, z64, z64, z64⟩
   ·exact ⟨rfl, rfl, zero_atn11 _, rfl, rfl, rfl, ⟨p3, a3, n3, c3, y3, m3, d3, rfl, rfl, rfl, q3⟩, ⟨p4, a4, n4, c4, y4, m4, d4, rfl, rfl, rfl, q4⟩, z64, z64, z64⟩
 refine ⟨_, rfl, ?_, ?_, ?_⟩
 ·rw [← hW1]; exact B1.trans (B2.mono B1.size)
 ·simp
 ·rw [← hW1, ← S1]
  exact one_tree TR 47


set_option maxRecDepth 100000 in
set_option maxHeartbeats 8000000 in
theorem awake11_at (w : World) (ht : Tab w) :
  Calls Tryz.prog 12 #[] w fun e w' => e = .returned (.bool true) ∧ Below w.heap.size w w' := by
 have BB : Below w.heap.size w w := Below.refl _ _
 go_enter Tryz.func12, Tryz.ntmps12
 go_wp2_with fail
 refine (qof_at 4 _ (by omega) (by omega)).mono ?_
 rintro e w1 ⟨v1, rfl, h1, b1⟩
 replace ht := ht.below b1
 replace BB := BB.trans (b1.mono BB.size)
 clear b1
 obtain ⟨p1, a1, n1, c1, y1, m1, d1, rfl⟩ := h1.open
 go_wp2_with fail
 refine (qone_at _).mono ?_
 rintro e w2 ⟨v2, rfl, h2, b2⟩
 replace ht := ht.below b2
 replace h1 := h1.below b2
 replace BB := BB.trans (b2.mono BB.size)
 clear b2
 obtain ⟨p2, a2, n2, c2, y2, m2, d2, rfl⟩ := h2.open
 go_wp2_with fail
 refine (qone_at _).mono ?_
 rintro e w3 ⟨v3, rfl, h3, b3⟩
 replace ht := ht.below b3
 replace h1 := h1.below b3
 replace h2 := h2.below b3
 replace BB := BB.trans (b3.mono BB.size)
 clear b3
 obtain ⟨p3, a3, n3, c3, y3, m3, d3, rfl⟩ := h3.open
 go_wp2_with fail
 refine (qof_at 3 _ (by omega) (by omega)).mono ?_
 rintro e w4 ⟨v4, rfl, h4, b4⟩
 replace ht := ht.below b4
 replace h1 := h1.below b4
 replace h2 := h2.below b4
 replace h3 := h3.below b4
 replace BB := BB.trans (b4.mono BB.size)
 clear b4
 obtain ⟨p4, a4, n4, c4, y4, m4, d4, rfl⟩ := h4.open
 obtain ⟨Wb, hWb, hLb, hSb, MR⟩ := ex11_lay w4 h1 h2 h3 h4
 replace ht := ht.below hLb
 replace BB := BB.trans (hLb.mono BB.size)
 obtain ⟨Wc, hWc, hSc, hLc, VM⟩ := V2.lay Wb 24 (.int .i64 1) (.slice (some ⟨w4.heap.size + 1, 0, none⟩) 1 1)
 replace ht := ht.below hLc
 replace MR := MR.below hLc
 replace BB := BB.trans (hLc.mono BB.size)
 obtain ⟨VM_0, VM_1, VM_2, VM_3⟩ := id VM
 rw [hWc, hWb] at VM_0 VM_1 VM_2 VM_3
 rw [hSb] at hSc
 go_wp2_with fail
 rw [← hWb, ← hWc]
 clear VM_0 VM_1 VM_2 VM_3 hWb hWc hLb hLc VM h1 h2 h3 h4 hSb hSc
 refine (base_yes 1 _ 1 (fun _ => 3) (fun _ => ex11) 4 10 _ MR ht (by omega) (by omega) (by omega) ex11_may (by omega)).mono ?_
 rintro e w5 ⟨v5, rfl, h5, b5⟩
 replace ht := ht.below b5
 replace BB := BB.trans (b5.mono BB.size)
 clear b5
 rw [ex11_sum] at h5
 obtain ⟨p5, a5, n5, c5, y5, m5, d5, rfl⟩ := h5.open
 clear MR
 have hZ1 : w.heap.size ≤ w5.heap.size := BB.size
 obtain ⟨W1, hW1, hS1, hL1, VX⟩ := V3.lay w5 34 (.bool p5) (.slice a5 n5 c5) (.slice y5 m5 d5)
 replace ht := ht.below hL1
 replace h5 := h5.below hL1
 replace BB := BB.trans (hL1.mono BB.size)
 clear hL1
 obtain ⟨VX_0, VX_1, VX_2, VX_3, VX_4, VX_5⟩ := id VX
 rw [hW1] at VX_0 VX_1 VX_2 VX_3 VX_4 VX_5
 go_wp2_with fail
 clear VX_0 VX_1 VX_2 VX_3 VX_4 VX_5
 rw [← hW1]
 generalize w5.heap.size = R1 at *
 clear hW1 hS1
 have hDr : Below W1.heap.size W1 W1.drew := (Below.refl _ _).drew
 replace ht := ht.below hDr
 replace h5 := h5.below hDr
 replace VX := VX.below hDr
 replace BB := BB.trans (hDr.mono BB.size)
 clear hDr
 refine wp_region_held_drew (S := (fun w' => w'.cell? ⟨R1, 0, none⟩ = some (.bool p5) ∧ w'.cell? ⟨R1, 1, none⟩ = some (.slice a5 n5 c5) ∧ w'.cell? ⟨R1, 2, none⟩ = some (.slice y5 m5 d5))) (by kernel_rfl) ?_ (fun hHeld => ?_)
 ·exact ⟨VX.1, VX.2.1, VX.2.2.1⟩
 generalize W1.drew = W2 at *
 refine wpAnyH_take (i := 0) (v := ?_) (by simp only [xL1, xL2, xL3]; rfl) (by kernel_rfl) (by kernel_rfl) (by kernel_rfl) (by exact fun _ _ _ h => h) (Or.inl ⟨by rfl, ?_⟩) (by assumption) ?_
 rotate_left
 ·(intro w hSw; (try dsimp only at hSw); go_simp; (try with_reducible rfl))
 (try simp only [Act.put, xL4, xL5, xL6])
 refine wpAnyH_take (i := 1) (v := ?_) (by simp only [xL1, xL2, xL3]; rfl) (by kernel_rfl) (by kernel_rfl) (by kernel_rfl) (by exact fun _ _ _ h => h) (Or.inl ⟨by rfl, ?_⟩) (by assumption) ?_
 rotate_left
 ·(intro w hSw; (try dsimp only at hSw); go_simp; (try with_reducible rfl))
 (try simp only [Act.put, xL4, xL5, xL6])
 refine wpAnyH_take (i := 2) (v := ?_) (by simp only [xL1, xL2, xL3]; rfl) (by kernel_rfl) (by kernel_rfl) (by kernel_rfl) (by exact fun _ _ _ h => h) (Or.inl ⟨by rfl, ?_⟩) (by assumption) ?_
 rotate_left
 ·(intro w hSw; (try dsimp only at hSw); go_simp; (try with_reducible rfl))
 (try simp only [Act.put, xL4, xL5, xL6])
 refine wpAnyH_take (i := 3) (v := ?_) (by simp only [xL1, xL2, xL3]; rfl) (by kernel_rfl) (by kernel_rfl) (by kernel_rfl) (by exact fun _ _ _ h => h) (Or.inl ⟨by rfl, ?_⟩) (by assumption) ?_
 rotate_left
 ·(intro w hSw; (try dsimp only at hSw); go_simp; (try with_reducible rfl))
 (try simp only [Act.put, xL4, xL5, xL6])
 refine wpAnyH_ready (rs := [4]) (by kernel_rfl) (by simp) ?_
 refine AllReadyH.cons (by simp only [xL1, xL2, xL3]; rfl) (fun K hK => ?_) AllReadyH.nil
 go_simp
 refine (qfrac_at 3 4 _ (by omega) (by omega) (by omega) (by omega) ht).mono ?_
 rintro e w6 ⟨v6, rfl, h6, b6⟩
 obtain ⟨p6, a6, n6, c6, y6, m6, d6, rfl⟩ := h6.open
 go_wp2_with fail
 replace ht := ht.below b6
 replace h5 := h5.below b6
 replace VX := VX.below b6
 replace BB := BB.trans (b6.mono BB.size)
 clear b6
 refine hK.out _ _ ?_ (fun hH1 => ?_)
 ·exact ⟨VX.1, VX.2.1, VX.2.2.1⟩
 clear hK K hHeld
 (try simp only [Act.put, xL4, xL5, xL6])
 refine wpAnyH_ready (rs := [5]) (by kernel_rfl) (by simp) ?_
 refine AllReadyH.cons (by simp only [xL1, xL2, xL3]; rfl) (fun K hK => ?_) AllReadyH.nil
 go_simp
 refine (qsame_at _ _ _ _ 2 _ (h5.at 2 ex11_sz) (h6.at 2 ex11_sz) (by omega) (by omega)).mono ?_
 rintro e w7 ⟨rfl, b7⟩
 rw [decide_eq_true rfl]
 go_wp2_with fail
 replace ht := ht.below b7
 replace h5 := h5.below b7
 replace h6 := h6.below b7
 replace VX := VX.below b7
 replace BB := BB.trans (b7.mono BB.size)
 clear b7
 refine hK.out _ _ ?_ (fun hH2 => ?_)
 ·exact ⟨VX.1, VX.2.1, VX.2.2.1⟩
 clear hK K hH1
 (try simp only [Act.put, xL4, xL5, xL6])
 refine wpAnyH_take (i := 6) (v := ?_) (by simp only [xL1, xL2, xL3]; rfl) (by kernel_rfl) (by kernel_rfl) (by kernel_rfl) (by exact fun _ _ _ h => h) (Or.inl ⟨by rfl, ?_⟩) (by assumption) ?_
 rotate_left
 ·(intro w hSw; (try dsimp only at hSw); go_simp; (try with_reducible rfl))
 (try simp only [Act.put, xL4, xL5, xL6])
 refine wpAnyH_take (i := 7) (v := ?_) (by simp only [xL1, xL2, xL3]; rfl) (by kernel_rfl) (by kernel_rfl) (by kernel_rfl) (by exact fun _ _ _ h => h) (Or.inl ⟨by rfl, ?_⟩) (by assumption) ?_
 rotate_left
 ·(intro w hSw; (try dsimp only at hSw); go_simp; (try with_reducible rfl))
 (try simp only [Act.put, xL4, xL5, xL6])
 refine wpAnyH_done (by kernel_rfl) ?_ _
 clear hH2
 go_wp2
 go_ret
 exact ⟨rfl, BB⟩

theorem lvl_step11 {a b c d : Nat} (l : a = b + 1) (h : c ≤ b + (d + 1)) : c ≤ a + d := by omega
/-- A number and no error. -/
def Tup11 (w : World) (v : Value) (q : Rat) : Prop := ∃ x, v = .tuple #[x, .int .i64 0] ∧ RepQ w x q
theorem Tup11.below {w w' : World} {v : Value} {q : Rat} (h : Tup11 w v q) (hb : Below w.heap.size w w') : Tup11 w' v q := let ⟨x, e, hx⟩ := h; ⟨x, e, hx.below hb⟩
theorem Tup11.keep {w w' : World} {v : Value} {q : Rat} (h : Tup11 w v q) (hk : KeepQ IsNum w w') : Tup11 w' v q := let ⟨x, e, hx⟩ := h; ⟨x, e, hx.keep hk⟩


set_option maxRecDepth 100000 in
set_option maxHeartbeats 16000000 in
theorem lbelow_ind (vt vr : Value) (n nr : Nat) (t : Nat → Nd) (r : Nat → Cl) (s L M : Nat) (hL : 1 ≤ L) (hLM : L ≤ M) (hM : M ≤ 10000) (hs : s < 18446744073709551616) (hnr : nr ≤ 64) (hm : MayT (nr : Int) t n) (hS : ∀ x, x < n → qsz (say t n r s x) ≤ M) : ∀ (k x : Nat) (w : World), x < n → n + 1 ≤ lvl t n x + k → TRow w vt n t L → CRow w vr nr r L → Tab w →
  Calls Tryz.prog 40 #[vt, .int .i64 (x : Int), vr, .int .u64 (s : Int)] w fun e w' => ∃ v, e = .returned v ∧ RatAt w' v (say t n r s x) M ∧ Below w.heap.size w w' := by
 intro k
 induction k with
 | zero =>
  intro x w hx hk
  have := hm.lvl_le hx
  omega
 | succ k ih =>
  intro x w hx hk ht hr hT
  obtain ⟨ao, ct, rfl, htc, ht63⟩ := ht.open
  obtain ⟨ar, cr, rfl, hrc, hr63⟩ := hr.open
  have BB : Below w.heap.size w w := Below.refl _ _
  have g0 : (0 : Int) ≤ (x : Int) := by omega
  have g1 : (x : Int) < (n : Int) := by omega
  have hn255 := hm.few
  obtain ⟨b, off, cc, p1, a1, n1, c1, b1, m1, d1, p2, a2, n2, c2, b2, m2, d2, p3, a3, n3, c3, b3, m3, d3, hvv, hcc, hc6, NN, r1, r2, r3, i1, i2, i3⟩ := ht.at hx
  cases hvv
  have r2w := r2
  obtain ⟨W0, hW0, hS0, hL0, VR⟩ := V3.lay w 34 (.bool false) (.slice none 0 0) (.slice none 0 0)
  replace ht := ht.below hL0
  replace hr := hr.below hL0
  replace hT := hT.below hL0
  replace NN := NN.below hL0
  replace r1 := r1.below hL0
  replace r2 := r2.below hL0
  replace r3 := r3.below hL0
  replace BB := BB.trans (hL0.mono BB.size)
  clear hL0
  obtain ⟨lf, hlf⟩ : ∃ z, (t x).leaf = z := ⟨_, rfl⟩
  rw [hlf] at NN
  obtain ⟨W1, hW1, hS1, hL1, VN, FN⟩ := V14.lay W0 58 (.bool lf) (.int .i64 (t x).feat) (.bool p1) (.slice a1 n1 c1) (.slice b1 m1 d1) (.int .i64 (t x).left) (.int .i64 (t x).right) (.bool (t x).miss) (.bool p2) (.slice a2 n2 c2) (.slice b2 m2 d2) (.bool p3) (.slice a3 n3 c3) (.slice b3 m3 d3)
  replace ht := ht.below hL1
  replace hr := hr.below hL1
  replace hT := hT.below hL1
  replace r1 := r1.below hL1
  replace r2 := r2.below hL1
  replace r3 := r3.below hL1
  replace VR := VR.below hL1
  replace BB := BB.trans (hL1.mono BB.size)
  clear hL1
  obtain ⟨N_0, N_1, N_2, N_3, N_4, N_5, N_6, N_7, N_8, N_9, N_10, N_11, N_12, N_13⟩ := id NN
  obtain ⟨V_0, V_1, V_2, V_3, V_4, V_5, V_6, V_7, V_8, V_9, V_10, V_11, V_12, V_13⟩ := id VN
  rw [hW1, hW0] at V_0 V_1 V_2 V_3 V_4 V_5 V_6 V_7 V_8 V_9 V_10 V_11 V_12 V_13
  rw [hW0] at N_0 N_1 N_2 N_3 N_4 N_5 N_6 N_7 N_8 N_9 N_10 N_11 N_12 N_13
  go_enter Tryz.func40, Tryz.ntmps40
  cases lf
  ·have HF := hm.feat x hx hlf
   obtain ⟨e1, e2, k1, k2, k3, k4, l1, l2⟩ := hm.kids hx hlf
   have HSI : Hid (inS s (t x).feat.toNat = true → say t n r s x = say t n r s (nxt (t x) r)) := hm.say_in r hx hlf
   have HSO : Hid (inS s (t x).feat.toNat = false → say t n r s x = ((t (kl t x)).cov * say t n r s (kl t x) + (t (kr t x)).cov * say t n r s (kr t x)) / (t x).cov) := hm.say_out r hx hlf
   have HCV : Hid ((t x).cov ≠ 0) := fun e => by have := hm.cov x hx; rw [e] at this; exact absurd this (by decide)
   obtain ⟨fn, hfn⟩ : ∃ fn : Nat, (t x).feat = (fn : Int) := ⟨(t x).feat.toNat, by omega⟩
   have hfl : fn < nr := by omega
   obtain ⟨ms, hms⟩ : ∃ z, (t x).miss = z := ⟨_, rfl⟩
   have HO : Hid (nxt (t x) r = if goL (t x) (r fn) = true then kl t x else kr t x) := by
    show nxt (t x) r = _
    unfold nxt kl kr
    rw [hfn]
    rfl
   have hk1 : n + 1 ≤ lvl t n (kl t x) + k := lvl_step11 l1 hk
   have hk2 : n + 1 ≤ lvl t n (kr t x) + k := lvl_step11 l2 hk
   have IH1 : Hid (∀ w, TRow w (.slice (some ⟨b, off, none⟩) n ct) n t L → CRow w (.slice ar nr cr) nr r L → Tab w → Calls Tryz.prog 40 #[.slice (some ⟨b, off, none⟩) n ct, .int .i64 (kl t x : Int), .slice ar nr cr, .int .u64 (s : Int)] w fun e w' => ∃ v, e = .returned v ∧ RatAt w' v (say t n r s (kl t x)) M ∧ Below w.heap.size w w') := fun w h1 h2 h3 => ih (kl t x) w k2 hk1 h1 h2 h3
   have IH2 : Hid (∀ w, TRow w (.slice (some ⟨b, off, none⟩) n ct) n t L → CRow w (.slice ar nr cr) nr r L → Tab w → Calls Tryz.prog 40 #[.slice (some ⟨b, off, none⟩) n ct, .int .i64 (kr t x : Int), .slice ar nr cr, .int .u64 (s : Int)] w fun e w' => ∃ v, e = .returned v ∧ RatAt w' v (say t n r s (kr t x)) M ∧ Below w.heap.size w w') := fun w h1 h2 h3 => ih (kr t x) w k4 hk2 h1 h2 h3
   have HS1 : Hid (qsz (say t n r s (kl t x)) ≤ M) := hS _ k2
   have HS2 : Hid (qsz (say t n r s (kr t x)) ≤ M) := hS _ k4
   have HS0 : Hid (qsz (say t n r s x) ≤ M) := hS _ hx
   clear ih hS hk1 hk2 hk
   rw [hfn] at HSI HSO
   simp only [Int.toNat_natCast] at HSI HSO
   have HCON : Hid (∀ (w : World) (h1 : RatAt w (.agg #[.bool p1, .slice a1 n1 c1, .slice b1 m1 d1]) (t x).cut L) p4 a4 b4 n4 c4 m4 d4 (h2 : RatAt w (.agg #[.bool p4, .slice a4 n4 c4, .slice b4 m4 d4]) (r fn).val L), Calls Tryz.prog 66 #[.agg #[.bool false, .int .i64 (fn : Int), .bool p1, .slice a1 n1 c1, .slice b1 m1 d1, .int .i64 (kl t x : Int), .int .i64 (kr t x : Int), .bool ms, .bool p2, .slice a2 n2 c2, .slice b2 m2 d2, .bool p3, .slice a3 n3 c3, .slice b3 m3 d3], .agg #[.bool (r fn).miss, .bool p4, .slice a4 n4 c4, .slice b4 m4 d4]] w fun e w' => e = .returned (.bool (goL (t x) (r fn))) ∧ Below w.heap.size w w') := fun w h1 p4 a4 b4 n4 c4 m4 d4 h2 => by
    have := rleft_at (t x) (r fn) p1 p2 p3 p4 a1 b1 a2 b2 a3 b3 a4 b4 n1 c1 m1 d1 n2 c2 m2 d2 n3 c3 m3 d3 n4 c4 m4 d4 L w h1 h2 hL (by omega)
    rw [hlf, hfn, e1, e2, hms] at this
    exact this
   simp only [hfn, e1, e2, hms] at VN hW1 V_1 N_1 V_5 N_5 V_6 N_6 V_7 N_7
   have f0 : (0 : Int) ≤ (fn : Int) := by omega
   have f1 : (fn : Int) < (nr : Int) := by omega
   clear hlf hfn e1 e2 hms HF l1 l2 k1 k3 i1 i2 i3 hm r2w
   have HTX : Hid (TRow W1 (.slice (some ⟨b, off, none⟩) n ct) n t L) := ht
   generalize hkl : kl t x = lr at *
   generalize hkr : kr t x = rr at *
   clear hkl hkr
   have h0 : (0 : Int) ≤ (lr : Int) := by omega
   have h1 : (lr : Int) < (n : Int) := by omega
   have h2 : (0 : Int) ≤ (rr : Int) := by omega
   have h3 : (rr : Int) < (n : Int) := by omega
   go_wp2_with fail
   clear V_0 V_1 V_2 V_3 V_4 V_5 V_6 V_7 V_8 V_9 V_10 V_11 V_12 V_13 N_0 N_1 N_2 N_3 N_4 N_5 N_6 N_7 N_8 N_9 N_10 N_11 N_12 N_13
   rw [← hW0, ← hW1]
   clear hW0 hW1
   rw [hS0] at VN
   obtain ⟨R0, hR0⟩ : ∃ R, R = w.heap.size + 1 := ⟨_, rfl⟩
   rw [← hR0] at VN ⊢
   have hRR : w.heap.size ≠ R0 := by omega
   clear hR0 hS0 hS1 FN HTX
   refine (lin_at s fn hs (by omega) _).mono ?_
   rintro e wx ⟨rfl, hwx⟩
   replace hwx := hwx.symm
   subst hwx
   obtain ⟨g, hg⟩ : ∃ g, inS s fn = g := ⟨_, rfl⟩
   rw [hg] at HSI HSO ⊢
   clear hg
   cases g
   ·have HSV : Hid (say t n r s x = ((t lr).cov * say t n r s lr + (t rr).cov * say t n r s rr) / (t x).cov) := HSO.out rfl
    clear HSO HSI HO HCON
    obtain ⟨V_0, V_1, V_2, V_3, V_4, V_5, V_6, V_7, V_8, V_9, V_10, V_11, V_12, V_13⟩ := id VN
    go_wp2
    clear V_0 V_1 V_2 V_3 V_4 V_5 V_6 V_7 V_8 V_9 V_10 V_11 V_12 V_13
    obtain ⟨bL, oL, ccL, p1L, a1L, n1L, c1L, b1L, m1L, d1L, p2L, a2L, n2L, c2L, b2L, m2L, d2L, p3L, a3L, n3L, c3L, b3L, m3L, d3L, hvvL, hccL, hc6L, NNL, r1L, r2L, r3L, i1L, i2L, i3L⟩ := ht.at k2
    cases hvvL
    have XL : E3 W1 b (off + lr * 14 + 11) _ _ _ := ⟨NNL.c11, NNL.c12, NNL.c13⟩
    clear NNL r1L r2L i1L i2L i3L
    refine wp_region_until 14 #[true, true, true, true, true, true, true, true, true, true, true, true, true, true, false] (fun aF lsd a' w' => ∃ vu0 vu1 vu2 vu3 vu4 vu5 vu6 vu7 vu8 vu9 vu10 vu11 vu12 vu13 : Value, a' = (((((((((((((aF.put (some 45) vu0).put (some 46) vu1).put (some 47) vu2).put (some 48) vu3).put (some 49) vu4).put (some 50) vu5).put (some 51) vu6).put (some 52) vu7).put (some 53) vu8).put (some 54) vu9).put (some 55) vu10).put (some 56) vu11).put (some 57) vu12).put (some 10) vu13 ∧ Below W1.heap.size W1 w' ∧ (lsd.getD 0 false = true → vu0 = .slice (some ⟨b, off, none⟩) n ct) ∧ (lsd.getD 1 false = true → vu1 = .pointer (some ⟨R0, 5, none⟩)) ∧ (lsd.getD 2 false = true → vu2 = .int .i64 (lr : Int)) ∧ (lsd.getD 3 false = true → vu3 = .pointer (some ⟨b, off + lr * 14, none⟩)) ∧ (lsd.getD 4 false = true → vu4 = .pointer (some ⟨b, off + lr * 14 + 11, none⟩)) ∧ (lsd.getD 5 false = true → vu5 = .agg #[.bool p3L, .slice a3L n3L c3L, .slice b3L m3L d3L]) ∧ (lsd.getD 6 false = true → vu6 = .slice (some ⟨b, off, none⟩) n ct) ∧ (lsd.getD 7 false = true → vu7 = .pointer (some ⟨R0, 5, none⟩)) ∧ (lsd.getD 8 false = true → vu8 = .int .i64 (lr : Int)) ∧ (lsd.getD 9 false = true → vu9 = .slice ar nr cr) ∧ (lsd.getD 10 false = true → vu10 = .int .u64 (s : Int)) ∧ (lsd.getD 11 false = true → RatAt w' vu11 (say t n r s lr) M) ∧ (lsd.getD 12 false = true → RepQ w' vu12 ((t lr).cov * say t n r s lr)) ∧ (lsd.getD 13 false = true → New3 W1.heap.size w' vu13 (.bool false) (.slice none 0 0) (.slice none 0 0))) (by kernel_rfl) (by decide) (by kernel_rfl) (by rfl) (by kernel_rfl) ?_ ?_ ?_
    ·exact ⟨_, _, _, _, _, _, _, _, _, _, _, _, _, _, by simp only [Act.put, xL4, xL5, xL6]; rfl, (Below.refl _ _).drew, fun h => absurd h (fun h => mark_none h), fun h => absurd h (fun h => mark_none h), fun h => absurd h (fun h => mark_none h), fun h => absurd h (fun h => mark_none h), fun h => absurd h (fun h => mark_none h), fun h => absurd h (fun h => mark_none h), fun h => absurd h (fun h => mark_none h), fun h => absurd h (fun h => mark_none h), fun h => absurd h (fun h => mark_none h), fun h => absurd h (fun h => mark_none h), fun h => absurd h (fun h => mark_none h), fun h => absurd h (fun h => mark_none h), fun h => absurd h (fun h => mark_none h), fun h => absurd h (fun h => mark_none h)⟩
    ·rintro lsd au wn iu hszu ⟨vu0, vu1, vu2, vu3, vu4, vu5, vu6, vu7, vu8, vu9, vu10, vu11, vu12, vu13, rfl, hbu, fu0, fu1, fu2, fu3, fu4, fu5, fu6, fu7, fu8, fu9, fu10, fu11, fu12, fu13⟩ himu hru
     rcases (show iu = 0 ∨ iu = 1 ∨ iu = 2 ∨ iu = 3 ∨ iu = 4 ∨ iu = 5 ∨ iu = 6 ∨ iu = 7 ∨ iu = 8 ∨ iu = 9 ∨ iu = 10 ∨ iu = 11 ∨ iu = 12 ∨ iu = 13 by omega) with rfl | rfl | rfl | rfl | rfl | rfl | rfl | rfl | rfl | rfl | rfl | rfl | rfl | rfl
     ·refine wpOp_shut (by rfl) (fun K hK => ?_)
      simp only [Act.put, xL4, xL5, xL6]
      go_simp
      exact hK.out _ _ ⟨(.slice (some ⟨b, off, none⟩) n ct), vu1, vu2, vu3, vu4, vu5, vu6, vu7, vu8, vu9, vu10, vu11, vu12, vu13, by simp only [Act.put, xL4, xL5, xL6], hbu, fun _ => rfl, fun h => fu1 (mark_of (by decide) h), fun h => fu2 (mark_of (by decide) h), fun h => fu3 (mark_of (by decide) h), fun h => fu4 (mark_of (by decide) h), fun h => fu5 (mark_of (by decide) h), fun h => fu6 (mark_of (by decide) h), fun h => fu7 (mark_of (by decide) h), fun h => fu8 (mark_of (by decide) h), fun h => fu9 (mark_of (by decide) h), fun h => fu10 (mark_of (by decide) h), fun h => fu11 (mark_of (by decide) h), fun h => fu12 (mark_of (by decide) h), fun h => fu13 (mark_of (by decide) h)⟩
     ·refine wpOp_shut (by rfl) (fun K hK => ?_)
      simp only [Act.put, xL4, xL5, xL6]
      go_simp
      exact hK.out _ _ ⟨vu0, (.pointer (some ⟨R0, 5, none⟩)), vu2, vu3, vu4, vu5, vu6, vu7, vu8, vu9, vu10, vu11, vu12, vu13, by simp only [Act.put, xL4, xL5, xL6], hbu, fun h => fu0 (mark_of (by decide) h), fun _ => rfl, fun h => fu2 (mark_of (by decide) h), fun h => fu3 (mark_of (by decide) h), fun h => fu4 (mark_of (by decide) h), fun h => fu5 (mark_of (by decide) h), fun h => fu6 (mark_of (by decide) h), fun h => fu7 (mark_of (by decide) h), fun h => fu8 (mark_of (by decide) h), fun h => fu9 (mark_of (by decide) h), fun h => fu10 (mark_of (by decide) h), fun h => fu11 (mark_of (by decide) h), fun h => fu12 (mark_of (by decide) h), fun h => fu13 (mark_of (by decide) h)⟩
     ·have eu1 := fu1 (dep_of 1 hru rfl (by kernel_rfl))
      replace eu1 := eu1.symm
      subst eu1
      refine wpOp_shut (by rfl) (fun K hK => ?_)
      simp only [Act.put, xL4, xL5, xL6]
      obtain ⟨y0, y1, y2, y3, y4, y5, y6, y7, y8, y9, y10, y11, y12, y13⟩ := VN.below hbu
      go_simp
      exact hK.out _ _ ⟨vu0, (.pointer (some ⟨R0, 5, none⟩)), (.int .i64 (lr : Int)), vu3, vu4, vu5, vu6, vu7, vu8, vu9, vu10, vu11, vu12, vu13, by simp only [Act.put, xL4, xL5, xL6], hbu, fun h => fu0 (mark_of (by decide) h), fun _ => rfl, fun _ => rfl, fun h => fu3 (mark_of (by decide) h), fun h => fu4 (mark_of (by decide) h), fun h => fu5 (mark_of (by decide) h), fun h => fu6 (mark_of (by decide) h), fun h => fu7 (mark_of (by decide) h), fun h => fu8 (mark_of (by decide) h), fun h => fu9 (mark_of (by decide) h), fun h => fu10 (mark_of (by decide) h), fun h => fu11 (mark_of (by decide) h), fun h => fu12 (mark_of (by decide) h), fun h => fu13 (mark_of (by decide) h)⟩
     ·have eu0 := fu0 (dep_of 0 hru rfl (by kernel_rfl))
      have eu2 := fu2 (dep_of 2 hru rfl (by kernel_rfl))
      replace eu0 := eu0.symm
      subst eu0
      replace eu2 := eu2.symm
      subst eu2
      refine wpOp_shut (by rfl) (fun K hK => ?_)
      simp only [Act.put, xL4, xL5, xL6]
      go_simp
      exact hK.out _ _ ⟨(.slice (some ⟨b, off, none⟩) n ct), vu1, (.int .i64 (lr : Int)), (.pointer (some ⟨b, off + lr * 14, none⟩)), vu4, vu5, vu6, vu7, vu8, vu9, vu10, vu11, vu12, vu13, by simp only [Act.put, xL4, xL5, xL6], hbu, fun _ => rfl, fun h => fu1 (mark_of (by decide) h), fun _ => rfl, fun _ => rfl, fun h => fu4 (mark_of (by decide) h), fun h => fu5 (mark_of (by decide) h), fun h => fu6 (mark_of (by decide) h), fun h => fu7 (mark_of (by decide) h), fun h => fu8 (mark_of (by decide) h), fun h => fu9 (mark_of (by decide) h), fun h => fu10 (mark_of (by decide) h), fun h => fu11 (mark_of (by decide) h), fun h => fu12 (mark_of (by decide) h), fun h => fu13 (mark_of (by decide) h)⟩
     ·have eu3 := fu3 (dep_of 3 hru rfl (by kernel_rfl))
      replace eu3 := eu3.symm
      subst eu3
      refine wpOp_shut (by rfl) (fun K hK => ?_)
      simp only [Act.put, xL4, xL5, xL6]
      go_simp
      exact hK.out _ _ ⟨vu0, vu1, vu2, (.pointer (some ⟨b, off + lr * 14, none⟩)), (.pointer (some ⟨b, off + lr * 14 + 11, none⟩)), vu5, vu6, vu7, vu8, vu9, vu10, vu11, vu12, vu13, by simp only [Act.put, xL4, xL5, xL6], hbu, fun h => fu0 (mark_of (by decide) h), fun h => fu1 (mark_of (by decide) h), fun h => fu2 (mark_of (by decide) h), fun _ => rfl, fun _ => rfl, fun h => fu5 (mark_of (by decide) h), fun h => fu6 (mark_of (by decide) h), fun h => fu7 (mark_of (by decide) h), fun h => fu8 (mark_of (by decide) h), fun h => fu9 (mark_of (by decide) h), fun h => fu10 (mark_of (by decide) h), fun h => fu11 (mark_of (by decide) h), fun h => fu12 (mark_of (by decide) h), fun h => fu13 (mark_of (by decide) h)⟩
     ·have eu4 := fu4 (dep_of 4 hru rfl (by kernel_rfl))
      replace eu4 := eu4.symm
      subst eu4
      refine wpOp_shut (by rfl) (fun K hK => ?_)
      simp only [Act.put, xL4, xL5, xL6]
      obtain ⟨XL_0, XL_1, XL_2⟩ := XL.below hbu
      go_simp
      exact hK.out _ _ ⟨vu0, vu1, vu2, vu3, (.pointer (some ⟨b, off + lr * 14 + 11, none⟩)), (.agg #[.bool p3L, .slice a3L n3L c3L, .slice b3L m3L d3L]), vu6, vu7, vu8, vu9, vu10, vu11, vu12, vu13, by simp only [Act.put, xL4, xL5, xL6], hbu, fun h => fu0 (mark_of (by decide) h), fun h => fu1 (mark_of (by decide) h), fun h => fu2 (mark_of (by decide) h), fun h => fu3 (mark_of (by decide) h), fun _ => rfl, fun _ => rfl, fun h => fu6 (mark_of (by decide) h), fun h => fu7 (mark_of (by decide) h), fun h => fu8 (mark_of (by decide) h), fun h => fu9 (mark_of (by decide) h), fun h => fu10 (mark_of (by decide) h), fun h => fu11 (mark_of (by decide) h), fun h => fu12 (mark_of (by decide) h), fun h => fu13 (mark_of (by decide) h)⟩
     ·refine wpOp_shut (by rfl) (fun K hK => ?_)
      simp only [Act.put, xL4, xL5, xL6]
      go_simp
      exact hK.out _ _ ⟨vu0, vu1, vu2, vu3, vu4, vu5, (.slice (some ⟨b, off, none⟩) n ct), vu7, vu8, vu9, vu10, vu11, vu12, vu13, by simp only [Act.put, xL4, xL5, xL6], hbu, fun h => fu0 (mark_of (by decide) h), fun h => fu1 (mark_of (by decide) h), fun h => fu2 (mark_of (by decide) h), fun h => fu3 (mark_of (by decide) h), fun h => fu4 (mark_of (by decide) h), fun h => fu5 (mark_of (by decide) h), fun _ => rfl, fun h => fu7 (mark_of (by decide) h), fun h => fu8 (mark_of (by decide) h), fun h => fu9 (mark_of (by decide) h), fun h => fu10 (mark_of (by decide) h), fun h => fu11 (mark_of (by decide) h), fun h => fu12 (mark_of (by decide) h), fun h => fu13 (mark_of (by decide) h)⟩
     ·refine wpOp_shut (by rfl) (fun K hK => ?_)
      simp only [Act.put, xL4, xL5, xL6]
      go_simp
      exact hK.out _ _ ⟨vu0, vu1, vu2, vu3, vu4, vu5, vu6, (.pointer (some ⟨R0, 5, none⟩)), vu8, vu9, vu10, vu11, vu12, vu13, by simp only [Act.put, xL4, xL5, xL6], hbu, fun h => fu0 (mark_of (by decide) h), fun h => fu1 (mark_of (by decide) h), fun h => fu2 (mark_of (by decide) h), fun h => fu3 (mark_of (by decide) h), fun h => fu4 (mark_of (by decide) h), fun h => fu5 (mark_of (by decide) h), fun h => fu6 (mark_of (by decide) h), fun _ => rfl, fun h => fu8 (mark_of (by decide) h), fun h => fu9 (mark_of (by decide) h), fun h => fu10 (mark_of (by decide) h), fun h => fu11 (mark_of (by decide) h), fun h => fu12 (mark_of (by decide) h), fun h => fu13 (mark_of (by decide) h)⟩
     ·have eu7 := fu7 (dep_of 7 hru rfl (by kernel_rfl))
      replace eu7 := eu7.symm
      subst eu7
      refine wpOp_shut (by rfl) (fun K hK => ?_)
      simp only [Act.put, xL4, xL5, xL6]
      obtain ⟨y0, y1, y2, y3, y4, y5, y6, y7, y8, y9, y10, y11, y12, y13⟩ := VN.below hbu
      go_simp
      exact hK.out _ _ ⟨vu0, vu1, vu2, vu3, vu4, vu5, vu6, (.pointer (some ⟨R0, 5, none⟩)), (.int .i64 (lr : Int)), vu9, vu10, vu11, vu12, vu13, by simp only [Act.put, xL4, xL5, xL6], hbu, fun h => fu0 (mark_of (by decide) h), fun h => fu1 (mark_of (by decide) h), fun h => fu2 (mark_of (by decide) h), fun h => fu3 (mark_of (by decide) h), fun h => fu4 (mark_of (by decide) h), fun h => fu5 (mark_of (by decide) h), fun h => fu6 (mark_of (by decide) h), fun _ => rfl, fun _ => rfl, fun h => fu9 (mark_of (by decide) h), fun h => fu10 (mark_of (by decide) h), fun h => fu11 (mark_of (by decide) h), fun h => fu12 (mark_of (by decide) h), fun h => fu13 (mark_of (by decide) h)⟩
     ·refine wpOp_shut (by rfl) (fun K hK => ?_)
      simp only [Act.put, xL4, xL5, xL6]
      go_simp
      exact hK.out _ _ ⟨vu0, vu1, vu2, vu3, vu4, vu5, vu6, vu7, vu8, (.slice ar nr cr), vu10, vu11, vu12, vu13, by simp only [Act.put, xL4, xL5, xL6], hbu, fun h => fu0 (mark_of (by decide) h), fun h => fu1 (mark_of (by decide) h), fun h => fu2 (mark_of (by decide) h), fun h => fu3 (mark_of (by decide) h), fun h => fu4 (mark_of (by decide) h), fun h => fu5 (mark_of (by decide) h), fun h => fu6 (mark_of (by decide) h), fun h => fu7 (mark_of (by decide) h), fun h => fu8 (mark_of (by decide) h), fun _ => rfl, fun h => fu10 (mark_of (by decide) h), fun h => fu11 (mark_of (by decide) h), fun h => fu12 (mark_of (by decide) h), fun h => fu13 (mark_of (by decide) h)⟩
     ·refine wpOp_shut (by rfl) (fun K hK => ?_)
      simp only [Act.put, xL4, xL5, xL6]
      go_simp
      exact hK.out _ _ ⟨vu0, vu1, vu2, vu3, vu4, vu5, vu6, vu7, vu8, vu9, (.int .u64 (s : Int)), vu11, vu12, vu13, by simp only [Act.put, xL4, xL5, xL6], hbu, fun h => fu0 (mark_of (by decide) h), fun h => fu1 (mark_of (by decide) h), fun h => fu2 (mark_of (by decide) h), fun h => fu3 (mark_of (by decide) h), fun h => fu4 (mark_of (by decide) h), fun h => fu5 (mark_of (by decide) h), fun h => fu6 (mark_of (by decide) h), fun h => fu7 (mark_of (by decide) h), fun h => fu8 (mark_of (by decide) h), fun h => fu9 (mark_of (by decide) h), fun _ => rfl, fun h => fu11 (mark_of (by decide) h), fun h => fu12 (mark_of (by decide) h), fun h => fu13 (mark_of (by decide) h)⟩
     ·have eu6 := fu6 (dep_of 6 hru rfl (by kernel_rfl))
      have eu8 := fu8 (dep_of 8 hru rfl (by kernel_rfl))
      have eu9 := fu9 (dep_of 9 hru rfl (by kernel_rfl))
      have eu10 := fu10 (dep_of 10 hru rfl (by kernel_rfl))
      replace eu6 := eu6.symm
      subst eu6
      replace eu8 := eu8.symm
      subst eu8
      replace eu9 := eu9.symm
      subst eu9
      replace eu10 := eu10.symm
      subst eu10
      refine wpOp_shut (by rfl) (fun K hK => ?_)
      simp only [Act.put, xL4, xL5, xL6]
      have ht := ht.below hbu
      have hr := hr.below hbu
      have hT := hT.below hbu
      go_simp
      refine (IH1.out _ ht hr hT).mono ?_
      rintro eu wx ⟨v11, rfl, h11, bu⟩
      go_wp2_with fail
      have hbu2 := hbu.trans (bu.mono hbu.size)
      exact hK.out _ _ ⟨vu0, vu1, vu2, vu3, vu4, vu5, (.slice (some ⟨b, off, none⟩) n ct), vu7, (.int .i64 (lr : Int)), (.slice ar nr cr), (.int .u64 (s : Int)), _, vu12, vu13, by simp only [Act.put, xL4, xL5, xL6], hbu2, fun h => fu0 (mark_of (by decide) h), fun h => fu1 (mark_of (by decide) h), fun h => fu2 (mark_of (by decide) h), fun h => fu3 (mark_of (by decide) h), fun h => fu4 (mark_of (by decide) h), fun h => fu5 (mark_of (by decide) h), fun _ => rfl, fun h => fu7 (mark_of (by decide) h), fun _ => rfl, fun _ => rfl, fun _ => rfl, fun _ => h11, fun h => (fu12 (mark_of (by decide) h)).below bu, fun h => (fu13 (mark_of (by decide) h)).below bu⟩
     ·have eu5 := fu5 (dep_of 5 hru rfl (by kernel_rfl))
      replace eu5 := eu5.symm
      subst eu5
      have h11 := fu11 (dep_of 11 hru rfl (by kernel_rfl))
      refine wpOp_shut (by rfl) (fun K hK => ?_)
      simp only [Act.put, xL4, xL5, xL6]
      have hT := hT.below hbu
      have r3L := r3L.below hbu
      go_simp
      refine (qmul_at _ _ (t lr).cov (say t n r s lr) M _ (r3L.le hLM) h11 (by omega) (by omega) hT).mono ?_
      rintro eu wx ⟨v12, rfl, h12, bu⟩
      go_wp2_with fail
      have hbu2 := hbu.trans (bu.mono hbu.size)
      exact hK.out _ _ ⟨vu0, vu1, vu2, vu3, vu4, (.agg #[.bool p3L, .slice a3L n3L c3L, .slice b3L m3L d3L]), vu6, vu7, vu8, vu9, vu10, vu11, _, vu13, by simp only [Act.put, xL4, xL5, xL6], hbu2, fun h => fu0 (mark_of (by decide) h), fun h => fu1 (mark_of (by decide) h), fun h => fu2 (mark_of (by decide) h), fun h => fu3 (mark_of (by decide) h), fun h => fu4 (mark_of (by decide) h), fun _ => rfl, fun h => fu6 (mark_of (by decide) h), fun h => fu7 (mark_of (by decide) h), fun h => fu8 (mark_of (by decide) h), fun h => fu9 (mark_of (by decide) h), fun h => fu10 (mark_of (by decide) h), fun h => (fu11 (mark_of (by decide) h)).below bu, fun _ => h12, fun h => (fu13 (mark_of (by decide) h)).below bu⟩
     ·refine wpOp_shut (by rfl) (fun K hK => ?_)
      simp only [Act.put, xL4, xL5, xL6]
      go_simp
      obtain ⟨wx, hWx, hSx, bu, VXu⟩ := V3.lay wn 34 (.bool false) (.slice none 0 0) (.slice none 0 0)
      rw [← hWx]
      have hbu2 := hbu.trans (bu.mono hbu.size)
      exact hK.out _ _ ⟨vu0, vu1, vu2, vu3, vu4, vu5, vu6, vu7, vu8, vu9, vu10, vu11, vu12, _, by simp only [Act.put, xL4, xL5, xL6], hbu2, fun h => fu0 (mark_of (by decide) h), fun h => fu1 (mark_of (by decide) h), fun h => fu2 (mark_of (by decide) h), fun h => fu3 (mark_of (by decide) h), fun h => fu4 (mark_of (by decide) h), fun h => fu5 (mark_of (by decide) h), fun h => fu6 (mark_of (by decide) h), fun h => fu7 (mark_of (by decide) h), fun h => fu8 (mark_of (by decide) h), fun h => fu9 (mark_of (by decide) h), fun h => fu10 (mark_of (by decide) h), fun h => (fu11 (mark_of (by decide) h)).below bu, fun h => (fu12 (mark_of (by decide) h)).below bu, fun _ => ⟨_, rfl, hbu.size, VXu⟩⟩
    rintro au Wu1 ⟨vu0, vu1, vu2, vu3, vu4, vu5, vu6, vu7, vu8, vu9, vu10, vu11, vu12, vu13, rfl, hbu, fu0, fu1, fu2, fu3, fu4, fu5, fu6, fu7, fu8, fu9, fu10, fu11, fu12, fu13⟩
    have eu0 := (fu0 rfl).symm
    subst eu0
    have eu1 := (fu1 rfl).symm
    subst eu1
    have eu2 := (fu2 rfl).symm
    subst eu2
    have eu3 := (fu3 rfl).symm
    subst eu3
    have eu4 := (fu4 rfl).symm
    subst eu4
    have eu5 := (fu5 rfl).symm
    subst eu5
    have eu6 := (fu6 rfl).symm
    subst eu6
    have eu7 := (fu7 rfl).symm
    subst eu7
    have eu8 := (fu8 rfl).symm
    subst eu8
    have eu9 := (fu9 rfl).symm
    subst eu9
    have eu10 := (fu10 rfl).symm
    subst eu10
    have h11 := fu11 rfl
    have h12 := fu12 rfl
    obtain ⟨RVA, rfl, hRVA, VA⟩ := fu13 rfl
    clear fu0 fu1 fu2 fu3 fu4 fu5 fu6 fu7 fu8 fu9 fu10 fu11 fu12 fu13
    have hlVR : w.heap.size < W1.heap.size := VR.lt
    have hlXL : b < W1.heap.size := XL.lt
    obtain ⟨pL8, aL8, nL8, cL8, yL8, mL8, dL8, rfl⟩ := h12.open
    simp only [Act.put, xL4, xL5, xL6]
    refine wpAnyH_ready (rs := [14]) (by kernel_rfl) (by simp) ?_
    refine AllReadyH.cons (by rfl) (fun K hK => ?_) AllReadyH.nil
    have hKp := VA.keepJ (.bool pL8) (.slice aL8 nL8 cL8) (.slice yL8 mL8 dL8)
    have VA_n := VA.same (.bool pL8) (.slice aL8 nL8 cL8) (.slice yL8 mL8 dL8)
    have h11_n := h11.keep hKp
    have h12_n := h12.keep hKp
    have hbu_n := below_store3 (R := RVA) hbu (by omega) (.bool pL8) (.slice aL8 nL8 cL8) (.slice yL8 mL8 dL8)
    clear hKp
    obtain ⟨VA_0, VA_1, VA_2, VA_3, VA_4, VA_5⟩ := id VA
    go_simp
    clear VA_0 VA_1 VA_2 VA_3 VA_4 VA_5
    clear hbu h11 h12 VA
    generalize ((Wu1.setCell ⟨RVA, 0, none⟩ (.bool pL8)).setCell ⟨RVA, 1, none⟩ (.slice aL8 nL8 cL8)).setCell ⟨RVA, 2, none⟩ (.slice yL8 mL8 dL8) = W2 at *
    have hbu := hbu_n
    have h11 := h11_n
    have h12 := h12_n
    have VA := VA_n
    clear hbu_n h11_n h12_n VA_n
    refine hK.out _ _ trivial (fun _ => ?_)
    clear hK K
    simp only [Act.put, xL4, xL5, xL6]
    replace ht := ht.below hbu
    replace hr := hr.below hbu
    replace hT := hT.below hbu
    replace r1 := r1.below hbu
    replace r2 := r2.below hbu
    replace r3 := r3.below hbu
    replace VN := VN.below hbu
    replace r3L := r3L.below hbu
    replace VR := VR.below hbu
    replace XL := XL.below hbu
    replace BB := BB.trans (hbu.mono BB.size)
    clear hbu
    refine wpAnyH_done (by kernel_rfl) ?_ _
    have hA := h12
    clear h12 h11
    obtain ⟨V_0, V_1, V_2, V_3, V_4, V_5, V_6, V_7, V_8, V_9, V_10, V_11, V_12, V_13⟩ := id VN
    go_wp2
    clear V_0 V_1 V_2 V_3 V_4 V_5 V_6 V_7 V_8 V_9 V_10 V_11 V_12 V_13
    obtain ⟨bR, oR, ccR, p1R, a1R, n1R, c1R, b1R, m1R, d1R, p2R, a2R, n2R, c2R, b2R, m2R, d2R, p3R, a3R, n3R, c3R, b3R, m3R, d3R, hvvR, hccR, hc6R, NNR, r1R, r2R, r3R, i1R, i2R, i3R⟩ := ht.at k4
    cases hvvR
    have XR : E3 W2 b (off + rr * 14 + 11) _ _ _ := ⟨NNR.c11, NNR.c12, NNR.c13⟩
    clear NNR r1R r2R i1R i2R i3R
    refine wp_region_until 14 #[true, true, true, true, true, true, true, true, true, true, true, true, true, true, false] (fun aF lsd a' w' => ∃ vu0 vu1 vu2 vu3 vu4 vu5 vu6 vu7 vu8 vu9 vu10 vu11 vu12 vu13 : Value, a' = (((((((((((((aF.put (some 58) vu0).put (some 59) vu1).put (some 60) vu2).put (some 61) vu3).put (some 62) vu4).put (some 63) vu5).put (some 64) vu6).put (some 65) vu7).put (some 66) vu8).put (some 67) vu9).put (some 68) vu10).put (some 69) vu11).put (some 70) vu12).put (some 11) vu13 ∧ Below W2.heap.size W2 w' ∧ (lsd.getD 0 false = true → vu0 = .slice (some ⟨b, off, none⟩) n ct) ∧ (lsd.getD 1 false = true → vu1 = .pointer (some ⟨R0, 6, none⟩)) ∧ (lsd.getD 2 false = true → vu2 = .int .i64 (rr : Int)) ∧ (lsd.getD 3 false = true → vu3 = .pointer (some ⟨b, off + rr * 14, none⟩)) ∧ (lsd.getD 4 false = true → vu4 = .pointer (some ⟨b, off + rr * 14 + 11, none⟩)) ∧ (lsd.getD 5 false = true → vu5 = .agg #[.bool p3R, .slice a3R n3R c3R, .slice b3R m3R d3R]) ∧ (lsd.getD 6 false = true → vu6 = .slice (some ⟨b, off, none⟩) n ct) ∧ (lsd.getD 7 false = true → vu7 = .pointer (some ⟨R0, 6, none⟩)) ∧ (lsd.getD 8 false = true → vu8 = .int .i64 (rr : Int)) ∧ (lsd.getD 9 false = true → vu9 = .slice ar nr cr) ∧ (lsd.getD 10 false = true → vu10 = .int .u64 (s : Int)) ∧ (lsd.getD 11 false = true → RatAt w' vu11 (say t n r s rr) M) ∧ (lsd.getD 12 false = true → RepQ w' vu12 ((t rr).cov * say t n r s rr)) ∧ (lsd.getD 13 false = true → New3 W2.heap.size w' vu13 (.bool false) (.slice none 0 0) (.slice none 0 0))) (by kernel_rfl) (by decide) (by kernel_rfl) (by rfl) (by kernel_rfl) ?_ ?_ ?_
    ·exact ⟨_, _, _, _, _, _, _, _, _, _, _, _, _, _, by simp only [Act.put, xL4, xL5, xL6]; rfl, (Below.refl _ _).drew, fun h => absurd h (fun h => mark_none h), fun h => absurd h (fun h => mark_none h), fun h => absurd h (fun h => mark_none h), fun h => absurd h (fun h => mark_none h), fun h => absurd h (fun h => mark_none h), fun h => absurd h (fun h => mark_none h), fun h => absurd h (fun h => mark_none h), fun h => absurd h (fun h => mark_none h), fun h => absurd h (fun h => mark_none h), fun h => absurd h (fun h => mark_none h), fun h => absurd h (fun h => mark_none h), fun h => absurd h (fun h => mark_none h), fun h => absurd h (fun h => mark_none h), fun h => absurd h (fun h => mark_none h)⟩
    ·rintro lsd au wn iu hszu ⟨vu0, vu1, vu2, vu3, vu4, vu5, vu6, vu7, vu8, vu9, vu10, vu11, vu12, vu13, rfl, hbu, fu0, fu1, fu2, fu3, fu4, fu5, fu6, fu7, fu8, fu9, fu10, fu11, fu12, fu13⟩ himu hru
     rcases (show iu = 0 ∨ iu = 1 ∨ iu = 2 ∨ iu = 3 ∨ iu = 4 ∨ iu = 5 ∨ iu = 6 ∨ iu = 7 ∨ iu = 8 ∨ iu = 9 ∨ iu = 10 ∨ iu = 11 ∨ iu = 12 ∨ iu = 13 by omega) with rfl | rfl | rfl | rfl | rfl | rfl | rfl | rfl | rfl | rfl | rfl | rfl | rfl | rfl
     ·refine wpOp_shut (by rfl) (fun K hK => ?_)
      simp only [Act.put, xL4, xL5, xL6]
      go_simp
      exact hK.out _ _ ⟨(.slice (some ⟨b, off, none⟩) n ct), vu1, vu2, vu3, vu4, vu5, vu6, vu7, vu8, vu9, vu10, vu11, vu12, vu13, by simp only [Act.put, xL4, xL5, xL6], hbu, fun _ => rfl, fun h => fu1 (mark_of (by decide) h), fun h => fu2 (mark_of (by decide) h), fun h => fu3 (mark_of (by decide) h), fun h => fu4 (mark_of (by decide) h), fun h => fu5 (mark_of (by decide) h), fun h => fu6 (mark_of (by decide) h), fun h => fu7 (mark_of (by decide) h), fun h => fu8 (mark_of (by decide) h), fun h => fu9 (mark_of (by decide) h), fun h => fu10 (mark_of (by decide) h), fun h => fu11 (mark_of (by decide) h), fun h => fu12 (mark_of (by decide) h), fun h => fu13 (mark_of (by decide) h)⟩
     ·refine wpOp_shut (by rfl) (fun K hK => ?_)
      simp only [Act.put, xL4, xL5, xL6]
      go_simp
      exact hK.out _ _ ⟨vu0, (.pointer (some ⟨R0, 6, none⟩)), vu2, vu3, vu4, vu5, vu6, vu7, vu8, vu9, vu10, vu11, vu12, vu13, by simp only [Act.put, xL4, xL5, xL6], hbu, fun h => fu0 (mark_of (by decide) h), fun _ => rfl, fun h => fu2 (mark_of (by decide) h), fun h => fu3 (mark_of (by decide) h), fun h => fu4 (mark_of (by decide) h), fun h => fu5 (mark_of (by decide) h), fun h => fu6 (mark_of (by decide) h), fun h => fu7 (mark_of (by decide) h), fun h => fu8 (mark_of (by decide) h), fun h => fu9 (mark_of (by decide) h), fun h => fu10 (mark_of (by decide) h), fun h => fu11 (mark_of (by decide) h), fun h => fu12 (mark_of (by decide) h), fun h => fu13 (mark_of (by decide) h)⟩
     ·have eu1 := fu1 (dep_of 1 hru rfl (by kernel_rfl))
      replace eu1 := eu1.symm
      subst eu1
      refine wpOp_shut (by rfl) (fun K hK => ?_)
      simp only [Act.put, xL4, xL5, xL6]
      obtain ⟨y0, y1, y2, y3, y4, y5, y6, y7, y8, y9, y10, y11, y12, y13⟩ := VN.below hbu
      go_simp
      exact hK.out _ _ ⟨vu0, (.pointer (some ⟨R0, 6, none⟩)), (.int .i64 (rr : Int)), vu3, vu4, vu5, vu6, vu7, vu8, vu9, vu10, vu11, vu12, vu13, by simp only [Act.put, xL4, xL5, xL6], hbu, fun h => fu0 (mark_of (by decide) h), fun _ => rfl, fun _ => rfl, fun h => fu3 (mark_of (by decide) h), fun h => fu4 (mark_of (by decide) h), fun h => fu5 (mark_of (by decide) h), fun h => fu6 (mark_of (by decide) h), fun h => fu7 (mark_of (by decide) h), fun h => fu8 (mark_of (by decide) h), fun h => fu9 (mark_of (by decide) h), fun h => fu10 (mark_of (by decide) h), fun h => fu11 (mark_of (by decide) h), fun h => fu12 (mark_of (by decide) h), fun h => fu13 (mark_of (by decide) h)⟩
     ·have eu0 := fu0 (dep_of 0 hru rfl (by kernel_rfl))
      have eu2 := fu2 (dep_of 2 hru rfl (by kernel_rfl))
      replace eu0 := eu0.symm
      subst eu0
      replace eu2 := eu2.symm
      subst eu2
      refine wpOp_shut (by rfl) (fun K hK => ?_)
      simp only [Act.put, xL4, xL5, xL6]
      go_simp
      exact hK.out _ _ ⟨(.slice (some ⟨b, off, none⟩) n ct), vu1, (.int .i64 (rr : Int)), (.pointer (some ⟨b, off + rr * 14, none⟩)), vu4, vu5, vu6, vu7, vu8, vu9, vu10, vu11, vu12, vu13, by simp only [Act.put, xL4, xL5, xL6], hbu, fun _ => rfl, fun h => fu1 (mark_of (by decide) h), fun _ => rfl, fun _ => rfl, fun h => fu4 (mark_of (by decide) h), fun h => fu5 (mark_of (by decide) h), fun h => fu6 (mark_of (by decide) h), fun h => fu7 (mark_of (by decide) h), fun h => fu8 (mark_of (by decide) h), fun h => fu9 (mark_of (by decide) h), fun h => fu10 (mark_of (by decide) h), fun h => fu11 (mark_of (by decide) h), fun h => fu12 (mark_of (by decide) h), fun h => fu13 (mark_of (by decide) h)⟩
     ·have eu3 := fu3 (dep_of 3 hru rfl (by kernel_rfl))
      replace eu3 := eu3.symm
      subst eu3
      refine wpOp_shut (by rfl) (fun K hK => ?_)
      simp only [Act.put, xL4, xL5, xL6]
      go_simp
      exact hK.out _ _ ⟨vu0, vu1, vu2, (.pointer (some ⟨b, off + rr * 14, none⟩)), (.pointer (some ⟨b, off + rr * 14 + 11, none⟩)), vu5, vu6, vu7, vu8, vu9, vu10, vu11, vu12, vu13, by simp only [Act.put, xL4, xL5, xL6], hbu, fun h => fu0 (mark_of (by decide) h), fun h => fu1 (mark_of (by decide) h), fun h => fu2 (mark_of (by decide) h), fun _ => rfl, fun _ => rfl, fun h => fu5 (mark_of (by decide) h), fun h => fu6 (mark_of (by decide) h), fun h => fu7 (mark_of (by decide) h), fun h => fu8 (mark_of (by decide) h), fun h => fu9 (mark_of (by decide) h), fun h => fu10 (mark_of (by decide) h), fun h => fu11 (mark_of (by decide) h), fun h => fu12 (mark_of (by decide) h), fun h => fu13 (mark_of (by decide) h)⟩
     ·have eu4 := fu4 (dep_of 4 hru rfl (by kernel_rfl))
      replace eu4 := eu4.symm
      subst eu4
      refine wpOp_shut (by rfl) (fun K hK => ?_)
      simp only [Act.put, xL4, xL5, xL6]
      obtain ⟨XR_0, XR_1, XR_2⟩ := XR.below hbu
      go_simp
      exact hK.out _ _ ⟨vu0, vu1, vu2, vu3, (.pointer (some ⟨b, off + rr * 14 + 11, none⟩)), (.agg #[.bool p3R, .slice a3R n3R c3R, .slice b3R m3R d3R]), vu6, vu7, vu8, vu9, vu10, vu11, vu12, vu13, by simp only [Act.put, xL4, xL5, xL6], hbu, fun h => fu0 (mark_of (by decide) h), fun h => fu1 (mark_of (by decide) h), fun h => fu2 (mark_of (by decide) h), fun h => fu3 (mark_of (by decide) h), fun _ => rfl, fun _ => rfl, fun h => fu6 (mark_of (by decide) h), fun h => fu7 (mark_of (by decide) h), fun h => fu8 (mark_of (by decide) h), fun h => fu9 (mark_of (by decide) h), fun h => fu10 (mark_of (by decide) h), fun h => fu11 (mark_of (by decide) h), fun h => fu12 (mark_of (by decide) h), fun h => fu13 (mark_of (by decide) h)⟩
     ·refine wpOp_shut (by rfl) (fun K hK => ?_)
      simp only [Act.put, xL4, xL5, xL6]
      go_simp
      exact hK.out _ _ ⟨vu0, vu1, vu2, vu3, vu4, vu5, (.slice (some ⟨b, off, none⟩) n ct), vu7, vu8, vu9, vu10, vu11, vu12, vu13, by simp only [Act.put, xL4, xL5, xL6], hbu, fun h => fu0 (mark_of (by decide) h), fun h => fu1 (mark_of (by decide) h), fun h => fu2 (mark_of (by decide) h), fun h => fu3 (mark_of (by decide) h), fun h => fu4 (mark_of (by decide) h), fun h => fu5 (mark_of (by decide) h), fun _ => rfl, fun h => fu7 (mark_of (by decide) h), fun h => fu8 (mark_of (by decide) h), fun h => fu9 (mark_of (by decide) h), fun h => fu10 (mark_of (by decide) h), fun h => fu11 (mark_of (by decide) h), fun h => fu12 (mark_of (by decide) h), fun h => fu13 (mark_of (by decide) h)⟩
     ·refine wpOp_shut (by rfl) (fun K hK => ?_)
      simp only [Act.put, xL4, xL5, xL6]
      go_simp
      exact hK.out _ _ ⟨vu0, vu1, vu2, vu3, vu4, vu5, vu6, (.pointer (some ⟨R0, 6, none⟩)), vu8, vu9, vu10, vu11, vu12, vu13, by simp only [Act.put, xL4, xL5, xL6], hbu, fun h => fu0 (mark_of (by decide) h), fun h => fu1 (mark_of (by decide) h), fun h => fu2 (mark_of (by decide) h), fun h => fu3 (mark_of (by decide) h), fun h => fu4 (mark_of (by decide) h), fun h => fu5 (mark_of (by decide) h), fun h => fu6 (mark_of (by decide) h), fun _ => rfl, fun h => fu8 (mark_of (by decide) h), fun h => fu9 (mark_of (by decide) h), fun h => fu10 (mark_of (by decide) h), fun h => fu11 (mark_of (by decide) h), fun h => fu12 (mark_of (by decide) h), fun h => fu13 (mark_of (by decide) h)⟩
     ·have eu7 := fu7 (dep_of 7 hru rfl (by kernel_rfl))
      replace eu7 := eu7.symm
      subst eu7
      refine wpOp_shut (by rfl) (fun K hK => ?_)
      simp only [Act.put, xL4, xL5, xL6]
      obtain ⟨y0, y1, y2, y3, y4, y5, y6, y7, y8, y9, y10, y11, y12, y13⟩ := VN.below hbu
      go_simp
      exact hK.out _ _ ⟨vu0, vu1, vu2, vu3, vu4, vu5, vu6, (.pointer (some ⟨R0, 6, none⟩)), (.int .i64 (rr : Int)), vu9, vu10, vu11, vu12, vu13, by simp only [Act.put, xL4, xL5, xL6], hbu, fun h => fu0 (mark_of (by decide) h), fun h => fu1 (mark_of (by decide) h), fun h => fu2 (mark_of (by decide) h), fun h => fu3 (mark_of (by decide) h), fun h => fu4 (mark_of (by decide) h), fun h => fu5 (mark_of (by decide) h), fun h => fu6 (mark_of (by decide) h), fun _ => rfl, fun _ => rfl, fun h => fu9 (mark_of (by decide) h), fun h => fu10 (mark_of (by decide) h), fun h => fu11 (mark_of (by decide) h), fun h => fu12 (mark_of (by decide) h), fun h => fu13 (mark_of (by decide) h)⟩
     ·refine wpOp_shut (by rfl) (fun K hK => ?_)
      simp only [Act.put, xL4, xL5, xL6]
      go_simp
      exact hK.out _ _ ⟨vu0, vu1, vu2, vu3, vu4, vu5, vu6, vu7, vu8, (.slice ar nr cr), vu10, vu11, vu12, vu13, by simp only [Act.put, xL4, xL5, xL6], hbu, fun h => fu0 (mark_of (by decide) h), fun h => fu1 (mark_of (by decide) h), fun h => fu2 (mark_of (by decide) h), fun h => fu3 (mark_of (by decide) h), fun h => fu4 (mark_of (by decide) h), fun h => fu5 (mark_of (by decide) h), fun h => fu6 (mark_of (by decide) h), fun h => fu7 (mark_of (by decide) h), fun h => fu8 (mark_of (by decide) h), fun _ => rfl, fun h => fu10 (mark_of (by decide) h), fun h => fu11 (mark_of (by decide) h), fun h => fu12 (mark_of (by decide) h), fun h => fu13 (mark_of (by decide) h)⟩
     ·refine wpOp_shut (by rfl) (fun K hK => ?_)
      simp only [Act.put, xL4, xL5, xL6]
      go_simp
      exact hK.out _ _ ⟨vu0, vu1, vu2, vu3, vu4, vu5, vu6, vu7, vu8, vu9, (.int .u64 (s : Int)), vu11, vu12, vu13, by simp only [Act.put, xL4, xL5, xL6], hbu, fun h => fu0 (mark_of (by decide) h), fun h => fu1 (mark_of (by decide) h), fun h => fu2 (mark_of (by decide) h), fun h => fu3 (mark_of (by decide) h), fun h => fu4 (mark_of (by decide) h), fun h => fu5 (mark_of (by decide) h), fun h => fu6 (mark_of (by decide) h), fun h => fu7 (mark_of (by decide) h), fun h => fu8 (mark_of (by decide) h), fun h => fu9 (mark_of (by decide) h), fun _ => rfl, fun h => fu11 (mark_of (by decide) h), fun h => fu12 (mark_of (by decide) h), fun h => fu13 (mark_of (by decide) h)⟩
     ·have eu6 := fu6 (dep_of 6 hru rfl (by kernel_rfl))
      have eu8 := fu8 (dep_of 8 hru rfl (by kernel_rfl))
      have eu9 := fu9 (dep_of 9 hru rfl (by kernel_rfl))
      have eu10 := fu10 (dep_of 10 hru rfl (by kernel_rfl))
      replace eu6 := eu6.symm
      subst eu6
      replace eu8 := eu8.symm
      subst eu8
      replace eu9 := eu9.symm
      subst eu9
      replace eu10 := eu10.symm
      subst eu10
      refine wpOp_shut (by rfl) (fun K hK => ?_)
      simp only [Act.put, xL4, xL5, xL6]
      have ht := ht.below hbu
      have hr := hr.below hbu
      have hT := hT.below hbu
      go_simp
      refine (IH2.out _ ht hr hT).mono ?_
      rintro eu wx ⟨v11, rfl, h11, bu⟩
      go_wp2_with fail
      have hbu2 := hbu.trans (bu.mono hbu.size)
      exact hK.out _ _ ⟨vu0, vu1, vu2, vu3, vu4, vu5, (.slice (some ⟨b, off, none⟩) n ct), vu7, (.int .i64 (rr : Int)), (.slice ar nr cr), (.int .u64 (s : Int)), _, vu12, vu13, by simp only [Act.put, xL4, xL5, xL6], hbu2, fun h => fu0 (mark_of (by decide) h), fun h => fu1 (mark_of (by decide) h), fun h => fu2 (mark_of (by decide) h), fun h => fu3 (mark_of (by decide) h), fun h => fu4 (mark_of (by decide) h), fun h => fu5 (mark_of (by decide) h), fun _ => rfl, fun h => fu7 (mark_of (by decide) h), fun _ => rfl, fun _ => rfl, fun _ => rfl, fun _ => h11, fun h => (fu12 (mark_of (by decide) h)).below bu, fun h => (fu13 (mark_of (by decide) h)).below bu⟩
     ·have eu5 := fu5 (dep_of 5 hru rfl (by kernel_rfl))
      replace eu5 := eu5.symm
      subst eu5
      have h11 := fu11 (dep_of 11 hru rfl (by kernel_rfl))
      refine wpOp_shut (by rfl) (fun K hK => ?_)
      simp only [Act.put, xL4, xL5, xL6]
      have hT := hT.below hbu
      have r3R := r3R.below hbu
      go_simp
      refine (qmul_at _ _ (t rr).cov (say t n r s rr) M _ (r3R.le hLM) h11 (by omega) (by omega) hT).mono ?_
      rintro eu wx ⟨v12, rfl, h12, bu⟩
      go_wp2_with fail
      have hbu2 := hbu.trans (bu.mono hbu.size)
      exact hK.out _ _ ⟨vu0, vu1, vu2, vu3, vu4, (.agg #[.bool p3R, .slice a3R n3R c3R, .slice b3R m3R d3R]), vu6, vu7, vu8, vu9, vu10, vu11, _, vu13, by simp only [Act.put, xL4, xL5, xL6], hbu2, fun h => fu0 (mark_of (by decide) h), fun h => fu1 (mark_of (by decide) h), fun h => fu2 (mark_of (by decide) h), fun h => fu3 (mark_of (by decide) h), fun h => fu4 (mark_of (by decide) h), fun _ => rfl, fun h => fu6 (mark_of (by decide) h), fun h => fu7 (mark_of (by decide) h), fun h => fu8 (mark_of (by decide) h), fun h => fu9 (mark_of (by decide) h), fun h => fu10 (mark_of (by decide) h), fun h => (fu11 (mark_of (by decide) h)).below bu, fun _ => h12, fun h => (fu13 (mark_of (by decide) h)).below bu⟩
     ·refine wpOp_shut (by rfl) (fun K hK => ?_)
      simp only [Act.put, xL4, xL5, xL6]
      go_simp
      obtain ⟨wx, hWx, hSx, bu, VXu⟩ := V3.lay wn 34 (.bool false) (.slice none 0 0) (.slice none 0 0)
      rw [← hWx]
      have hbu2 := hbu.trans (bu.mono hbu.size)
      exact hK.out _ _ ⟨vu0, vu1, vu2, vu3, vu4, vu5, vu6, vu7, vu8, vu9, vu10, vu11, vu12, _, by simp only [Act.put, xL4, xL5, xL6], hbu2, fun h => fu0 (mark_of (by decide) h), fun h => fu1 (mark_of (by decide) h), fun h => fu2 (mark_of (by decide) h), fun h => fu3 (mark_of (by decide) h), fun h => fu4 (mark_of (by decide) h), fun h => fu5 (mark_of (by decide) h), fun h => fu6 (mark_of (by decide) h), fun h => fu7 (mark_of (by decide) h), fun h => fu8 (mark_of (by decide) h), fun h => fu9 (mark_of (by decide) h), fun h => fu10 (mark_of (by decide) h), fun h => (fu11 (mark_of (by decide) h)).below bu, fun h => (fu12 (mark_of (by decide) h)).below bu, fun _ => ⟨_, rfl, hbu.size, VXu⟩⟩
    rintro au Wu3 ⟨vu0, vu1, vu2, vu3, vu4, vu5, vu6, vu7, vu8, vu9, vu10, vu11, vu12, vu13, rfl, hbu, fu0, fu1, fu2, fu3, fu4, fu5, fu6, fu7, fu8, fu9, fu10, fu11, fu12, fu13⟩
    have eu0 := (fu0 rfl).symm
    subst eu0
    have eu1 := (fu1 rfl).symm
    subst eu1
    have eu2 := (fu2 rfl).symm
    subst eu2
    have eu3 := (fu3 rfl).symm
    subst eu3
    have eu4 := (fu4 rfl).symm
    subst eu4
    have eu5 := (fu5 rfl).symm
    subst eu5
    have eu6 := (fu6 rfl).symm
    subst eu6
    have eu7 := (fu7 rfl).symm
    subst eu7
    have eu8 := (fu8 rfl).symm
    subst eu8
    have eu9 := (fu9 rfl).symm
    subst eu9
    have eu10 := (fu10 rfl).symm
    subst eu10
    have h11 := fu11 rfl
    have h12 := fu12 rfl
    obtain ⟨RVB, rfl, hRVB, VB⟩ := fu13 rfl
    clear fu0 fu1 fu2 fu3 fu4 fu5 fu6 fu7 fu8 fu9 fu10 fu11 fu12 fu13
    have hlVR : w.heap.size < W2.heap.size := VR.lt
    have hlXL : b < W2.heap.size := XL.lt
    have hlVA : RVA < W2.heap.size := VA.lt
    have hlXR : b < W2.heap.size := XR.lt
    obtain ⟨pR8, aR8, nR8, cR8, yR8, mR8, dR8, rfl⟩ := h12.open
    simp only [Act.put, xL4, xL5, xL6]
    refine wpAnyH_ready (rs := [14]) (by kernel_rfl) (by simp) ?_
    refine AllReadyH.cons (by rfl) (fun K hK => ?_) AllReadyH.nil
    have hKp := VB.keepJ (.bool pR8) (.slice aR8 nR8 cR8) (.slice yR8 mR8 dR8)
    have VB_n := VB.same (.bool pR8) (.slice aR8 nR8 cR8) (.slice yR8 mR8 dR8)
    have h11_n := h11.keep hKp
    have h12_n := h12.keep hKp
    have hbu_n := below_store3 (R := RVB) hbu (by omega) (.bool pR8) (.slice aR8 nR8 cR8) (.slice yR8 mR8 dR8)
    clear hKp
    obtain ⟨VB_0, VB_1, VB_2, VB_3, VB_4, VB_5⟩ := id VB
    go_simp
    clear VB_0 VB_1 VB_2 VB_3 VB_4 VB_5
    clear hbu h11 h12 VB
    generalize ((Wu3.setCell ⟨RVB, 0, none⟩ (.bool pR8)).setCell ⟨RVB, 1, none⟩ (.slice aR8 nR8 cR8)).setCell ⟨RVB, 2, none⟩ (.slice yR8 mR8 dR8) = W4 at *
    have hbu := hbu_n
    have h11 := h11_n
    have h12 := h12_n
    have VB := VB_n
    clear hbu_n h11_n h12_n VB_n
    refine hK.out _ _ trivial (fun _ => ?_)
    clear hK K
    simp only [Act.put, xL4, xL5, xL6]
    replace ht := ht.below hbu
    replace hr := hr.below hbu
    replace hT := hT.below hbu
    replace r1 := r1.below hbu
    replace r2 := r2.below hbu
    replace r3 := r3.below hbu
    replace VN := VN.below hbu
    replace r3L := r3L.below hbu
    replace hA := hA.below hbu
    replace r3R := r3R.below hbu
    replace VR := VR.below hbu
    replace XL := XL.below hbu
    replace VA := VA.below hbu
    replace XR := XR.below hbu
    replace BB := BB.trans (hbu.mono BB.size)
    clear hbu
    refine wpAnyH_done (by kernel_rfl) ?_ _
    have hB := h12
    clear h12 h11
    obtain ⟨V_0, V_1, V_2, V_3, V_4, V_5, V_6, V_7, V_8, V_9, V_10, V_11, V_12, V_13⟩ := id VN
    go_wp2
    clear V_0 V_1 V_2 V_3 V_4 V_5 V_6 V_7 V_8 V_9 V_10 V_11 V_12 V_13
    have hSA : qsz ((t lr).cov * say t n r s lr) ≤ 2 * M := Nat.le_trans (qsz_mul _ _ (Nat.le_trans (r3L.qsz hL) hLM) HS1.out) (by omega)
    have hSB : qsz ((t rr).cov * say t n r s rr) ≤ 2 * M := Nat.le_trans (qsz_mul _ _ (Nat.le_trans (r3R.qsz hL) hLM) HS2.out) (by omega)
    have hSC : qsz ((t lr).cov * say t n r s lr + (t rr).cov * say t n r s rr) ≤ 4 * M + 1 := Nat.le_trans (qsz_add _ _ hSA hSB) (by omega)
    refine wp_region_float 10 8 #[true, true, true, true, true, true, true, true, true, true, false, false] #[true, true, true, true, true, true, true, true, false, true, false, false] (fun aF lsd a' w' => ∃ vu0 vu1 vu2 vu3 vu4 vu5 vu6 vu7 vu8 vu9 : Value, a' = (((((((((aF.put (some 72) vu0).put (some 73) vu1).put (some 74) vu2).put (some 75) vu3).put (some 76) vu4).put (some 77) vu5).put (some 71) vu6).put (some 78) vu7).put (some 79) vu8).put (some 12) vu9 ∧ Below W4.heap.size W4 w' ∧ (lsd.getD 0 false = true → vu0 = .agg #[.bool pL8, .slice aL8 nL8 cL8, .slice yL8 mL8 dL8]) ∧ (lsd.getD 1 false = true → vu1 = .agg #[.bool pR8, .slice aR8 nR8 cR8, .slice yR8 mR8 dR8]) ∧ (lsd.getD 2 false = true → RepQ w' vu2 ((t lr).cov * say t n r s lr + (t rr).cov * say t n r s rr)) ∧ (lsd.getD 3 false = true → vu3 = .pointer (some ⟨R0, 11, none⟩)) ∧ (lsd.getD 4 false = true → vu4 = .agg #[.bool p3, .slice a3 n3 c3, .slice b3 m3 d3]) ∧ (lsd.getD 5 false = true → Tup11 w' vu5 (((t lr).cov * say t n r s lr + (t rr).cov * say t n r s rr) / (t x).cov)) ∧ (lsd.getD 6 false = true → Tup11 w' vu6 (((t lr).cov * say t n r s lr + (t rr).cov * say t n r s rr) / (t x).cov)) ∧ (lsd.getD 7 false = true → RepQ w' vu7 (((t lr).cov * say t n r s lr + (t rr).cov * say t n r s rr) / (t x).cov)) ∧ (lsd.getD 8 false = true → vu8 = .int .i64 0) ∧ (lsd.getD 9 false = true → New3 W4.heap.size w' vu9 (.bool false) (.slice none 0 0) (.slice none 0 0))) (by kernel_rfl) (by decide) (by kernel_rfl) (by rfl) (by kernel_rfl) (by rfl) (by kernel_rfl) (by decide) ?_ ?_ ?_ ?_
    ·exact ⟨_, _, _, _, _, _, _, _, _, _, by simp only [Act.put, xL4, xL5, xL6]; rfl, (Below.refl _ _).drew, fun h => absurd h (fun h => mark_none h), fun h => absurd h (fun h => mark_none h), fun h => absurd h (fun h => mark_none h), fun h => absurd h (fun h => mark_none h), fun h => absurd h (fun h => mark_none h), fun h => absurd h (fun h => mark_none h), fun h => absurd h (fun h => mark_none h), fun h => absurd h (fun h => mark_none h), fun h => absurd h (fun h => mark_none h), fun h => absurd h (fun h => mark_none h)⟩
    ·rintro lsd au wn iu hszu ⟨vu0, vu1, vu2, vu3, vu4, vu5, vu6, vu7, vu8, vu9, rfl, hbu, fu0, fu1, fu2, fu3, fu4, fu5, fu6, fu7, fu8, fu9⟩ himu hru
     rcases (show iu = 0 ∨ iu = 1 ∨ iu = 2 ∨ iu = 3 ∨ iu = 4 ∨ iu = 5 ∨ iu = 6 ∨ iu = 7 ∨ iu = 8 ∨ iu = 9 by omega) with rfl | rfl | rfl | rfl | rfl | rfl | rfl | rfl | rfl | rfl
     ·refine wpOp_shut (by rfl) (fun K hK => ?_)
      simp only [Act.put, xL4, xL5, xL6]
      obtain ⟨VA_0, VA_1, VA_2, VA_3, VA_4, VA_5⟩ := VA.below hbu
      go_simp
      exact hK.out _ _ ⟨(.agg #[.bool pL8, .slice aL8 nL8 cL8, .slice yL8 mL8 dL8]), vu1, vu2, vu3, vu4, vu5, vu6, vu7, vu8, vu9, by simp only [Act.put, xL4, xL5, xL6], hbu, fun _ => rfl, fun h => fu1 (mark_of (by decide) h), fun h => fu2 (mark_of (by decide) h), fun h => fu3 (mark_of (by decide) h), fun h => fu4 (mark_of (by decide) h), fun h => fu5 (mark_of (by decide) h), fun h => fu6 (mark_of (by decide) h), fun h => fu7 (mark_of (by decide) h), fun h => fu8 (mark_of (by decide) h), fun h => fu9 (mark_of (by decide) h)⟩
     ·refine wpOp_shut (by rfl) (fun K hK => ?_)
      simp only [Act.put, xL4, xL5, xL6]
      obtain ⟨VB_0, VB_1, VB_2, VB_3, VB_4, VB_5⟩ := VB.below hbu
      go_simp
      exact hK.out _ _ ⟨vu0, (.agg #[.bool pR8, .slice aR8 nR8 cR8, .slice yR8 mR8 dR8]), vu2, vu3, vu4, vu5, vu6, vu7, vu8, vu9, by simp only [Act.put, xL4, xL5, xL6], hbu, fun h => fu0 (mark_of (by decide) h), fun _ => rfl, fun h => fu2 (mark_of (by decide) h), fun h => fu3 (mark_of (by decide) h), fun h => fu4 (mark_of (by decide) h), fun h => fu5 (mark_of (by decide) h), fun h => fu6 (mark_of (by decide) h), fun h => fu7 (mark_of (by decide) h), fun h => fu8 (mark_of (by decide) h), fun h => fu9 (mark_of (by decide) h)⟩
     ·have eu0 := fu0 (dep_of 0 hru rfl (by kernel_rfl))
      have eu1 := fu1 (dep_of 1 hru rfl (by kernel_rfl))
      replace eu0 := eu0.symm
      subst eu0
      replace eu1 := eu1.symm
      subst eu1
      refine wpOp_shut (by rfl) (fun K hK => ?_)
      simp only [Act.put, xL4, xL5, xL6]
      have hT := hT.below hbu
      have hA := hA.below hbu
      have hB := hB.below hbu
      go_simp
      refine (qadd_at _ _ ((t lr).cov * say t n r s lr) ((t rr).cov * say t n r s rr) (2 * M) _ (hA.at _ hSA) (hB.at _ hSB) (by omega) (by omega) hT).mono ?_
      rintro eu wx ⟨v2, rfl, h2_, bu⟩
      go_wp2_with fail
      have hbu2 := hbu.trans (bu.mono hbu.size)
      exact hK.out _ _ ⟨(.agg #[.bool pL8, .slice aL8 nL8 cL8, .slice yL8 mL8 dL8]), (.agg #[.bool pR8, .slice aR8 nR8 cR8, .slice yR8 mR8 dR8]), _, vu3, vu4, vu5, vu6, vu7, vu8, vu9, by simp only [Act.put, xL4, xL5, xL6], hbu2, fun _ => rfl, fun _ => rfl, fun _ => h2_, fun h => fu3 (mark_of (by decide) h), fun h => fu4 (mark_of (by decide) h), fun h => (fu5 (mark_of (by decide) h)).below bu, fun h => (fu6 (mark_of (by decide) h)).below bu, fun h => (fu7 (mark_of (by decide) h)).below bu, fun h => fu8 (mark_of (by decide) h), fun h => (fu9 (mark_of (by decide) h)).below bu⟩
     ·refine wpOp_shut (by rfl) (fun K hK => ?_)
      simp only [Act.put, xL4, xL5, xL6]
      go_simp
      exact hK.out _ _ ⟨vu0, vu1, vu2, (.pointer (some ⟨R0, 11, none⟩)), vu4, vu5, vu6, vu7, vu8, vu9, by simp only [Act.put, xL4, xL5, xL6], hbu, fun h => fu0 (mark_of (by decide) h), fun h => fu1 (mark_of (by decide) h), fun h => fu2 (mark_of (by decide) h), fun _ => rfl, fun h => fu4 (mark_of (by decide) h), fun h => fu5 (mark_of (by decide) h), fun h => fu6 (mark_of (by decide) h), fun h => fu7 (mark_of (by decide) h), fun h => fu8 (mark_of (by decide) h), fun h => fu9 (mark_of (by decide) h)⟩
     ·have eu3 := fu3 (dep_of 3 hru rfl (by kernel_rfl))
      replace eu3 := eu3.symm
      subst eu3
      refine wpOp_shut (by rfl) (fun K hK => ?_)
      simp only [Act.put, xL4, xL5, xL6]
      obtain ⟨y0, y1, y2, y3, y4, y5, y6, y7, y8, y9, y10, y11, y12, y13⟩ := VN.below hbu
      go_simp
      exact hK.out _ _ ⟨vu0, vu1, vu2, (.pointer (some ⟨R0, 11, none⟩)), (.agg #[.bool p3, .slice a3 n3 c3, .slice b3 m3 d3]), vu5, vu6, vu7, vu8, vu9, by simp only [Act.put, xL4, xL5, xL6], hbu, fun h => fu0 (mark_of (by decide) h), fun h => fu1 (mark_of (by decide) h), fun h => fu2 (mark_of (by decide) h), fun _ => rfl, fun _ => rfl, fun h => fu5 (mark_of (by decide) h), fun h => fu6 (mark_of (by decide) h), fun h => fu7 (mark_of (by decide) h), fun h => fu8 (mark_of (by decide) h), fun h => fu9 (mark_of (by decide) h)⟩
     ·have eu4 := fu4 (dep_of 4 hru rfl (by kernel_rfl))
      replace eu4 := eu4.symm
      subst eu4
      have h2_ := fu2 (dep_of 2 hru rfl (by kernel_rfl))
      refine wpOp_shut (by rfl) (fun K hK => ?_)
      simp only [Act.put, xL4, xL5, xL6]
      have hT := hT.below hbu
      have r3 := r3.below hbu
      go_simp
      refine (qdiv_at _ _ ((t lr).cov * say t n r s lr + (t rr).cov * say t n r s rr) (t x).cov (4 * M + 1) _ (h2_.at _ hSC) (r3.le (by omega)) (by omega) (by omega) hT HCV.out).mono ?_
      rintro eu wx ⟨x12, rfl, hx12, bu⟩
      have T5 : Tup11 wx _ _ := ⟨x12, rfl, hx12⟩
      go_wp2_with fail
      have hbu2 := hbu.trans (bu.mono hbu.size)
      exact hK.out _ _ ⟨vu0, vu1, vu2, vu3, (.agg #[.bool p3, .slice a3 n3 c3, .slice b3 m3 d3]), _, vu6, vu7, vu8, vu9, by simp only [Act.put, xL4, xL5, xL6], hbu2, fun h => fu0 (mark_of (by decide) h), fun h => fu1 (mark_of (by decide) h), fun h => (fu2 (mark_of (by decide) h)).below bu, fun h => fu3 (mark_of (by decide) h), fun _ => rfl, fun _ => T5, fun h => (fu6 (mark_of (by decide) h)).below bu, fun h => (fu7 (mark_of (by decide) h)).below bu, fun h => fu8 (mark_of (by decide) h), fun h => (fu9 (mark_of (by decide) h)).below bu⟩
     ·have T5 := fu5 (dep_of 5 hru rfl (by kernel_rfl))
      obtain ⟨xT, rfl, hxT⟩ := T5
      refine wpOp_shut (by rfl) (fun K hK => ?_)
      simp only [Act.put, xL4, xL5, xL6]
      go_simp
      exact hK.out _ _ ⟨vu0, vu1, vu2, vu3, vu4, (.tuple #[xT, .int .i64 0]), (.tuple #[xT, .int .i64 0]), vu7, vu8, vu9, by simp only [Act.put, xL4, xL5, xL6], hbu, fun h => fu0 (mark_of (by decide) h), fun h => fu1 (mark_of (by decide) h), fun h => fu2 (mark_of (by decide) h), fun h => fu3 (mark_of (by decide) h), fun h => fu4 (mark_of (by decide) h), fun h => fu5 (mark_of (by decide) h), fun _ => ⟨xT, rfl, hxT⟩, fun h => fu7 (mark_of (by decide) h), fun h => fu8 (mark_of (by decide) h), fun h => fu9 (mark_of (by decide) h)⟩
     ·have T6 := fu6 (dep_of 6 hru rfl (by kernel_rfl))
      obtain ⟨xT, rfl, hxT⟩ := T6
      refine wpOp_shut (by rfl) (fun K hK => ?_)
      simp only [Act.put, xL4, xL5, xL6]
      go_simp
      exact hK.out _ _ ⟨vu0, vu1, vu2, vu3, vu4, vu5, (.tuple #[xT, .int .i64 0]), xT, vu8, vu9, by simp only [Act.put, xL4, xL5, xL6], hbu, fun h => fu0 (mark_of (by decide) h), fun h => fu1 (mark_of (by decide) h), fun h => fu2 (mark_of (by decide) h), fun h => fu3 (mark_of (by decide) h), fun h => fu4 (mark_of (by decide) h), fun h => fu5 (mark_of (by decide) h), fun h => fu6 (mark_of (by decide) h), fun _ => hxT, fun h => fu8 (mark_of (by decide) h), fun h => fu9 (mark_of (by decide) h)⟩
     ·have T6 := fu6 (dep_of 6 hru rfl (by kernel_rfl))
      obtain ⟨xT, rfl, hxT⟩ := T6
      refine wpOp_shut (by rfl) (fun K hK => ?_)
      simp only [Act.put, xL4, xL5, xL6]
      go_simp
      exact hK.out _ _ ⟨vu0, vu1, vu2, vu3, vu4, vu5, (.tuple #[xT, .int .i64 0]), vu7, (.int .i64 0), vu9, by simp only [Act.put, xL4, xL5, xL6], hbu, fun h => fu0 (mark_of (by decide) h), fun h => fu1 (mark_of (by decide) h), fun h => fu2 (mark_of (by decide) h), fun h => fu3 (mark_of (by decide) h), fun h => fu4 (mark_of (by decide) h), fun h => fu5 (mark_of (by decide) h), fun h => fu6 (mark_of (by decide) h), fun h => fu7 (mark_of (by decide) h), fun _ => rfl, fun h => fu9 (mark_of (by decide) h)⟩
     ·refine wpOp_shut (by rfl) (fun K hK => ?_)
      simp only [Act.put, xL4, xL5, xL6]
      go_simp
      obtain ⟨wx, hWx, hSx, bu, VXu⟩ := V3.lay wn 34 (.bool false) (.slice none 0 0) (.slice none 0 0)
      rw [← hWx]
      have hbu2 := hbu.trans (bu.mono hbu.size)
      exact hK.out _ _ ⟨vu0, vu1, vu2, vu3, vu4, vu5, vu6, vu7, vu8, _, by simp only [Act.put, xL4, xL5, xL6], hbu2, fun h => fu0 (mark_of (by decide) h), fun h => fu1 (mark_of (by decide) h), fun h => (fu2 (mark_of (by decide) h)).below bu, fun h => fu3 (mark_of (by decide) h), fun h => fu4 (mark_of (by decide) h), fun h => (fu5 (mark_of (by decide) h)).below bu, fun h => (fu6 (mark_of (by decide) h)).below bu, fun h => (fu7 (mark_of (by decide) h)).below bu, fun h => fu8 (mark_of (by decide) h), fun _ => ⟨_, rfl, hbu.size, VXu⟩⟩
    ·rintro au wn ⟨vu0, vu1, vu2, vu3, vu4, vu5, vu6, vu7, vu8, vu9, rfl, hbu, fu0, fu1, fu2, fu3, fu4, fu5, fu6, fu7, fu8, fu9⟩ hfin
     have T6 := fu6 rfl
     obtain ⟨xT, rfl, hxT⟩ := T6
     simp only [Act.put, xL4, xL5, xL6]
     refine wpAnyH_take (i := 8) (v := .int .i64 0) (by simp only [xL1, xL2, xL3]; rfl) (by kernel_rfl) (by kernel_rfl) (by kernel_rfl) (by exact fun _ _ _ h => h) (Or.inl ⟨by rfl, ?_⟩) trivial ?_
     ·(intro w hSw; go_simp; (try with_reducible rfl))
     simp only [Act.put, xL4, xL5, xL6]
     exact hfin _ _ ⟨vu0, vu1, vu2, vu3, vu4, vu5, (.tuple #[xT, .int .i64 0]), vu7, (.int .i64 0), vu9, by simp only [Act.put, xL4, xL5, xL6], hbu, fun _ => fu0 rfl, fun _ => fu1 rfl, fun _ => fu2 rfl, fun _ => fu3 rfl, fun _ => fu4 rfl, fun _ => fu5 rfl, fun _ => fu6 rfl, fun _ => fu7 rfl, fun _ => rfl, fun _ => fu9 rfl⟩
    rintro au Wu5 ⟨vu0, vu1, vu2, vu3, vu4, vu5, vu6, vu7, vu8, vu9, rfl, hbu, fu0, fu1, fu2, fu3, fu4, fu5, fu6, fu7, fu8, fu9⟩
    have eu0 := (fu0 rfl).symm
    subst eu0
    have eu1 := (fu1 rfl).symm
    subst eu1
    have h2_ := fu2 rfl
    have eu3 := (fu3 rfl).symm
    subst eu3
    have eu4 := (fu4 rfl).symm
    subst eu4
    have T5 := fu5 rfl
    have T6 := fu6 rfl
    have hq := fu7 rfl
    have eu8 := (fu8 rfl).symm
    subst eu8
    obtain ⟨RVC, rfl, hRVC, VC⟩ := fu9 rfl
    clear fu0 fu1 fu2 fu3 fu4 fu5 fu6 fu7 fu8 fu9
    have hlVR : w.heap.size < W4.heap.size := VR.lt
    have hlXL : b < W4.heap.size := XL.lt
    have hlVA : RVA < W4.heap.size := VA.lt
    have hlXR : b < W4.heap.size := XR.lt
    have hlVB : RVB < W4.heap.size := VB.lt
    obtain ⟨p9, a9, n9, c9, y9, m9, d9, rfl⟩ := hq.open
    simp only [Act.put, xL4, xL5, xL6]
    refine wpAnyH_ready (rs := [10]) (by kernel_rfl) (by simp) ?_
    refine AllReadyH.cons (by rfl) (fun K hK => ?_) AllReadyH.nil
    have hKp := VC.keepJ (.bool p9) (.slice a9 n9 c9) (.slice y9 m9 d9)
    have VC_n := VC.same (.bool p9) (.slice a9 n9 c9) (.slice y9 m9 d9)
    have h2__n := h2_.keep hKp
    have T5_n := T5.keep hKp
    have T6_n := T6.keep hKp
    have hq_n := hq.keep hKp
    have hbu_n := below_store3 (R := RVC) hbu (by omega) (.bool p9) (.slice a9 n9 c9) (.slice y9 m9 d9)
    clear hKp
    obtain ⟨VC_0, VC_1, VC_2, VC_3, VC_4, VC_5⟩ := id VC
    go_simp
    clear VC_0 VC_1 VC_2 VC_3 VC_4 VC_5
    clear hbu h2_ T5 T6 hq VC
    generalize ((Wu5.setCell ⟨RVC, 0, none⟩ (.bool p9)).setCell ⟨RVC, 1, none⟩ (.slice a9 n9 c9)).setCell ⟨RVC, 2, none⟩ (.slice y9 m9 d9) = W6 at *
    have hbu := hbu_n
    have h2_ := h2__n
    have T5 := T5_n
    have T6 := T6_n
    have hq := hq_n
    have VC := VC_n
    clear hbu_n h2__n T5_n T6_n hq_n VC_n
    refine hK.out _ _ trivial (fun _ => ?_)
    clear hK K
    simp only [Act.put, xL4, xL5, xL6]
    refine wpAnyH_ready (rs := [11]) (by kernel_rfl) (by simp) ?_
    refine AllReadyH.cons (by rfl) (fun K hK => ?_) AllReadyH.nil
    go_simp
    refine hK.out _ _ trivial (fun _ => ?_)
    clear hK K
    simp only [Act.put, xL4, xL5, xL6]
    replace ht := ht.below hbu
    replace hr := hr.below hbu
    replace hT := hT.below hbu
    replace r1 := r1.below hbu
    replace r2 := r2.below hbu
    replace r3 := r3.below hbu
    replace VN := VN.below hbu
    replace r3L := r3L.below hbu
    replace hA := hA.below hbu
    replace r3R := r3R.below hbu
    replace hB := hB.below hbu
    replace VR := VR.below hbu
    replace XL := XL.below hbu
    replace VA := VA.below hbu
    replace XR := XR.below hbu
    replace VB := VB.below hbu
    replace BB := BB.trans (hbu.mono BB.size)
    clear hbu
    refine wpAnyH_done (by kernel_rfl) ?_ _
    rw [← HSV.out] at hq
    clear h2_ T5 T6 hA hB ht hr hT r1 r2 r3 r3L r3R VN VA VB XL XR hSA hSB hSC hRVC hlVR hlXL hlVA hlXR hlVB hRVA hRVB IH1 IH2 HS1 HS2 HCV hccL hc6L hccR hc6R NN
    have hKp := VR.keepJ (.bool p9) (.slice a9 n9 c9) (.slice y9 m9 d9)
    have hq_n := hq.keep hKp
    have BB_n := below_store3 (R := w.heap.size) BB (by omega) (.bool p9) (.slice a9 n9 c9) (.slice y9 m9 d9)
    clear hKp
    obtain ⟨VC_0, VC_1, VC_2, VC_3, VC_4, VC_5⟩ := id VC
    obtain ⟨q1, q2, q3, q4, q5, q6⟩ := id VR
    repeat go_step
    (try simp only [Exit.inBlock, Exit.then])
    refine bodyPost_ret (v := .agg #[.bool p9, .slice a9 n9 c9, .slice y9 m9 d9]) (by simp [results, go_sem, q1, q2, q3]) rfl ?_
    exact ⟨_, rfl, hq_n.at _ HS0.out, BB_n⟩
   ·have HSV : Hid (say t n r s x = say t n r s (nxt (t x) r)) := HSI.out rfl
    clear HSO HSI
    obtain ⟨b4, off4, c94, p4, a4, n4, c4, bb4, m4, d4, hv4, hcc4, hc64, X0, X1, X2, X3, r4⟩ := hr.at hfl
    cases hv4
    obtain ⟨cm, hcm⟩ : ∃ z, (r fn).miss = z := ⟨_, rfl⟩
    rw [hcm] at X0 HCON
    clear hcm
    have QC : Quad10 W1 b4 (off4 + fn * 4) (.bool cm) (.bool p4) (.slice a4 n4 c4) (.slice bb4 m4 d4) := ⟨X0, X1, X2, X3⟩
    clear X0 X1 X2 X3
    go_wp2
    have hDr : Below W1.heap.size W1 W1.drew := (Below.refl _ _).drew
    replace ht := ht.below hDr
    replace hr := hr.below hDr
    replace hT := hT.below hDr
    replace r1 := r1.below hDr
    replace r2 := r2.below hDr
    replace r3 := r3.below hDr
    replace VN := VN.below hDr
    replace r4 := r4.below hDr
    replace QC := QC.below hDr
    replace VR := VR.below hDr
    replace BB := BB.trans (hDr.mono BB.size)
    clear hDr
    refine wp_region_held_drew (S := (fun w' => w'.cell? ⟨R0, 0, none⟩ = some (.bool false) ∧ w'.cell? ⟨R0, 1, none⟩ = some (.int .i64 (fn : Int)) ∧ w'.cell? ⟨R0, 2, none⟩ = some (.bool p1) ∧ w'.cell? ⟨R0, 3, none⟩ = some (.slice a1 n1 c1) ∧ w'.cell? ⟨R0, 4, none⟩ = some (.slice b1 m1 d1) ∧ w'.cell? ⟨R0, 5, none⟩ = some (.int .i64 (lr : Int)) ∧ w'.cell? ⟨R0, 6, none⟩ = some (.int .i64 (rr : Int)) ∧ w'.cell? ⟨R0, 7, none⟩ = some (.bool ms) ∧ w'.cell? ⟨R0, 8, none⟩ = some (.bool p2) ∧ w'.cell? ⟨R0, 9, none⟩ = some (.slice a2 n2 c2) ∧ w'.cell? ⟨R0, 10, none⟩ = some (.slice b2 m2 d2) ∧ w'.cell? ⟨R0, 11, none⟩ = some (.bool p3) ∧ w'.cell? ⟨R0, 12, none⟩ = some (.slice a3 n3 c3) ∧ w'.cell? ⟨R0, 13, none⟩ = some (.slice b3 m3 d3) ∧ w'.cell? ⟨b4, off4 + fn * 4, none⟩ = some (.bool cm) ∧ w'.cell? ⟨b4, off4 + fn * 4 + 1, none⟩ = some (.bool p4) ∧ w'.cell? ⟨b4, off4 + fn * 4 + 2, none⟩ = some (.slice a4 n4 c4) ∧ w'.cell? ⟨b4, off4 + fn * 4 + 3, none⟩ = some (.slice bb4 m4 d4))) (by kernel_rfl) ?_ (fun hHeld => ?_)
    ·exact ⟨VN.c0, VN.c1, VN.c2, VN.c3, VN.c4, VN.c5, VN.c6, VN.c7, VN.c8, VN.c9, VN.c10, VN.c11, VN.c12, VN.c13, QC.out.1, QC.out.2.1, QC.out.2.2.1, QC.out.2.2.2⟩
    generalize W1.drew = W1 at *
    refine wpAnyH_take (i := 0) (v := ?_) (by simp only [xL1, xL2, xL3]; rfl) (by kernel_rfl) (by kernel_rfl) (by kernel_rfl) (by exact fun _ _ _ h => h) (Or.inl ⟨by rfl, ?_⟩) (by assumption) ?_
    rotate_left
    ·(intro w hSw; (try dsimp only at hSw); go_simp; (try with_reducible rfl))
    (try simp only [Act.put, xL4, xL5, xL6])
    refine wpAnyH_take (i := 1) (v := ?_) (by simp only [xL1, xL2, xL3]; rfl) (by kernel_rfl) (by kernel_rfl) (by kernel_rfl) (by exact fun _ _ _ h => h) (Or.inl ⟨by rfl, ?_⟩) (by assumption) ?_
    rotate_left
    ·(intro w hSw; (try dsimp only at hSw); go_simp; (try with_reducible rfl))
    (try simp only [Act.put, xL4, xL5, xL6])
    refine wpAnyH_take (i := 2) (v := ?_) (by simp only [xL1, xL2, xL3]; rfl) (by kernel_rfl) (by kernel_rfl) (by kernel_rfl) (by exact fun _ _ _ h => h) (Or.inl ⟨by rfl, ?_⟩) (by assumption) ?_
    rotate_left
    ·(intro w hSw; (try dsimp only at hSw); go_simp; (try with_reducible rfl))
    (try simp only [Act.put, xL4, xL5, xL6])
    refine wpAnyH_take (i := 3) (v := ?_) (by simp only [xL1, xL2, xL3]; rfl) (by kernel_rfl) (by kernel_rfl) (by kernel_rfl) (by exact fun _ _ _ h => h) (Or.inl ⟨by rfl, ?_⟩) (by assumption) ?_
    rotate_left
    ·(intro w hSw; (try dsimp only at hSw); go_simp; (try with_reducible rfl))
    (try simp only [Act.put, xL4, xL5, xL6])
    refine wpAnyH_take (i := 4) (v := ?_) (by simp only [xL1, xL2, xL3]; rfl) (by kernel_rfl) (by kernel_rfl) (by kernel_rfl) (by exact fun _ _ _ h => h) (Or.inl ⟨by rfl, ?_⟩) (by assumption) ?_
    rotate_left
    ·(intro w hSw; (try dsimp only at hSw); go_simp; (try with_reducible rfl))
    (try simp only [Act.put, xL4, xL5, xL6])
    refine wpAnyH_take (i := 5) (v := ?_) (by simp only [xL1, xL2, xL3]; rfl) (by kernel_rfl) (by kernel_rfl) (by kernel_rfl) (by exact fun _ _ _ h => h) (Or.inl ⟨by rfl, ?_⟩) (by assumption) ?_
    rotate_left
    ·(intro w hSw; (try dsimp only at hSw); go_simp; (try with_reducible rfl))
    (try simp only [Act.put, xL4, xL5, xL6])
    refine wpAnyH_ready (rs := [6]) (by kernel_rfl) (by simp) ?_
    refine AllReadyH.cons (by simp only [xL1, xL2, xL3]; rfl) (fun K hK => ?_) AllReadyH.nil
    go_simp
    refine (HCON.out _ r1 _ _ _ _ _ _ _ r4).mono ?_
    rintro e w1 ⟨rfl, b1⟩
    obtain ⟨g, hg⟩ : ∃ g, goL (t x) (r fn) = g := ⟨_, rfl⟩
    rw [hg] at HO ⊢
    clear hg HCON
    go_wp2_with fail
    replace ht := ht.below b1
    replace hr := hr.below b1
    replace hT := hT.below b1
    replace r1 := r1.below b1
    replace r2 := r2.below b1
    replace r3 := r3.below b1
    replace VN := VN.below b1
    replace r4 := r4.below b1
    replace QC := QC.below b1
    replace VR := VR.below b1
    replace BB := BB.trans (b1.mono BB.size)
    clear b1
    refine hK.out _ _ ?_ (fun hH1 => ?_)
    ·exact ⟨VN.c0, VN.c1, VN.c2, VN.c3, VN.c4, VN.c5, VN.c6, VN.c7, VN.c8, VN.c9, VN.c10, VN.c11, VN.c12, VN.c13, QC.out.1, QC.out.2.1, QC.out.2.2.1, QC.out.2.2.2⟩
    clear hK K hHeld
    (try simp only [Act.put, xL4, xL5, xL6])
    refine wpAnyH_done (by kernel_rfl) ?_ _
    clear hH1
    cases g
    ·have HO2 : nxt (t x) r = rr := HO.out
     rw [HO2] at HSV
     clear HO HO2
     obtain ⟨V_0, V_1, V_2, V_3, V_4, V_5, V_6, V_7, V_8, V_9, V_10, V_11, V_12, V_13⟩ := id VN
     go_wp2_with fail
     clear V_0 V_1 V_2 V_3 V_4 V_5 V_6 V_7 V_8 V_9 V_10 V_11 V_12 V_13
     refine (IH2.out _ ht hr hT).mono ?_
     rintro e w2 ⟨v9, rfl, h9, b2⟩
     replace ht := ht.below b2
     replace hr := hr.below b2
     replace hT := hT.below b2
     replace r1 := r1.below b2
     replace r2 := r2.below b2
     replace r3 := r3.below b2
     replace VN := VN.below b2
     replace r4 := r4.below b2
     replace QC := QC.below b2
     replace VR := VR.below b2
     replace BB := BB.trans (b2.mono BB.size)
     clear b2
     obtain ⟨p9, a9, n9, c9, y9, m9, d9, rfl⟩ := h9.open
     rw [← HSV.out] at h9
     have hKp := VR.keepJ (.bool p9) (.slice a9 n9 c9) (.slice y9 m9 d9)
     have h9_n := h9.keep hKp
     have BB_n := below_store3 (R := w.heap.size) BB (by omega) (.bool p9) (.slice a9 n9 c9) (.slice y9 m9 d9)
     clear hKp
     obtain ⟨q1, q2, q3, q4, q5, q6⟩ := id VR
     dsimp only; repeat go_step
     (try simp only [Exit.inBlock, Exit.then])
     refine bodyPost_ret (v := .agg #[.bool p9, .slice a9 n9 c9, .slice y9 m9 d9]) (by simp [results, go_sem, q1, q2, q3]) rfl ?_
     exact ⟨_, rfl, h9_n, BB_n⟩
    ·have HO2 : nxt (t x) r = lr := HO.out
     rw [HO2] at HSV
     clear HO HO2
     obtain ⟨V_0, V_1, V_2, V_3, V_4, V_5, V_6, V_7, V_8, V_9, V_10, V_11, V_12, V_13⟩ := id VN
     go_wp2_with fail
     clear V_0 V_1 V_2 V_3 V_4 V_5 V_6 V_7 V_8 V_9 V_10 V_11 V_12 V_13
     refine (IH1.out _ ht hr hT).mono ?_
     rintro e w2 ⟨v9, rfl, h9, b2⟩
     replace ht := ht.below b2
     replace hr := hr.below b2
     replace hT := hT.below b2
     replace r1 := r1.below b2
     replace r2 := r2.below b2
     replace r3 := r3.below b2
     replace VN := VN.below b2
     replace r4 := r4.below b2
     replace QC := QC.below b2
     replace VR := VR.below b2
     replace BB := BB.trans (b2.mono BB.size)
     clear b2
     obtain ⟨p9, a9, n9, c9, y9, m9, d9, rfl⟩ := h9.open
     rw [← HSV.out] at h9
     have hKp := VR.keepJ (.bool p9) (.slice a9 n9 c9) (.slice y9 m9 d9)
     have h9_n := h9.keep hKp
     have BB_n := below_store3 (R := w.heap.size) BB (by omega) (.bool p9) (.slice a9 n9 c9) (.slice y9 m9 d9)
     clear hKp
     obtain ⟨q1, q2, q3, q4, q5, q6⟩ := id VR
     dsimp only; repeat go_step
     (try simp only [Exit.inBlock, Exit.then])
     refine bodyPost_ret (v := .agg #[.bool p9, .slice a9 n9 c9, .slice y9 m9 d9]) (by simp [results, go_sem, q1, q2, q3]) rfl ?_
     exact ⟨_, rfl, h9_n, BB_n⟩
  ·have HW : Hid (say t n r s x = (t x).val) := say_leaf hlf
   clear hlf ht hr r1 r3 i1 i2 i3 hT r2
   have BB_n : Below w.heap.size w ((w.alloc (.cells #[.bool p2, .slice a2 n2 c2, .slice b2 m2 d2] 34)).alloc (.cells #[.bool true, .int .i64 (t x).feat, .bool p1, .slice a1 n1 c1, .slice b1 m1 d1, .int .i64 (t x).left, .int .i64 (t x).right, .bool (t x).miss, .bool p2, .slice a2 n2 c2, .slice b2 m2 d2, .bool p3, .slice a3 n3 c3, .slice b3 m3 d3] 58)) := ((Below.refl _ _).alloc (Nat.le_refl _) _).alloc (by simp) _
   have r2_n := r2w.below BB_n
   obtain ⟨q1, q2, q3, q4, q5, q6⟩ := id VR
   rw [hW1, hW0] at q1 q2 q3 q4 q5 q6
   clear r2w VR BB VN FN
   go_wp2
   (try simp only [Exit.inBlock, Exit.then])
   refine bodyPost_ret (v := .agg #[.bool p2, .slice a2 n2 c2, .slice b2 m2 d2]) (by simp [results, go_sem, q1, q2, q3]) rfl ?_
   exact ⟨_, rfl, by rw [HW.out]; exact r2_n.le hLM, BB_n⟩
theorem lbelow_at (vt vr : Value) (n nr : Nat) (t : Nat → Nd) (r : Nat → Cl) (s L M : Nat) (w : World) (hL : 1 ≤ L) (hLM : L ≤ M) (hM : M ≤ 10000) (hs : s < 18446744073709551616) (hnr : nr ≤ 64) (hm : MayT (nr : Int) t n) (hS : ∀ x, x < n → qsz (say t n r s x) ≤ M) (ht : TRow w vt n t L) (hr : CRow w vr nr r L) (hT : Tab w) :
  Calls Tryz.prog 40 #[vt, .int .i64 0, vr, .int .u64 (s : Int)] w fun e w' => ∃ v, e = .returned v ∧ RatAt w' v (say t n r s 0) M ∧ Below w.heap.size w w' :=
 lbelow_ind vt vr n nr t r s L M hL hLM hM hs hnr hm hS (n + 1) 0 w (by have := hm.pos; omega) (by omega) ht hr hT

/-- What each tree says where a set is known. -/
def sayV (T : Nat → Nat → Nd) (N : Nat → Nat) (r : Nat → Cl) (s i : Nat) : Rat := say (T i) (N i) r s 0


set_option maxRecDepth 100000 in
set_option maxHeartbeats 16000000 in
theorem lvalue11_at (F : Int) (vm vr : Value) (k nr : Nat) (N : Nat → Nat) (T : Nat → Nat → Nd) (r : Nat → Cl) (s L M : Nat) (w : World) (hM : MRow w vm k N T L) (hR : CRow w vr nr r L) (hT : Tab w) (hL : 1 ≤ L) (hLM : L ≤ M) (hMM : M ≤ 10000) (hk : k ≤ 6) (hs : s < 18446744073709551616) (hnr : nr ≤ 64) (hm : ∀ i, i < k → MayT (nr : Int) (T i) (N i)) (hS : ∀ i, i < k → ∀ x, x < N i → qsz (say (T i) (N i) r s x) ≤ M) :
  Calls Tryz.prog 14 #[.agg #[.int .i64 F, vm], vr, .int .u64 (s : Int)] w fun e w' => ∃ x, e = .returned x ∧ RepQ w' x (sumq (sayV T N r s) k) ∧ Below w.heap.size w w' := by
 obtain ⟨ao, c, rfl, hnc, hc63⟩ := hM.open
 obtain ⟨ar, cr, rfl, hrc, hr63⟩ := hR.open
 have HSZ : Hid (∀ i, i ≤ k → qsz (sumq (sayV T N r s) i) ≤ 6 * (M + 1) + 1) := fun i hi => by
  have h1 := qsz_sumq (sayV T N r s) M i (fun j hj => hS j (by omega) 0 (hm j (by omega)).pos)
  have h2 := Nat.mul_le_mul_right (M + 1) (Nat.le_trans hi hk)
  omega
 have HM0 : Hid (MRow w (.slice ao k c) k N T L) := hM
 have HR0 : Hid (CRow w (.slice ar nr cr) nr r L) := hR
 have HT0 : Hid (Tab w) := hT
 have HMY : Hid (∀ i, i < k → MayT (nr : Int) (T i) (N i)) := hm
 have HSS : Hid (∀ i, i < k → ∀ x, x < N i → qsz (say (T i) (N i) r s x) ≤ M) := hS
 clear hM hR hT hm hS
 have BB : Below w.heap.size w w := Below.refl _ _
 obtain ⟨Wb0, hW0, hS0, hL0, VM⟩ := V2.lay w 24 (.int .i64 F) (.slice ao k c)
 replace BB := BB.trans (hL0.mono BB.size)
 clear hL0
 obtain ⟨Wb1, hW1, hS1, hL1, VR⟩ := V3.lay Wb0 34 (.bool false) (.slice none 0 0) (.slice none 0 0)
 rw [hS0] at VR hS1
 replace VM := VM.below hL1
 replace BB := BB.trans (hL1.mono BB.size)
 clear hL1
 go_enter Tryz.func14, Tryz.ntmps14
 go_wp2_with fail
 rw [← hW0]
 rw [← hW1]
 clear hW0 hW1 hS0 hS1
 refine (qzero_at _).mono ?_
 rintro e w1 ⟨v1, rfl, hs_, b1⟩
 replace VM := VM.below b1
 replace VR := VR.below b1
 replace BB := BB.trans (b1.mono BB.size)
 clear b1
 obtain ⟨p0, a0, n0, c0, y0, m0, d0, rfl⟩ := hs_.open
 have hZ1 : w.heap.size ≤ w1.heap.size := BB.size
 have hN1VM : w.heap.size ≠ w1.heap.size := Nat.ne_of_lt VM.lt
 have hN1VR : w.heap.size + 1 ≠ w1.heap.size := Nat.ne_of_lt VR.lt
 obtain ⟨W1, hW1, hS1, hL1, VS⟩ := V3.lay w1 34 (.bool p0) (.slice a0 n0 c0) (.slice y0 m0 d0)
 replace hs_ := hs_.below hL1
 replace VM := VM.below hL1
 replace VR := VR.below hL1
 replace BB := BB.trans (hL1.mono BB.size)
 clear hL1
 obtain ⟨VM_0, VM_1, VM_2, VM_3⟩ := id VM
 obtain ⟨VS_0, VS_1, VS_2, VS_3, VS_4, VS_5⟩ := id VS
 rw [hW1] at VM_0 VM_1 VM_2 VM_3 VS_0 VS_1 VS_2 VS_3 VS_4 VS_5
 go_wp2_with fail
 clear VM_0 VM_1 VM_2 VM_3 VS_0 VS_1 VS_2 VS_3 VS_4 VS_5
 rw [← hW1]
 generalize w1.heap.size = R1 at *
 clear hW1 hS1
 have hs_ : RepQ W1 (.agg #[.bool p0, .slice a0 n0 c0, .slice y0 m0 d0]) (sumq (sayV T N r s) 0) := hs_
 go_loopw [8] (fun vi wr => ∃ (i : Nat) (p5 : Bool) (a5 : Option Addr) (n5 c5 : Nat) (y5 : Option Addr) (m5 d5 : Nat), i ≤ k ∧ vi = .int .i64 (i : Int) ∧ V3 wr R1 (.bool p5) (.slice a5 n5 c5) (.slice y5 m5 d5) ∧ RepQ wr (.agg #[.bool p5, .slice a5 n5 c5, .slice y5 m5 d5]) (sumq (sayV T N r s) i) ∧ V2 wr w.heap.size (.int .i64 F) (.slice ao k c) ∧ V3 wr (w.heap.size + 1) (.bool false) (.slice none 0 0) (.slice none 0 0) ∧ Below w.heap.size w wr) (fun vi _ => k - (intOf vi).toNat)
 case atStart => exact ⟨0, _, _, _, _, _, _, _, by omega, rfl, VS, hs_, VM, VR, BB⟩
 case round =>
  clear VS hs_ VM VR BB
  obtain ⟨i, p5, a5, n5, c5, y5, m5, d5, hi, rfl, VS, hs_, VM, VR, BB⟩ := hrel
  by_cases hlt : i < k
  ·have g1 : (i : Int) < (k : Int) := by omega
   have g0 : (0 : Int) ≤ (i : Int) := by omega
   have wi : IntKind.i64.wrap ((i : Int) + 1) = (i : Int) + 1 := by rw [IntKind.wrap_i64]; omega
   obtain ⟨b, off, cc, a, d, hvv, hcc, XC0, TR0⟩ := HM0.out.at hlt
   have hbw : b < w.heap.size := World.block_lt_of_cell? _ _ XC0
   cases hvv
   have TC := Cel10.from (B := 0) XC0 BB
   have HTR0 := TR0
   have HSI : Hid (sumq (sayV T N r s) (i + 1) = sumq (sayV T N r s) i + say (T i) (N i) r s 0) := rfl
   have HSZI : Hid (qsz (sumq (sayV T N r s) i) ≤ 6 * (M + 1) + 1) := HSZ.out i hi
   have hRS : R1 < wr.heap.size := VS.lt
   clear XC0 TR0
   have HTR : Hid (TRow w (.slice a (N i) d) (N i) (T i) L) := HTR0
   obtain ⟨VM_0, VM_1, VM_2, VM_3⟩ := id VM
   go_wp2_with fail
   clear VM_0 VM_1 VM_2 VM_3
   refine wp_region_until 10 #[true, true, true, true, true, true, true, true, true, true, false] (fun aF lsd a' w' => ∃ vu0 vu1 vu2 vu3 vu4 vu5 vu6 vu7 vu8 vu9 : Value, a' = (((((((((aF.put (some 17) vu0).put (some 18) vu1).put (some 19) vu2).put (some 20) vu3).put (some 21) vu4).put (some 22) vu5).put (some 23) vu6).put (some 24) vu7).put (some 25) vu8).put (some 26) vu9 ∧ Below wr.heap.size wr w' ∧ (lsd.getD 0 false = true → vu0 = .agg #[.bool p5, .slice a5 n5 c5, .slice y5 m5 d5]) ∧ (lsd.getD 1 false = true → vu1 = .pointer (some ⟨w.heap.size, 1, none⟩)) ∧ (lsd.getD 2 false = true → vu2 = .slice (some ⟨b, off, none⟩) k c) ∧ (lsd.getD 3 false = true → vu3 = .int .i64 (i : Int)) ∧ (lsd.getD 4 false = true → vu4 = .pointer (some ⟨b, off + i, none⟩)) ∧ (lsd.getD 5 false = true → vu5 = .slice a (N i) d) ∧ (lsd.getD 6 false = true → vu6 = .slice ar nr cr) ∧ (lsd.getD 7 false = true → vu7 = .int .u64 (s : Int)) ∧ (lsd.getD 8 false = true → RatAt w' vu8 (say (T i) (N i) r s 0) M) ∧ (lsd.getD 9 false = true → RepQ w' vu9 (sumq (sayV T N r s) i + say (T i) (N i) r s 0))) (by kernel_rfl) (by decide) (by kernel_rfl) (by rfl) (by kernel_rfl) ?_ ?_ ?_
   ·exact ⟨_, _, _, _, _, _, _, _, _, _, by simp only [Act.put, xL4, xL5, xL6]; rfl, (Below.refl _ _).drew, fun h => absurd h (fun h => mark_none h), fun h => absurd h (fun h => mark_none h), fun h => absurd h (fun h => mark_none h), fun h => absurd h (fun h => mark_none h), fun h => absurd h (fun h => mark_none h), fun h => absurd h (fun h => mark_none h), fun h => absurd h (fun h => mark_none h), fun h => absurd h (fun h => mark_none h), fun h => absurd h (fun h => mark_none h), fun h => absurd h (fun h => mark_none h)⟩
   ·rintro lsd au wn iu hszu ⟨vu0, vu1, vu2, vu3, vu4, vu5, vu6, vu7, vu8, vu9, rfl, hbu, fu0, fu1, fu2, fu3, fu4, fu5, fu6, fu7, fu8, fu9⟩ himu hru
    rcases (show iu = 0 ∨ iu = 1 ∨ iu = 2 ∨ iu = 3 ∨ iu = 4 ∨ iu = 5 ∨ iu = 6 ∨ iu = 7 ∨ iu = 8 ∨ iu = 9 by omega) with rfl | rfl | rfl | rfl | rfl | rfl | rfl | rfl | rfl | rfl
    ·refine wpOp_shut (by rfl) (fun K hK => ?_)
     simp only [Act.put, xL4, xL5, xL6]
     obtain ⟨VS_0, VS_1, VS_2, VS_3, VS_4, VS_5⟩ := VS.below hbu
     go_simp
     exact hK.out _ _ ⟨(.agg #[.bool p5, .slice a5 n5 c5, .slice y5 m5 d5]), vu1, vu2, vu3, vu4, vu5, vu6, vu7, vu8, vu9, by simp only [Act.put, xL4, xL5, xL6], hbu, fun _ => rfl, fun h => fu1 (mark_of (by decide) h), fun h => fu2 (mark_of (by decide) h), fun h => fu3 (mark_of (by decide) h), fun h => fu4 (mark_of (by decide) h), fun h => fu5 (mark_of (by decide) h), fun h => fu6 (mark_of (by decide) h), fun h => fu7 (mark_of (by decide) h), fun h => fu8 (mark_of (by decide) h), fun h => fu9 (mark_of (by decide) h)⟩
    ·refine wpOp_shut (by rfl) (fun K hK => ?_)
     simp only [Act.put, xL4, xL5, xL6]
     go_simp
     exact hK.out _ _ ⟨vu0, (.pointer (some ⟨w.heap.size, 1, none⟩)), vu2, vu3, vu4, vu5, vu6, vu7, vu8, vu9, by simp only [Act.put, xL4, xL5, xL6], hbu, fun h => fu0 (mark_of (by decide) h), fun _ => rfl, fun h => fu2 (mark_of (by decide) h), fun h => fu3 (mark_of (by decide) h), fun h => fu4 (mark_of (by decide) h), fun h => fu5 (mark_of (by decide) h), fun h => fu6 (mark_of (by decide) h), fun h => fu7 (mark_of (by decide) h), fun h => fu8 (mark_of (by decide) h), fun h => fu9 (mark_of (by decide) h)⟩
    ·have eu1 := fu1 (dep_of 1 hru rfl (by kernel_rfl))
     replace eu1 := eu1.symm
     subst eu1
     refine wpOp_shut (by rfl) (fun K hK => ?_)
     simp only [Act.put, xL4, xL5, xL6]
     obtain ⟨VM_0, VM_1, VM_2, VM_3⟩ := VM.below hbu
     go_simp
     exact hK.out _ _ ⟨vu0, (.pointer (some ⟨w.heap.size, 1, none⟩)), (.slice (some ⟨b, off, none⟩) k c), vu3, vu4, vu5, vu6, vu7, vu8, vu9, by simp only [Act.put, xL4, xL5, xL6], hbu, fun h => fu0 (mark_of (by decide) h), fun _ => rfl, fun _ => rfl, fun h => fu3 (mark_of (by decide) h), fun h => fu4 (mark_of (by decide) h), fun h => fu5 (mark_of (by decide) h), fun h => fu6 (mark_of (by decide) h), fun h => fu7 (mark_of (by decide) h), fun h => fu8 (mark_of (by decide) h), fun h => fu9 (mark_of (by decide) h)⟩
    ·refine wpOp_shut (by rfl) (fun K hK => ?_)
     simp only [Act.put, xL4, xL5, xL6]
     go_simp
     exact hK.out _ _ ⟨vu0, vu1, vu2, (.int .i64 (i : Int)), vu4, vu5, vu6, vu7, vu8, vu9, by simp only [Act.put, xL4, xL5, xL6], hbu, fun h => fu0 (mark_of (by decide) h), fun h => fu1 (mark_of (by decide) h), fun h => fu2 (mark_of (by decide) h), fun _ => rfl, fun h => fu4 (mark_of (by decide) h), fun h => fu5 (mark_of (by decide) h), fun h => fu6 (mark_of (by decide) h), fun h => fu7 (mark_of (by decide) h), fun h => fu8 (mark_of (by decide) h), fun h => fu9 (mark_of (by decide) h)⟩
    ·have eu2 := fu2 (dep_of 2 hru rfl (by kernel_rfl))
     have eu3 := fu3 (dep_of 3 hru rfl (by kernel_rfl))
     replace eu2 := eu2.symm
     subst eu2
     replace eu3 := eu3.symm
     subst eu3
     refine wpOp_shut (by rfl) (fun K hK => ?_)
     simp only [Act.put, xL4, xL5, xL6]
     go_simp
     exact hK.out _ _ ⟨vu0, vu1, (.slice (some ⟨b, off, none⟩) k c), (.int .i64 (i : Int)), (.pointer (some ⟨b, off + i, none⟩)), vu5, vu6, vu7, vu8, vu9, by simp only [Act.put, xL4, xL5, xL6], hbu, fun h => fu0 (mark_of (by decide) h), fun h => fu1 (mark_of (by decide) h), fun _ => rfl, fun _ => rfl, fun _ => rfl, fun h => fu5 (mark_of (by decide) h), fun h => fu6 (mark_of (by decide) h), fun h => fu7 (mark_of (by decide) h), fun h => fu8 (mark_of (by decide) h), fun h => fu9 (mark_of (by decide) h)⟩
    ·have eu4 := fu4 (dep_of 4 hru rfl (by kernel_rfl))
     replace eu4 := eu4.symm
     subst eu4
     refine wpOp_shut (by rfl) (fun K hK => ?_)
     simp only [Act.put, xL4, xL5, xL6]
     have z1 := (TC.below hbu).cell
     go_simp
     exact hK.out _ _ ⟨vu0, vu1, vu2, vu3, (.pointer (some ⟨b, off + i, none⟩)), (.slice a (N i) d), vu6, vu7, vu8, vu9, by simp only [Act.put, xL4, xL5, xL6], hbu, fun h => fu0 (mark_of (by decide) h), fun h => fu1 (mark_of (by decide) h), fun h => fu2 (mark_of (by decide) h), fun h => fu3 (mark_of (by decide) h), fun _ => rfl, fun _ => rfl, fun h => fu6 (mark_of (by decide) h), fun h => fu7 (mark_of (by decide) h), fun h => fu8 (mark_of (by decide) h), fun h => fu9 (mark_of (by decide) h)⟩
    ·refine wpOp_shut (by rfl) (fun K hK => ?_)
     simp only [Act.put, xL4, xL5, xL6]
     go_simp
     exact hK.out _ _ ⟨vu0, vu1, vu2, vu3, vu4, vu5, (.slice ar nr cr), vu7, vu8, vu9, by simp only [Act.put, xL4, xL5, xL6], hbu, fun h => fu0 (mark_of (by decide) h), fun h => fu1 (mark_of (by decide) h), fun h => fu2 (mark_of (by decide) h), fun h => fu3 (mark_of (by decide) h), fun h => fu4 (mark_of (by decide) h), fun h => fu5 (mark_of (by decide) h), fun _ => rfl, fun h => fu7 (mark_of (by decide) h), fun h => fu8 (mark_of (by decide) h), fun h => fu9 (mark_of (by decide) h)⟩
    ·refine wpOp_shut (by rfl) (fun K hK => ?_)
     simp only [Act.put, xL4, xL5, xL6]
     go_simp
     exact hK.out _ _ ⟨vu0, vu1, vu2, vu3, vu4, vu5, vu6, (.int .u64 (s : Int)), vu8, vu9, by simp only [Act.put, xL4, xL5, xL6], hbu, fun h => fu0 (mark_of (by decide) h), fun h => fu1 (mark_of (by decide) h), fun h => fu2 (mark_of (by decide) h), fun h => fu3 (mark_of (by decide) h), fun h => fu4 (mark_of (by decide) h), fun h => fu5 (mark_of (by decide) h), fun h => fu6 (mark_of (by decide) h), fun _ => rfl, fun h => fu8 (mark_of (by decide) h), fun h => fu9 (mark_of (by decide) h)⟩
    ·have eu5 := fu5 (dep_of 5 hru rfl (by kernel_rfl))
     have eu6 := fu6 (dep_of 6 hru rfl (by kernel_rfl))
     have eu7 := fu7 (dep_of 7 hru rfl (by kernel_rfl))
     replace eu5 := eu5.symm
     subst eu5
     replace eu6 := eu6.symm
     subst eu6
     replace eu7 := eu7.symm
     subst eu7
     refine wpOp_shut (by rfl) (fun K hK => ?_)
     simp only [Act.put, xL4, xL5, xL6]
     go_simp
     refine (lbelow_at _ _ (N i) nr (T i) r s L M _ hL hLM hMM hs hnr (HMY.out i hlt) (HSS.out i hlt) ((HTR.out.below BB).below hbu) ((HR0.out.below BB).below hbu) ((HT0.out.below BB).below hbu)).mono ?_
     rintro eu wx ⟨v8, rfl, h8, bu⟩
     go_wp2_with fail
     have hbu2 := hbu.trans (bu.mono hbu.size)
     exact hK.out _ _ ⟨vu0, vu1, vu2, vu3, vu4, (.slice a (N i) d), (.slice ar nr cr), (.int .u64 (s : Int)), _, vu9, by simp only [Act.put, xL4, xL5, xL6], hbu2, fun h => fu0 (mark_of (by decide) h), fun h => fu1 (mark_of (by decide) h), fun h => fu2 (mark_of (by decide) h), fun h => fu3 (mark_of (by decide) h), fun h => fu4 (mark_of (by decide) h), fun _ => rfl, fun _ => rfl, fun _ => rfl, fun _ => h8, fun h => (fu9 (mark_of (by decide) h)).below bu⟩
    ·have eu0 := fu0 (dep_of 0 hru rfl (by kernel_rfl))
     replace eu0 := eu0.symm
     subst eu0
     have h8 := fu8 (dep_of 8 hru rfl (by kernel_rfl))
     refine wpOp_shut (by rfl) (fun K hK => ?_)
     simp only [Act.put, xL4, xL5, xL6]
     have hs_ := hs_.below hbu
     go_simp
     refine (qadd_at _ _ (sumq (sayV T N r s) i) (say (T i) (N i) r s 0) (6 * (M + 1) + 1) _ (hs_.at _ HSZI.out) (h8.le (by omega)) (by omega) (by omega) ((HT0.out.below BB).below hbu)).mono ?_
     rintro eu wx ⟨vs, rfl, h9, bu⟩
     go_wp2_with fail
     have hbu2 := hbu.trans (bu.mono hbu.size)
     exact hK.out _ _ ⟨(.agg #[.bool p5, .slice a5 n5 c5, .slice y5 m5 d5]), vu1, vu2, vu3, vu4, vu5, vu6, vu7, vu8, _, by simp only [Act.put, xL4, xL5, xL6], hbu2, fun _ => rfl, fun h => fu1 (mark_of (by decide) h), fun h => fu2 (mark_of (by decide) h), fun h => fu3 (mark_of (by decide) h), fun h => fu4 (mark_of (by decide) h), fun h => fu5 (mark_of (by decide) h), fun h => fu6 (mark_of (by decide) h), fun h => fu7 (mark_of (by decide) h), fun h => (fu8 (mark_of (by decide) h)).below bu, fun _ => h9⟩
   rintro au Wu22 ⟨vu0, vu1, vu2, vu3, vu4, vu5, vu6, vu7, vu8, vu9, rfl, hbu, fu0, fu1, fu2, fu3, fu4, fu5, fu6, fu7, fu8, fu9⟩
   have eu0 := (fu0 rfl).symm
   subst eu0
   have eu1 := (fu1 rfl).symm
   subst eu1
   have eu2 := (fu2 rfl).symm
   subst eu2
   have eu3 := (fu3 rfl).symm
   subst eu3
   have eu4 := (fu4 rfl).symm
   subst eu4
   have eu5 := (fu5 rfl).symm
   subst eu5
   have eu6 := (fu6 rfl).symm
   subst eu6
   have eu7 := (fu7 rfl).symm
   subst eu7
   have h8 := fu8 rfl
   have h9 := fu9 rfl
   clear fu0 fu1 fu2 fu3 fu4 fu5 fu6 fu7 fu8 fu9
   have hlVS : R1 < wr.heap.size := VS.lt
   have hlVM : w.heap.size < wr.heap.size := VM.lt
   have hlVR : w.heap.size + 1 < wr.heap.size := VR.lt
   replace hs_ := hs_.below hbu
   replace VS := VS.below hbu
   replace VM := VM.below hbu
   replace VR := VR.below hbu
   replace BB := BB.trans (hbu.mono BB.size)
   clear hbu
   obtain ⟨p6, a6, n6, c6, y6, m6, d6, rfl⟩ := h9.open
   rw [← HSI.out] at h9
   simp only [Act.put, xL4, xL5, xL6]
   refine wpAnyH_ready (rs := [10]) (by kernel_rfl) (by simp) ?_
   refine AllReadyH.cons (by rfl) (fun K hK => ?_) AllReadyH.nil
   have hKp := VS.keepJ (.bool p6) (.slice a6 n6 c6) (.slice y6 m6 d6)
   have VM_n := VM.other3 (R := R1) (by omega) (.bool p6) (.slice a6 n6 c6) (.slice y6 m6 d6)
   have VR_n := VR.other3 (R := R1) (by omega) (.bool p6) (.slice a6 n6 c6) (.slice y6 m6 d6)
   have VS_n := VS.same (.bool p6) (.slice a6 n6 c6) (.slice y6 m6 d6)
   have hs__n := hs_.keep hKp
   have h8_n := h8.keep hKp
   have h9_n := h9.keep hKp
   have BB_n := below_store3 (R := R1) BB (by omega) (.bool p6) (.slice a6 n6 c6) (.slice y6 m6 d6)
   clear hKp
   obtain ⟨VS_0, VS_1, VS_2, VS_3, VS_4, VS_5⟩ := id VS
   go_simp
   clear VS_0 VS_1 VS_2 VS_3 VS_4 VS_5
   clear BB hs_ h8 h9 VS VM VR
   generalize ((Wu22.setCell ⟨R1, 0, none⟩ (.bool p6)).setCell ⟨R1, 1, none⟩ (.slice a6 n6 c6)).setCell ⟨R1, 2, none⟩ (.slice y6 m6 d6) = W23 at *
   have BB := BB_n
   have hs_ := hs__n
   have h8 := h8_n
   have h9 := h9_n
   have VS := VS_n
   have VM := VM_n
   have VR := VR_n
   clear BB_n hs__n h8_n h9_n VS_n VM_n VR_n
   refine hK.out _ _ trivial (fun _ => ?_)
   clear hK K
   simp only [Act.put, xL4, xL5, xL6]
   refine wpAnyH_done (by kernel_rfl) ?_ _
   go_wp2
   go_roundw
   case rel => exact ⟨i + 1, _, _, _, _, _, _, _, by omega, by go_num, VS, h9, VM, VR, BB⟩
   case measure => simp [intOf]; omega
  ·obtain rfl : i = k := by omega
   have g1 : ¬ (i : Int) < (i : Int) := by omega
   have hKp := VR.keepJ (.bool p5) (.slice a5 n5 c5) (.slice y5 m5 d5)
   have hs__n := hs_.keep hKp
   have BB_n := below_store3 (R := w.heap.size + 1) BB (by omega) (.bool p5) (.slice a5 n5 c5) (.slice y5 m5 d5)
   clear hKp
   obtain ⟨VS_0, VS_1, VS_2, VS_3, VS_4, VS_5⟩ := id VS
   obtain ⟨VM_0, VM_1, VM_2, VM_3⟩ := id VM
   obtain ⟨q1, q2, q3, q4, q5, q6⟩ := id VR
   go_wp2
   (try simp only [Exit.inBlock, Exit.then])
   refine bodyPost_ret (v := .agg #[.bool p5, .slice a5 n5 c5, .slice y5 m5 d5]) (by simp [results, go_sem, q1, q2, q3]) rfl ?_
   exact ⟨_, rfl, hs__n, BB_n⟩

end Go.Proofs.YtcackghehjbeeaaGreatDoor

namespace Go.Proofs.YtcackghehjbeeaaGreatDoor
set_option linter.unusedVariables false
set_option linter.unusedSimpArgs false

theorem say_bnd {F : Int} {t : Nat → Nd} {n L C : Nat} (hm : MayT F t n) (hz : ∀ i, i < n → qsz (t i).val ≤ L ∧ qsz (t i).cov ≤ L) (hC : 4 * L + 2 ≤ C) (r : Nat → Cl) (s : Nat) {x : Nat} (hx : x < n) : qsz (say t n r s x) ≤ n * C := by
 refine Nat.le_trans ?_ (hm.bnd_le C hx)
 refine hm.by_tree (P := fun x => qsz (say t n r s x) ≤ bnd t n C x) (fun x hx hl => ?_) (fun x hx hl a b => ?_) hx
 ·rw [say_leaf hl]
  have h1 := (hz x hx).1
  have h2 := bnd_pos (t := t) (n := n) (C := C) (by omega) x
  omega
 ·have h2 := hm.bnd_split C hx hl
  obtain ⟨_, _, _, a2, _, a4, _, _⟩ := hm.kids hx hl
  cases hi : inS s (t x).feat.toNat with
  | true =>
   rw [hm.say_in r hx hl hi]
   have : Go.Proofs.YtcackghehjbeeaaGreatDoor.nxt (t x) r = kl t x ∨ Go.Proofs.YtcackghehjbeeaaGreatDoor.nxt (t x) r = kr t x := by
    unfold Go.Proofs.YtcackghehjbeeaaGreatDoor.nxt kl kr
    by_cases g : goL (t x) (r (t x).feat.toNat) = true
    ·rw [if_pos g]; exact .inl rfl
    ·rw [if_neg g]; exact .inr rfl
   rcases this with e | e
   ·rw [e]; exact Nat.le_trans a (by omega)
   ·rw [e]; exact Nat.le_trans b (by omega)
  | false =>
   rw [hm.say_out r hx hl hi, mean_eq]
   have h3 := qsz_div _ _ (hz _ a2).2 (hz _ hx).2
   have h4 := qsz_div _ _ (hz _ a4).2 (hz _ hx).2
   have h5 := qsz_add _ _ (qsz_mul _ _ h3 a) (qsz_mul _ _ h4 b)
   omega
theorem MRow.sz11 {w : World} {v : Value} {k : Nat} {N : Nat → Nat} {T : Nat → Nat → Nd} {L : Nat} (h : MRow w v k N T L) (hL : 1 ≤ L) {i : Nat} (hi : i < k) : ∀ j, j < N i → qsz (T i j).val ≤ L ∧ qsz (T i j).cov ≤ L := by
 obtain ⟨b, off, c, a, d, _, _, _, TR⟩ := h.at hi
 exact fun j hj => TR.sz11 hL hj
theorem say_few {w : World} {v : Value} {k : Nat} {N : Nat → Nat} {T : Nat → Nat → Nd} {F : Int} (h : MRow w v k N T 4) (hm : ∀ i, i < k → MayT F (T i) (N i)) (r : Nat → Cl) (s : Nat) : ∀ i, i < k → ∀ x, x < N i → qsz (say (T i) (N i) r s x) ≤ 4590 := fun i hi x hx =>
 Nat.le_trans (say_bnd (C := 18) (hm i hi) (h.sz11 (by omega) hi) (by omega) r s hx) (by have := (hm i hi).few; omega)
theorem mean_say {k : Nat} {N : Nat → Nat} {T : Nat → Nat → Nd} {F : Int} (hm : ∀ i, i < k → MayT F (T i) (N i)) (r : Nat → Cl) : ∀ i, i ≤ k → sumq (mean0 T N) i = sumq (sayV T N r 0) i
 | 0, _ => rfl
 | i + 1, h => by
  show sumq (mean0 T N) i + mean0 T N i = sumq (sayV T N r 0) i + sayV T N r 0 i
  rw [mean_say hm r i (by omega)]
  congr 1
  unfold sayV mean0
  rw [(hm i (by omega)).say_none r (hm i (by omega)).pos]

end Go.Proofs.YtcackghehjbeeaaGreatDoor
