/-
  Texts of mine, joined: what lies beneath the statement.
-/
import Derived.Test.YtgddiimnpliolaaGreatDoorJ47b6cfc612
import Derived.Test.YtgddiimnpliolaaGreatDoorJ28fca6d81b
import Derived.Test.YtgddiimnpliolaaGreatDoorJ829611c6d2
namespace Go.Proofs.YtgddiimnpliolaaGreatDoor
open Go.RowKit
set_option linter.unusedVariables false
set_option linter.unusedSimpArgs false
theorem V3.blk {W W' : World} {R : Nat} {x y z : Value} (h : V3 W R x y z) (hb : W'.heap[R]? = W.heap[R]?) : V3 W' R x y z :=
 ⟨(World.cell?_of_block (a := ⟨R,0,none⟩) hb).trans h.1,(World.cell?_of_block (a := ⟨R,1,none⟩) hb).trans h.2.1,(World.cell?_of_block (a := ⟨R,2,none⟩) hb).trans h.2.2.1,(World.frozen?_of_block (a := ⟨R,0,none⟩) hb).trans h.2.2.2.1,(World.frozen?_of_block (a := ⟨R,1,none⟩) hb).trans h.2.2.2.2.1,(World.frozen?_of_block (a := ⟨R,2,none⟩) hb).trans h.2.2.2.2.2⟩
theorem inZ_nat (s n : Nat) (h : n < 64) : inZ s (n : Int) = inS s n := by
 unfold inZ
 rw [decide_eq_true (by omega),decide_eq_true (by omega),Int.toNat_natCast]
 rfl
set_option maxRecDepth 20000 in
set_option maxHeartbeats 400000 in
theorem xinz_at (s : Nat) (f : Int) (hs : s < 18446744073709551616) (hf : I64 f) (w : World) :
  Calls Tryz.prog 75 #[.int .u64 (s : Int),.int .i64 f] w fun e w' => e = .returned (.bool (inZ s f)) ∧ w' = w := by
 by_cases h0 : 0 ≤ f
 ·by_cases h1 : f < 64
  ·obtain ⟨n,rfl⟩ : ∃ n : Nat,f = (n : Int) := ⟨f.toNat,by omega⟩
   rw [inZ_nat s n (by omega)]
   exact xin_at s n hs (by omega) w
  ·have HZ : Hid (inZ s f = false) := by
    show inZ s f = false
    unfold inZ
    rw [decide_eq_false h1,Bool.and_false,Bool.false_and]
   have g : decide (f < 64) = false := decide_eq_false h1
   go_enter Tryz.func75,Tryz.ntmps75
   go_wp2
   go_ret
   exact ⟨by rw [HZ.out]; rfl,rfl⟩
 ·have HZ : Hid (inZ s f = false) := by
   show inZ s f = false
   unfold inZ
   rw [decide_eq_false h0,Bool.false_and,Bool.false_and]
  have g : decide (0 ≤ f) = false := decide_eq_false h0
  go_enter Tryz.func75,Tryz.ntmps75
  go_wp2
  go_ret
  exact ⟨by rw [HZ.out]; rfl,rfl⟩
theorem prodL_list (l : List Rat) : ∀ k,k ≤ l.length → prodq (fun i => l.getD i 0) k = prodL (l.take k)
 | 0,_ => by simp [prodq,prodL]
 | k + 1,h => by
  show prodq _ k * l.getD k 0 = _
  rw [prodL_list l k (by omega),List.take_succ_eq_append_getElem (by omega),prodL_app]
  show _ = _ * (l[k] * 1)
  rw [Rat.mul_one,List.getD_eq_getElem?_getD,List.getElem?_eq_getElem (by omega)]
  rfl
theorem prodL_all (l : List Rat) : prodq (fun i => l.getD i 0) l.length = prodL l := by rw [prodL_list l l.length (Nat.le_refl _),List.take_length]
set_option maxRecDepth 100000 in
set_option maxHeartbeats 8000000 in
theorem reach_at (v : Value) (l : List PtZ) (nd : Int) (pv : Bool) (a0 b0 : Option Addr) (n0 c0 m0 d0 s L : Nat) (w : World) (hv : PRw L w v l) (hs : s < 18446744073709551616) (ht : Tab w) (hL : 1 ≤ L) (hLM : L ≤ 100000) (hll : l.length ≤ 1000) (hM : l.length * (L + 1) + 1 ≤ 100000) :
  Calls Tryz.prog 29 #[.agg #[.int .i64 nd,.bool pv,.slice a0 n0 c0,.slice b0 m0 d0,v],.int .u64 (s : Int)] w fun e w' => ∃ x,e = .returned x ∧ RepQ w' x (rchZ s l) ∧ Below w.heap.size w w' := by
 obtain ⟨av,cv,rfl,hlc,hl63⟩ := GRow.open hv
 have BB : Below w.heap.size w w := Below.refl _ _
 have HT0 : Hid (Tab w) := ht
 obtain ⟨m,hm⟩ : ∃ m,l.length = m := ⟨_,rfl⟩
 have HML : Hid (l.length = m) := hm
 rw [hm] at hlc hll hM hv ⊢
 have HV0 : Hid (PRw L w (.slice av m cv) l) := hv
 clear hv ht hm
 obtain ⟨W1,hW1,hS1,hL1,VL⟩ := V5.lay w 55 (.int .i64 nd) (.bool pv) (.slice a0 n0 c0) (.slice b0 m0 d0) (.slice av m cv)
 replace BB := BB.trans (hL1.mono BB.size)
 obtain ⟨W2,hW2,hS2,hL2,VR⟩ := V3.lay W1 40 (.bool false) (.slice none 0 0) (.slice none 0 0)
 replace BB := BB.trans (hL2.mono BB.size)
 replace VL := VL.below hL2
 rw [hS1] at hS2 VR
 clear hL1 hL2
 have HSZ : Hid (W2.heap.size = w.heap.size + 1 + 1) := hS2
 go_enter Tryz.func29,Tryz.ntmps29
 obtain ⟨v0,v1,v2,v3,v4,vs⟩ := id VL
 rw [hW2,hW1] at v4
 clear v0 v1 v2 v3 vs
 go_wp2_with fail
 clear v4
 rw [← hW1,← hW2]
 clear hW1 hW2 hS1 hS2
 go_loopw [5,11] (fun vs vi wr => ∃ i : Nat,i ≤ m ∧ vi = .int .i64 (i : Int) ∧ RtOw L (w.heap.size + 1 + 1) wr vs (shs s (l.take i)) ∧ Hid (∀ p ∈ l.take i,inZ s p.feat = true → p.ok = true) ∧ V3 wr (w.heap.size + 1) (.bool false) (.slice none 0 0) (.slice none 0 0) ∧ Below w.heap.size w wr) (fun _ vi _ => m - (intOf vi).toNat)
 case atStart => exact ⟨0,by omega,rfl,GOwn.nil,(fun p hp => by cases hp),VR,BB⟩
 case round =>
  clear VR BB VL
  obtain ⟨i,hi,rfl,OS,HOK,VR,BB⟩ := hrel
  obtain ⟨ao,co,rfl,hco⟩ := GOwn.form OS
  by_cases hlt : i < m
  ·have g1 : (i : Int) < (m : Int) := by omega
   have g0 : (0 : Int) ≤ (i : Int) := by omega
   have wi : IntKind.i64.wrap ((i : Int) + 1) = (i : Int) + 1 := by rw [IntKind.wrap_i64]; omega
   obtain ⟨p,hp⟩ : ∃ p,l[i]? = some p := ⟨_,List.getElem?_eq_getElem (by have := HML.out; omega)⟩
   have HTK : Hid (l.take (i + 1) = l.take i ++ [p]) := by
    show l.take (i + 1) = _
    rw [List.take_add_one,hp]
    rfl
   obtain ⟨b,off,cc,p1,a1,n1,c1,b1,m1,d1,hvv,hcc,X0,X1,X2,X3,X4,rs,i64⟩ := (HV0.out.below BB).at hp
   rw [HML.out] at hvv
   cases hvv
   clear hp hcc
   obtain ⟨W3,hW3,hS3,hL3,VP⟩ := V5.lay wr 61 (.int .i64 p.feat) (.bool p1) (.slice a1 n1 c1) (.slice b1 m1 d1) (.bool p.ok)
   have HRS := rs.below hL3
   have OS3 := OS.below hL3
   have VR3 := VR.below hL3
   have BB3 := BB.trans (hL3.mono BB.size)
   clear hL3 OS VR BB rs
   obtain ⟨v0,v1,v2,v3,v4,vs⟩ := id VP
   rw [hW3] at v0 v1 v2 v3 v4
   clear vs
   go_wp2_with fail
   clear v0 v1 v2 v3 v4 X0 X1 X2 X3 X4
   rw [← hW3]
   clear hW3 hS3
   generalize wr.heap.size = R3 at *
   refine (xinz_at s p.feat hs i64 _).mono ?_
   rintro e wx ⟨rfl,hwx⟩
   replace hwx := hwx.symm
   subst hwx
   obtain ⟨k,hk⟩ : ∃ k,(shs s (l.take i)).length = k := ⟨_,rfl⟩
   have HK : Hid ((shs s (l.take i)).length = k) := hk
   have hkm : k ≤ m := by have h1 := shs_len s (l.take i); have h2 := List.length_take_le i l; omega
   rw [hk] at hco ⊢
   clear hk
   obtain ⟨bz,hbz⟩ : ∃ bz,inZ s p.feat = bz := ⟨_,rfl⟩
   have HBZ : Hid (inZ s p.feat = bz) := hbz
   rw [hbz]
   clear hbz
   obtain ⟨v0,v1,v2,v3,v4,vs⟩ := id VP
   cases bz
   ·have b4 : Below W3.heap.size W3 (W3.alloc (.cells #[.bool p1,.slice a1 n1 c1,.slice b1 m1 d1] 40)) := (Below.refl _ _).alloc (Nat.le_refl _) _
    have OS4 := OS3.below b4
    have HR4 := HRS.below b4
    have VR4 := VR3.below b4
    have BB4 := BB3.trans (b4.mono BB3.size)
    clear b4 OS3 HRS VR3 BB3
    obtain ⟨cs,hown,hcl,hpu,hall⟩ := GOwn.parts OS4
    rw [HK.out] at hown hcl hpu
    have HALL := hall
    have hsz : w.heap.size + 1 + 1 ≤ (W3.alloc (.cells #[.bool p1,.slice a1 n1 c1,.slice b1 m1 d1] 40)).heap.size := by have := VR4.lt; omega
    go_wp2_with (at_builtin; refine wpList_append_pure (Q' := IsLimb) rfl _ _ _ rfl (w.heap.size + 1 + 1) 40 (.agg #[.bool false,.slice none 0 0,.slice none 0 0]) 3 56 Tryz.underlying31 info_wrat rfl (by omega) (.slice ao k co) rfl k cs hown hpu ⟨W3.heap.size,0,none⟩ 1 rfl [.bool p1,.slice a1 n1 c1,.slice b1 m1 d1] rfl (news_block (heap_alloc_new _ _)) (by simp [Value.oneCell']) (by simp [limb_bool,limb_slice,limb_int]) (by simp [Value.cells,limb_bool,limb_slice,limb_int]) (by omega) (by omega) hsz ?_)
    intro gN cN w5 ho5 hg5 hat5 hp5 hk5
    have OS5 : RtOw L (w.heap.size + 1 + 1) w5 (.slice (some ⟨gN,0,none⟩) (k + 1) cN) (shs s (l.take (i + 1))) := by
     rw [HTK.out,shs_app,show shs s [p] = [p.sh] by show (if inZ s p.feat = true then [] else [p.sh]) = [p.sh]; rw [HBZ.out]; rfl]
     exact GOwn.more (rtEl L) (m := 1) rfl (by rw [HK.out]; exact ho5) (by rw [HK.out]; exact hcl) (fun g hg => by cases hg; exact hp5) hk5 hall (rt_one HR4)
    have HO5 : Hid (∀ p ∈ l.take (i + 1),inZ s p.feat = true → p.ok = true) := by
     rw [HTK.out]
     intro q hq h1
     rcases List.mem_append.1 hq with h | h
     ·exact HOK.out q h h1
     ·rw [List.mem_singleton.1 h,HBZ.out] at h1; cases h1
    have VR5 := VR4.blk (hg5.block _ VR4.lt (fun e => by have := (hown.lt _ e.symm).1; omega))
    have BB5 := below_grownB BB4 hg5 (Nat.le_of_lt (by have := VR4.lt; omega)) (fun g hg => by have := (hown.lt g hg).1; omega)
    clear VP VR4 BB4 OS4 hown hcl hpu hall HALL HR4 ho5 hg5 hat5 hp5 hk5 hsz v0 v1 v2 v3 v4 vs
    go_wp2
    go_roundw
    case rel => exact ⟨i + 1,by omega,by go_num,OS5,HO5,VR5,BB5⟩
    case measure => simp [intOf]; omega
   ·obtain ⟨bk,hbk⟩ : ∃ bk,p.ok = bk := ⟨_,rfl⟩
    have HBK : Hid (p.ok = bk) := hbk
    rw [hbk] at v4 VP
    clear hbk
    cases bk
    ·have HRZ : Hid (rchZ s l = 0) := rchZ_stop s (p := p) (List.mem_of_mem_take (i := i + 1) (by rw [HTK.out]; simp)) HBZ.out HBK.out
     go_wp2_with fail
     clear v0 v1 v2 v3 v4 vs VP OS3 HRS
     refine (qzero_at _).mono ?_
     rintro e w6 ⟨r,rfl,hr,b6⟩
     replace VR3 := VR3.below b6
     replace BB3 := BB3.trans (b6.mono BB3.size)
     clear b6
     rw [← HRZ.out] at hr
     obtain ⟨p3,a3,n3,c3,bo3,m3,d3,rfl⟩ := hr.open
     have hKp := VR3.keepJ (.bool p3) (.slice a3 n3 c3) (.slice bo3 m3 d3)
     have hr_n := hr.keep hKp
     have BB_n := below_store3 (R := w.heap.size + 1) BB3 (by omega) (.bool p3) (.slice a3 n3 c3) (.slice bo3 m3 d3)
     clear hKp
     obtain ⟨q1,q2,q3,q4,q5,q6⟩ := id VR3
     go_wp2
     (try simp only [Exit.inBlock,Exit.then])
     refine bodyPost_ret (v := .agg #[.bool p3,.slice a3 n3 c3,.slice bo3 m3 d3]) (by simp [results,go_sem,q1,q2,q3]) rfl ?_
     exact ⟨_,rfl,hr_n,BB_n⟩
    ·have OS5 : RtOw L (w.heap.size + 1 + 1) W3 (.slice ao k co) (shs s (l.take (i + 1))) := by
      rw [HTK.out,shs_app,show shs s [p] = [] by show (if inZ s p.feat = true then [] else [p.sh]) = []; rw [HBZ.out]; rfl,List.append_nil,← HK.out]
      exact OS3
     have HO5 : Hid (∀ p ∈ l.take (i + 1),inZ s p.feat = true → p.ok = true) := by
      rw [HTK.out]
      intro q hq h1
      rcases List.mem_append.1 hq with h | h
      ·exact HOK.out q h h1
      ·rw [List.mem_singleton.1 h]; exact HBK.out
     go_wp2
     go_roundw
     case rel => exact ⟨i + 1,by omega,by go_num,OS5,HO5,VR3,BB3⟩
     case measure => simp [intOf]; omega
  ·obtain rfl : i = m := by omega
   have g1 : ¬ (i : Int) < (i : Int) := by omega
   have hml := HML.out
   have HTA : Hid (l.take i = l) := by show l.take i = l; rw [← hml]; exact List.take_length
   rw [HTA.out] at OS HOK hco ⊢
   have HRG : Hid (rchZ s l = prodL (shs s l)) := rchZ_go s HOK.out
   have QR := RtOw.qrow OS
   have hsl := shs_len s l
   have ht := HT0.out.below BB
   have HPL := prodL_all (shs s l)
   generalize (shs s l).length = k at *
   clear OS HOK
   go_wp2_with fail
   refine (product_at L 100000 hL (by omega) (by omega) k _ _ _ QR ht (Nat.le_trans (Nat.succ_le_succ (Nat.mul_le_mul_right _ (show k ≤ i by omega))) hM)).mono ?_
   rintro e w6 ⟨r,rfl,hr,b6⟩
   replace VR := VR.below b6
   replace BB := BB.trans (b6.mono BB.size)
   clear b6
   rw [HPL,← HRG.out] at hr
   obtain ⟨p3,a3,n3,c3,bo3,m3,d3,rfl⟩ := hr.open
   have hKp := VR.keepJ (.bool p3) (.slice a3 n3 c3) (.slice bo3 m3 d3)
   have hr_n := hr.keep hKp
   have BB_n := below_store3 (R := w.heap.size + 1) BB (by omega) (.bool p3) (.slice a3 n3 c3) (.slice bo3 m3 d3)
   clear hKp
   obtain ⟨q1,q2,q3,q4,q5,q6⟩ := id VR
   go_wp2
   (try simp only [Exit.inBlock,Exit.then])
   refine bodyPost_ret (v := .agg #[.bool p3,.slice a3 n3 c3,.slice bo3 m3 d3]) (by simp [results,go_sem,q1,q2,q3]) rfl ?_
   exact ⟨_,rfl,hr_n,BB_n⟩
end Go.Proofs.YtgddiimnpliolaaGreatDoor
