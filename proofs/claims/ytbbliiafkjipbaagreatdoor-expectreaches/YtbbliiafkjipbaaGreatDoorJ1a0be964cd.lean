/-
  Texts of mine, joined: what lies beneath the statement.
-/
import Derived.Test.YtbbliiafkjipbaaGreatDoorJ186c30d767
import Derived.Test.YtbbliiafkjipbaaGreatDoorJc2057018de
import Derived.Test.YtbbliiafkjipbaaGreatDoorJ81cd12256c
namespace Go.Proofs.YtbbliiafkjipbaaGreatDoor
open Go.RowKit
set_option linter.unusedVariables false
set_option linter.unusedSimpArgs false
theorem info_parts11 : (Tryz.prog.info? 43).map (fun i => (i.zero,i.size,i.bytes)) = some (some (.slice none 0 0),1,24) := by kernel_rfl
theorem made_nilp (n i : Nat) (h : i < n) : (madeCells (Value.slice none 0 0).cells (n * 1)).toList[i]? = some (.slice none 0 0) := by
 simp [madeCells,Value.cells,h,Nat.mod_one]
structure KNum (w0 w : World) : Prop where
 out : KeepQ IsNum w0 w
theorem KNum.below {w0 w w' : World} (h : KNum w0 w) (hb : Below w.heap.size w w') : KNum w0 w' := ⟨h.out.trans (KeepQ.below hb)⟩
theorem KNum.set {w0 w : World} {a : Addr} {old : Value} (h : KNum w0 w) (hc : w.cell? a = some old) (hn : ¬ IsNum old) (x : Value) : KNum w0 (w.setCell a x) := ⟨fun b o v hv hv2 => by
 have h1 := h.out b o v hv hv2
 rw [World.cell?_setCell_other _ _ _ _ (fun e => by rw [← e,hc] at h1; cases h1; exact hn hv)]
 exact h1⟩
def CelG (w : World) (g i : Nat) (v : Value) : Prop := w.cell? ⟨g,i,none⟩ = some v
theorem CelG.below {w w' : World} {g i : Nat} {v : Value} (h : CelG w g i v) (hb : Below w.heap.size w w') : CelG w' g i v := (hb.cell (p := ⟨g,i,none⟩) (World.block_lt_of_cell? _ _ h)).trans h
theorem CelG.set {w : World} {g i x : Nat} {v u : Value} (h : CelG w g i v) (hne : x ≠ i) : CelG (w.setCell ⟨g,x,none⟩ u) g i v := by
 unfold CelG
 rw [World.cell?_setCell_other _ _ _ _ (fun e9 => hne (by have := congrArg Addr.off e9; first | exact this | exact this.symm))]
 exact h
theorem V14.blockP {w w' : World} {R : Nat} {x0 x1 x2 x3 x4 x5 x6 x7 x8 x9 x10 x11 x12 x13 : Value} (h : V14 w R x0 x1 x2 x3 x4 x5 x6 x7 x8 x9 x10 x11 x12 x13) (hb : w'.heap[R]? = w.heap[R]?) : V14 w' R x0 x1 x2 x3 x4 x5 x6 x7 x8 x9 x10 x11 x12 x13 := by
 obtain ⟨h0,h1,h2,h3,h4,h5,h6,h7,h8,h9,h10,h11,h12,h13⟩ := h
 refine ⟨?_,?_,?_,?_,?_,?_,?_,?_,?_,?_,?_,?_,?_,?_⟩ <;> (refine (World.cell?_of_block (a := ⟨R,_,none⟩) hb).trans ?_; assumption)
set_option maxRecDepth 100000 in
set_option maxHeartbeats 8000000 in
theorem vparts_at (F : Int) (v : Value) (go gs n : Nat) (t : Nat → Nd) (r : Nat → Cl) (sh : Nat → Rat) (S L M : Nat) (w : World) (hT : TRow w v n t L) (hO : ∀ x,x < n → (t x).leaf = false → w.cell? ⟨go,x,none⟩ = some (.int .i64 (nxt (t x) r : Int))) (hSh : GArr w gs n sh (2 * L)) (hse : ∀ x,x < n → (t x).leaf = false → sh (kl t x) = (t (kl t x)).cov / (t x).cov ∧ sh (kr t x) = (t (kr t x)).cov / (t x).cov) (hm : MayT F t n) (hF : F ≤ 64) (hz : ∀ x y,x < n → y < n → qsz ((t x).cov / (t y).cov) ≤ S) (hS : 1 ≤ S) (hSM : (n + 1) * S ≤ M) (hLM : 2 * L ≤ M) (hM : M ≤ 100000) (ht : Tab w) :
  Calls Tryz.prog 24 #[.agg #[v,.slice (some ⟨go,0,none⟩) n n,.slice (some ⟨gs,0,none⟩) n n]] w fun e w' => ∃ g,e = .returned (.slice (some ⟨g,0,none⟩) n n) ∧ w.heap.size ≤ g ∧ RArr M w' g n (pl t n r) (fun _ => True) ∧ Below w.heap.size w w' := by
 obtain ⟨at_,ct,rfl,htc,ht63⟩ := hT.open
 obtain ⟨i0,hi,hz0,hz1,hz2⟩ := info_parts info_parts11
 have HT0 : Hid (TRow w (.slice at_ n ct) n t L) := hT
 have HTB : Hid (Tab w) := ht
 have HM : Hid (MayT F t n) := hm
 have HO : Hid (∀ x,x < n → (t x).leaf = false → w.cell? ⟨go,x,none⟩ = some (.int .i64 (nxt (t x) r : Int))) := hO
 have HSH : Hid (GArr w gs n sh (2 * L)) := hSh
 have HSE : Hid (∀ x,x < n → (t x).leaf = false → sh (kl t x) = (t (kl t x)).cov / (t x).cov ∧ sh (kr t x) = (t (kr t x)).cov / (t x).cov) := hse
 have HZS : Hid (∀ x y,x < n → y < n → qsz ((t x).cov / (t y).cov) ≤ S) := hz
 have hn0 : 0 < n := hm.pos
 have hn255 := hm.few
 clear hT ht hm hO hSh hse hz
 have BB : Below w.heap.size w w := Below.refl _ _
 obtain ⟨Wb0,hW0,hS0,hL0,VV⟩ := V3.lay w 70 (.slice at_ n ct) (.slice (some ⟨go,0,none⟩) n n) (.slice (some ⟨gs,0,none⟩) n n)
 replace BB := BB.trans (hL0.mono BB.size)
 clear hL0
 go_enter Tryz.func24,Tryz.ntmps24
 obtain ⟨v0,v1,v2,v3,v4,v5⟩ := id VV
 rw [hW0] at v0 v1 v2
 clear v3 v4 v5
 go_wp2_with (at_make; rw [← hW0]; refine wpList_make_full _ rfl _ _ 67 rfl _ 43 i0 (.slice none 0 0) 1 Tryz.underlying67 hi hz0 hz1 _ _ _ _ n rfl rfl (by omega) (by omega) (by rw [hz2]; omega) (by unfold maxLen; omega) (Nat.le_refl _) ?_; intro w2 hown hgrow; have hb1 := below_grown hgrow; have VV2 := VV.below hb1; obtain ⟨v0,v1,v2,v3,v4,v5⟩ := id VV2; clear v1 v2 v3 v4 v5)
 have RA : RArr M w2 Wb0.heap.size n (pl t n r) (fun x => x = 0) := RArr.made (fun j hj => ⟨owns_cell hown (made_nilp n j hj),hown.frozenAt _⟩) (pl_root t n r)
 have hGV : Wb0.heap.size ≠ w.heap.size := fun e => by have := VV.lt; omega
 have hGB : w.heap.size ≤ Wb0.heap.size := BB.size
 replace BB := BB.trans (hb1.mono BB.size)
 rw [hS0] at RA hGV hGB
 clear VV v0 hown hgrow hb1 hi hz0 hz1 hz2 hW0 hS0
 have VV := VV2
 clear VV2
 generalize w.heap.size + 1 = G at *
 refine (downwards_at F _ n t r L _ (HT0.out.below BB) HM.out hF).mono ?_
 rintro e w3 ⟨u,zs,rfl,hI,hQ,b3⟩
 have HQ : Hid (QInv t n r 0 zs zs.length) := hQ
 have HZL : Hid (zs.length = n) := hQ.full HM.out
 obtain ⟨b0,cz,rfl,hcz⟩ := hI.open (by have := HZL.out; omega)
 have HC : Hid (∀ j x : Nat,zs[j]? = some x → w3.cell? ⟨b0,j,none⟩ = some (.int .i64 (x : Int))) := fun j x hj => hI.cell rfl hj
 rw [HZL.out] at hcz ⊢
 replace RA := RA.below b3
 replace VV := VV.below b3
 replace BB := BB.trans (b3.mono BB.size)
 clear b3 hI hQ
 have KN : KNum w3 w3 := ⟨KeepQ.refl _ _⟩
 have RA0 : RArr M w3 G n (pl t n r) (okD t zs 0) := RA.mono (fun x hx => by rcases hx with h | ⟨j,y,hj,_⟩; exact h; omega)
 clear RA
 go_wp2
 go_loopw [17] (fun vi wr => ∃ k : Nat,k ≤ n ∧ vi = .int .i64 (k : Int) ∧ RArr M wr G n (pl t n r) (okD t zs k) ∧ V3 wr w.heap.size (.slice at_ n ct) (.slice (some ⟨go,0,none⟩) n n) (.slice (some ⟨gs,0,none⟩) n n) ∧ KNum w3 wr ∧ Below w.heap.size w wr) (fun vi _ => n - (intOf vi).toNat)
 case atStart => exact ⟨0,by omega,rfl,RA0,VV,KN,BB⟩
 case round =>
  clear RA0 VV KN BB
  obtain ⟨k,hk,rfl,RA,VV,KN,BB⟩ := hrel
  by_cases hlt : k < n
  ·have g0 : (0 : Int) ≤ (k : Int) := by omega
   have g1 : (k : Int) < (n : Int) := by omega
   have wk : IntKind.i64.wrap ((k : Int) + 1) = (k : Int) + 1 := by rw [IntKind.wrap_i64]; omega
   obtain ⟨i,hi⟩ : ∃ i,zs[k]? = some i := ⟨_,List.getElem?_eq_getElem (by have := HZL.out; omega)⟩
   have HZI : Hid (zs[k]? = some i) := hi
   have hin : i < n := HQ.out.small i (List.mem_of_getElem? hi)
   have CI : wr.cell? ⟨b0,k,none⟩ = some (.int .i64 (i : Int)) := KN.out _ _ _ ⟨_,_,rfl⟩ (HC.out k i hi)
   clear hi
   have k0 : (0 : Int) ≤ (i : Int) := by omega
   have k1 : (i : Int) < (n : Int) := by omega
   obtain ⟨b,off,cc,p1,a1,n1,c1,b1,m1,d1,p2,a2,n2,c2,b2,m2,d2,p3,a3,n3,c3,b3,m3,d3,hvv,hcc,hc6,NN0,r1,r2,r3,i1_,i2_,i3_⟩ := HT0.out.at hin
   cases hvv
   have NN := NN0.below BB
   clear r1 r2 r3 i1_ i2_ i3_ NN0
   obtain ⟨v0,v1,v2,v3,v4,v5⟩ := id VV
   clear v1 v2 v3 v4 v5
   cases hlf : (t i).leaf
   ·have HLF : Hid ((t i).leaf = false) := hlf
    obtain ⟨e1,e2,a1l,a2l,a3l,a4l,l1,l2⟩ := HM.out.kids hin hlf
    have HFT := HM.out.feat i hin hlf
    obtain ⟨fn,hfn⟩ : ∃ fn : Nat,(t i).feat = (fn : Int) := ⟨(t i).feat.toNat,by omega⟩
    have HNC : Hid (1 ≤ kl t i ∧ kl t i < n ∧ 1 ≤ kr t i ∧ kr t i < n ∧ kl t i ≠ i ∧ kr t i ≠ i) := ⟨a1l,a2l,a3l,a4l,fun e => by rw [e] at l1; omega,fun e => by rw [e] at l2; omega⟩
    have HFN : Hid ((t i).feat = (fn : Int) ∧ fn < 64 ∧ (fn : Int) < F) := ⟨hfn,by omega,by omega⟩
    rw [hlf,hfn,e1,e2] at NN
    have HSP : Hid (∀ c,c = kl t i ∨ c = kr t i → sh c = (t c).cov / (t i).cov ∧ pl t n r c = insP (pl t n r i) (stepP t r i c)) := fun c hc => by
     rcases hc with rfl | rfl
     ·exact ⟨(HSE.out i hin hlf).1,HM.out.pl_kid r hin a2l a1l ⟨hlf,.inl e1⟩⟩
     ·exact ⟨(HSE.out i hin hlf).2,HM.out.pl_kid r hin a4l a3l ⟨hlf,.inr e2⟩⟩
    have HGO : Hid (w.cell? ⟨go,i,none⟩ = some (.int .i64 (nxt (t i) r : Int))) := HO.out i hin hlf
    clear hlf hfn e1 e2 a1l a2l a3l a4l l1 l2 HFT
    obtain ⟨lc,hlc⟩ : ∃ lc,kl t i = lc := ⟨_,rfl⟩
    obtain ⟨rc,hrc⟩ : ∃ rc,kr t i = rc := ⟨_,rfl⟩
    have HLR : Hid (kl t i = lc ∧ kr t i = rc) := ⟨hlc,hrc⟩
    rw [hlc,hrc] at NN HNC HSP
    clear hlc hrc
    have hGw : G < wr.heap.size := RA.lt hn0
    obtain ⟨N_0,N_1,N_2,N_3,N_4,N_5,N_6,N_7,N_8,N_9,N_10,N_11,N_12,N_13⟩ := id NN
    obtain ⟨W7,hW7,hS7,hL7,VN,FN⟩ := V14.lay wr 48 (.bool false) (.int .i64 (fn : Int)) (.bool p1) (.slice a1 n1 c1) (.slice b1 m1 d1) (.int .i64 (lc : Int)) (.int .i64 (rc : Int)) (.bool (t i).miss) (.bool p2) (.slice a2 n2 c2) (.slice b2 m2 d2) (.bool p3) (.slice a3 n3 c3) (.slice b3 m3 d3)
    replace BB := BB.trans (hL7.mono BB.size)
    replace RA := RA.below hL7
    replace VV := VV.below hL7
    replace KN := KN.below hL7
    clear hL7
    obtain ⟨V_0,V_1,V_2,V_3,V_4,V_5,V_6,V_7,V_8,V_9,V_10,V_11,V_12,V_13⟩ := id VN
    rw [hW7] at V_0 V_1 V_2 V_3 V_4 V_5 V_6 V_7 V_8 V_9 V_10 V_11 V_12 V_13
    go_wp2_with fail
    rw [← hW7]
    clear hW7 hS7 FN V_0 V_1 V_2 V_3 V_4 V_5 V_6 V_7 V_8 V_9 V_10 V_11 V_12 V_13 N_0 N_1 N_2 N_3 N_4 N_5 N_6 N_7 N_8 N_9 N_10 N_11 N_12 N_13
    generalize wr.heap.size = R7 at *
    go_loopw [33] (fun vj wq => ∃ j : Nat,j ≤ 2 ∧ vj = .int .i64 (j : Int) ∧ RArr M wq G n (pl t n r) (fun x => okD t zs k x ∨ (1 ≤ j ∧ x = lc) ∨ (2 ≤ j ∧ x = rc)) ∧ V3 wq w.heap.size (.slice (some ⟨b,off,none⟩) n ct) (.slice (some ⟨go,0,none⟩) n n) (.slice (some ⟨gs,0,none⟩) n n) ∧ V14 wq R7 (.bool false) (.int .i64 (fn : Int)) (.bool p1) (.slice a1 n1 c1) (.slice b1 m1 d1) (.int .i64 (lc : Int)) (.int .i64 (rc : Int)) (.bool (t i).miss) (.bool p2) (.slice a2 n2 c2) (.slice b2 m2 d2) (.bool p3) (.slice a3 n3 c3) (.slice b3 m3 d3) ∧ KNum w3 wq ∧ Below w.heap.size w wq) (fun vj _ => 2 - (intOf vj).toNat)
    case atStart => exact ⟨0,by omega,rfl,RA.mono (fun x hx => by rcases hx with h | ⟨h,_⟩ | ⟨h,_⟩; exact h; omega; omega),VV,VN,KN,BB⟩
    case round =>
     clear RA VV VN KN BB
     obtain ⟨j,hj,rfl,RA,VV,VN,KN,BB⟩ := hrel
     rcases (show j = 0 ∨ j = 1 ∨ j = 2 by omega) with rfl | rfl | rfl
     ·obtain ⟨hs,hp⟩ := HSP.out lc (.inl rfl)
      have HCN : Hid (lc < n ∧ lc ≠ i) := ⟨HNC.out.2.1,HNC.out.2.2.2.2.1⟩
      have hcn : lc < n := HCN.out.1
      have hc0 : (0 : Int) ≤ (lc : Int) := by omega
      have hc1 : (lc : Int) < (n : Int) := by omega
      obtain ⟨a5,k5,c5,CG,GP⟩ := RA.at hin (.inl (okD_at HM.out HQ.out HZI.out))
      replace CG : CelG wr G i (.slice a5 k5 c5) := CG
      obtain ⟨p6,a6,n6,c6,y6,m6,d6,z0,z1,z2,hr6⟩ := HSH.out.at hcn
      have HR6 : Hid (RatAt w (.agg #[.bool p6,.slice a6 n6 c6,.slice y6 m6 d6]) (sh lc) M) := hr6.le hLM
      have HZ0 : Hid (w.cell? ⟨gs,lc * 3,none⟩ = some (.bool p6) ∧ w.cell? ⟨gs,lc * 3 + 1,none⟩ = some (.slice a6 n6 c6) ∧ w.cell? ⟨gs,lc * 3 + 2,none⟩ = some (.slice y6 m6 d6)) := ⟨z0,z1,z2⟩
      have HGS : Hid (gs < w.heap.size ∧ go < w.heap.size) := ⟨HSH.out.lt hn0,World.block_lt_of_cell? _ _ HGO.out⟩
      clear z0 z1 z2 hr6
      have HG2 := HGO.out
      obtain ⟨nx,hnx⟩ : ∃ nx,nxt (t i) r = nx := ⟨_,rfl⟩
      rw [hnx] at HG2
      replace HG2 : Hid (w.cell? ⟨go,i,none⟩ = some (.int .i64 (nx : Int))) := HG2
      obtain ⟨bk,hbk⟩ : ∃ bk,decide (nx = lc) = bk := ⟨_,rfl⟩
      have e9 : ((nx : Int) == (lc : Int)) = bk := by rw [← hbk,Bool.eq_iff_iff,beq_iff_eq,decide_eq_true_iff]; omega
      have e9b : decide ((nx : Int) = (lc : Int)) = bk := by rw [← hbk]; exact decide_eq_decide.2 (by omega)
      have HPL : Hid (pl t n r lc = insP (pl t n r i) ⟨fn,sh lc,bk⟩) := by
       show _ = _
       rw [hp]
       unfold stepP
       rw [HFN.out.1,Int.toNat_natCast,← hs,hnx,hbk]
      have hq6 : qsz (sh lc) ≤ S := by rw [hs]; exact HZS.out _ _ hcn hin
      have hlv := HM.out.lvl_le hin
      have PSM := HM.out.pl_small r hS HZS.out hin
      have HQS : Hid (∀ d ∈ pl t n r i,qsz (d.sh * sh lc) ≤ M) := fun d hd => by
       have h1 := qsz_mul _ _ (PSM d hd).2 hq6
       have h2 : lvl t n i * S + S ≤ (n + 1) * S := by
        rw [← Nat.succ_mul]
        exact Nat.mul_le_mul_right S (by omega)
       omega
      have HLN : Hid ((pl t n r i).length ≤ 1000) := by
       have h1 := srt_few (F := 64) (HM.out.pl_srt r i) (fun a ha => by have := (PSM a ha).1; omega)
       show _ ≤ _
       omega
      have HM1 : Hid (1 ≤ M) := Nat.le_trans hS (Nat.le_trans (Nat.le_mul_of_pos_left S (Nat.succ_pos n)) hSM)
      have HI64 : Hid (I64 ((fn : Nat) : Int)) := by have := HFN.out.2.1; show I64 _; unfold I64; omega
      clear hs hp hnx hbk hq6 hlv PSM
      have qix : ∀ w8 : World,Sem.run Tryz.prog (Instr.index 99 (.agg #[.int .i64 (lc : Int),.int .i64 (rc : Int)]) (.int .i64 0)) w8 = .ok (.int .i64 (lc : Int)) w8 := fun w8 => by kernel_rfl
      go_wp2_with fail
      have hDr : Below wr.heap.size wr wr.drew := (Below.refl _ _).drew
      replace RA := RA.below hDr
      replace VV := VV.below hDr
      replace VN := VN.below hDr
      replace KN := KN.below hDr
      replace CG := CG.below hDr
      replace GP := GP.below hDr
      replace BB := BB.trans (hDr.mono BB.size)
      clear hDr
      refine wp_region_held_drew (S := (fun w' => w'.cell? ⟨G,i,none⟩ = some (.slice a5 k5 c5) ∧ w'.cell? ⟨R7,1,none⟩ = some (.int .i64 (fn : Int)) ∧ w'.cell? ⟨w.heap.size,2,none⟩ = some (.slice (some ⟨gs,0,none⟩) n n) ∧ w'.cell? ⟨w.heap.size,1,none⟩ = some (.slice (some ⟨go,0,none⟩) n n) ∧ w'.cell? ⟨gs,lc * 3,none⟩ = some (.bool p6) ∧ w'.cell? ⟨gs,lc * 3 + 1,none⟩ = some (.slice a6 n6 c6) ∧ w'.cell? ⟨gs,lc * 3 + 2,none⟩ = some (.slice y6 m6 d6) ∧ w'.cell? ⟨go,i,none⟩ = some (.int .i64 (nx : Int)))) (by kernel_rfl) ?_ (fun hHeld => ?_)
      ·exact ⟨CG,VN.c1,VV.2.2.1,VV.2.1,(BB.cell (p := ⟨gs,lc * 3,none⟩) HGS.out.1).trans HZ0.out.1,(BB.cell (p := ⟨gs,lc * 3 + 1,none⟩) HGS.out.1).trans HZ0.out.2.1,(BB.cell (p := ⟨gs,lc * 3 + 2,none⟩) HGS.out.1).trans HZ0.out.2.2,(BB.cell (p := ⟨go,i,none⟩) HGS.out.2).trans HG2.out⟩
      generalize wr.drew = W41 at *
      refine xT 0 (v := ?_) (hy := Or.inl ⟨by rfl,?_⟩) (h := ?_)
      rotate_left
      ·(intro w hSw; (try dsimp only at hSw); go_simp; (try with_reducible rfl))
      (try simp only [Act.put,xL4,xL5,xL6])
      refine xT 1 (v := ?_) (hy := Or.inl ⟨by rfl,?_⟩) (h := ?_)
      rotate_left
      ·(intro w hSw; (try dsimp only at hSw); go_simp; (try with_reducible rfl))
      (try simp only [Act.put,xL4,xL5,xL6])
      refine xT 2 (v := ?_) (hy := Or.inl ⟨by rfl,?_⟩) (h := ?_)
      rotate_left
      ·(intro w hSw; (try dsimp only at hSw); go_simp; (try with_reducible rfl))
      (try simp only [Act.put,xL4,xL5,xL6])
      refine xT 3 (v := ?_) (hy := Or.inl ⟨by rfl,?_⟩) (h := ?_)
      rotate_left
      ·(intro w hSw; (try dsimp only at hSw); go_simp; (try with_reducible rfl))
      (try simp only [Act.put,xL4,xL5,xL6])
      refine xT 4 (v := ?_) (hy := Or.inl ⟨by rfl,?_⟩) (h := ?_)
      rotate_left
      ·(intro w hSw; (try dsimp only at hSw); go_simp; (try with_reducible rfl))
      (try simp only [Act.put,xL4,xL5,xL6])
      refine xT 5 (v := ?_) (hy := Or.inl ⟨by rfl,?_⟩) (h := ?_)
      rotate_left
      ·(intro w hSw; (try dsimp only at hSw); go_simp; (try with_reducible rfl))
      (try simp only [Act.put,xL4,xL5,xL6])
      refine xT 6 (v := ?_) (hy := Or.inl ⟨by rfl,?_⟩) (h := ?_)
      rotate_left
      ·(intro w hSw; (try dsimp only at hSw); go_simp; (try with_reducible rfl))
      (try simp only [Act.put,xL4,xL5,xL6])
      refine xT 7 (v := ?_) (hy := Or.inl ⟨by rfl,?_⟩) (h := ?_)
      rotate_left
      ·(intro w hSw; (try dsimp only at hSw); go_simp; (try with_reducible rfl))
      (try simp only [Act.put,xL4,xL5,xL6])
      refine xT 8 (v := ?_) (hy := Or.inl ⟨by rfl,?_⟩) (h := ?_)
      rotate_left
      ·(intro w hSw; (try dsimp only at hSw); go_simp; (try with_reducible rfl))
      (try simp only [Act.put,xL4,xL5,xL6])
      refine xT 9 (v := ?_) (hy := Or.inl ⟨by rfl,?_⟩) (h := ?_)
      rotate_left
      ·(intro w hSw; (try dsimp only at hSw); go_simp; (try with_reducible rfl))
      (try simp only [Act.put,xL4,xL5,xL6])
      refine xT 10 (v := ?_) (hy := Or.inl ⟨by rfl,?_⟩) (h := ?_)
      rotate_left
      ·(intro w hSw; (try dsimp only at hSw); go_simp; (try with_reducible rfl))
      (try simp only [Act.put,xL4,xL5,xL6])
      refine xT 11 (v := ?_) (hy := Or.inl ⟨by rfl,?_⟩) (h := ?_)
      rotate_left
      ·(intro w hSw; (try dsimp only at hSw); go_simp; (try with_reducible rfl))
      (try simp only [Act.put,xL4,xL5,xL6])
      refine xT 12 (v := ?_) (hy := Or.inl ⟨by rfl,?_⟩) (h := ?_)
      rotate_left
      ·(intro w hSw; (try dsimp only at hSw); go_simp; (try with_reducible rfl))
      (try simp only [Act.put,xL4,xL5,xL6])
      refine xT 13 (v := ?_) (hy := Or.inl ⟨by rfl,?_⟩) (h := ?_)
      rotate_left
      ·(intro w hSw; (try dsimp only at hSw); go_simp; (try with_reducible rfl))
      (try simp only [Act.put,xL4,xL5,xL6])
      refine xT 14 (v := ?_) (hy := Or.inl ⟨by rfl,?_⟩) (h := ?_)
      rotate_left
      ·(intro w hSw; (try dsimp only at hSw); go_simp; (try with_reducible rfl))
      (try simp only [Act.put,xL4,xL5,xL6])
      refine xT 15 (v := ?_) (hy := Or.inl ⟨by rfl,?_⟩) (h := ?_)
      rotate_left
      ·(intro w hSw; (try dsimp only at hSw); go_simp; (try with_reducible rfl))
      (try simp only [Act.put,xL4,xL5,xL6])
      refine xT 16 (v := ?_) (hy := Or.inl ⟨by rfl,?_⟩) (h := ?_)
      rotate_left
      ·(intro w hSw; (try dsimp only at hSw); go_simp; (try with_reducible rfl))
      (try simp only [Act.put,xL4,xL5,xL6])
      refine xT 17 (v := ?_) (hy := Or.inl ⟨by rfl,?_⟩) (h := ?_)
      rotate_left
      ·(intro w hSw; (try dsimp only at hSw); go_simp; (try with_reducible rfl))
      (try simp only [Act.put,xL4,xL5,xL6])
      refine xT 18 (v := ?_) (hy := Or.inl ⟨by rfl,?_⟩) (h := ?_)
      rotate_left
      ·(intro w hSw; (try dsimp only at hSw); go_simp; (try with_reducible rfl))
      (try simp only [Act.put,xL4,xL5,xL6])
      refine xT 19 (v := ?_) (hy := Or.inl ⟨by rfl,?_⟩) (h := ?_)
      rotate_left
      ·(intro w hSw; (try dsimp only at hSw); go_simp; (try with_reducible rfl))
      (try simp only [Act.put,xL4,xL5,xL6])
      refine xT 20 (v := ?_) (hy := Or.inl ⟨by rfl,?_⟩) (h := ?_)
      rotate_left
      ·(intro w hSw; (try dsimp only at hSw); go_simp; (try with_reducible rfl))
      (try simp only [Act.put,xL4,xL5,xL6])
      refine xR [21] (h := ?_)
      refine xN (h := fun K hK => ?_)
      go_simp
      refine (laidp_at _ (pl t n r i) ⟨fn,sh lc,bk⟩ M p6 a6 y6 n6 c6 m6 d6 _ GP.1 GP.2.1 (HM.out.pl_srt r i) ((HR6.out.below BB)) HQS.out HLN.out HM1.out hM HI64.out (HTB.out.below BB)).mono ?_
      rintro e w21 ⟨v21,rfl,h21,hN21,b21⟩
      obtain ⟨a21,k21,c21,rfl⟩ : ∃ a k c,v21 = .slice a k c := by obtain ⟨a,c,e,_⟩ := GRow.open h21; exact ⟨_,_,_,e⟩
      have hGb := RA.lt hn0
      have GD : GoodP M w21 G (.slice a21 k21 c21) (pl t n r lc) := by rw [HPL.out]; exact ⟨h21,fun e => absurd e (insP_ne _ _),fun b8 o8 n8 c8 e8 => by have := hN21 b8 o8 n8 c8 e8; omega⟩
      clear h21 hN21 hGb
      go_wp2_with fail
      replace RA := RA.below b21
      replace VV := VV.below b21
      replace VN := VN.below b21
      replace KN := KN.below b21
      replace CG := CG.below b21
      replace GP := GP.below b21
      replace BB := BB.trans (b21.mono BB.size)
      clear b21
      refine hK.out _ _ ?_ (fun hH1 => ?_)
      ·exact ⟨CG,VN.c1,VV.2.2.1,VV.2.1,(BB.cell (p := ⟨gs,lc * 3,none⟩) HGS.out.1).trans HZ0.out.1,(BB.cell (p := ⟨gs,lc * 3 + 1,none⟩) HGS.out.1).trans HZ0.out.2.1,(BB.cell (p := ⟨gs,lc * 3 + 2,none⟩) HGS.out.1).trans HZ0.out.2.2,(BB.cell (p := ⟨go,i,none⟩) HGS.out.2).trans HG2.out⟩
      clear hK K hHeld
      (try simp only [Act.put,xL4,xL5,xL6])
      refine xT 22 (v := ?_) (hy := Or.inl ⟨by rfl,?_⟩) (h := ?_)
      rotate_left
      ·(intro w hSw; (try dsimp only at hSw); go_simp; (try with_reducible rfl))
      (try simp only [Act.put,xL4,xL5,xL6])
      refine xR [23] (h := ?_)
      refine xN (h := fun K hK => ?_)
      obtain ⟨⟨a7,k7,c7,C7⟩,s7,RA_n⟩ := RA.put hcn GD
      have VV_n : V3 (w21.setCell ⟨G,lc,none⟩ (.slice a21 k21 c21)) w.heap.size (.slice (some ⟨b,off,none⟩) n ct) (.slice (some ⟨go,0,none⟩) n n) (.slice (some ⟨gs,0,none⟩) n n) := VV.block11 (Below.heap_setCell _ _ _ _ (fun e => hGV e.symm))
      have VN_n : V14 (w21.setCell ⟨G,lc,none⟩ (.slice a21 k21 c21)) R7 (.bool false) (.int .i64 (fn : Int)) (.bool p1) (.slice a1 n1 c1) (.slice b1 m1 d1) (.int .i64 (lc : Int)) (.int .i64 (rc : Int)) (.bool (t i).miss) (.bool p2) (.slice a2 n2 c2) (.slice b2 m2 d2) (.bool p3) (.slice a3 n3 c3) (.slice b3 m3 d3) := VN.blockP (Below.heap_setCell _ _ _ _ (Nat.ne_of_gt hGw))
      have KN_n : KNum w3 (w21.setCell ⟨G,lc,none⟩ (.slice a21 k21 c21)) := KN.set C7 (num_slice _ _ _) _
      have CG_n : CelG (w21.setCell ⟨G,lc,none⟩ (.slice a21 k21 c21)) G i (.slice a5 k5 c5) := CG.set HCN.out.2
      have BB_n : Below w.heap.size w (w21.setCell ⟨G,lc,none⟩ (.slice a21 k21 c21)) := BB.setCell (p := ⟨G,lc,none⟩) hGB _
      go_simp
      clear C7 s7 RA VV VN KN CG GP GD BB
      generalize (w21.setCell ⟨G,lc,none⟩ (.slice a21 k21 c21)) = W9 at *
      have RA := RA_n
      have VV := VV_n
      have VN := VN_n
      have KN := KN_n
      have CG := CG_n
      have BB := BB_n
      clear RA_n VV_n VN_n KN_n CG_n BB_n
      refine hK.out _ _ ?_ (fun hH2 => ?_)
      ·exact ⟨CG,VN.c1,VV.2.2.1,VV.2.1,(BB.cell (p := ⟨gs,lc * 3,none⟩) HGS.out.1).trans HZ0.out.1,(BB.cell (p := ⟨gs,lc * 3 + 1,none⟩) HGS.out.1).trans HZ0.out.2.1,(BB.cell (p := ⟨gs,lc * 3 + 2,none⟩) HGS.out.1).trans HZ0.out.2.2,(BB.cell (p := ⟨go,i,none⟩) HGS.out.2).trans HG2.out⟩
      clear hK K hH1
      (try simp only [Act.put,xL4,xL5,xL6])
      refine wpAnyH_done (by kernel_rfl) ?_ _
      clear hH2
      have RA2 := RA.mono (ok' := fun x => okD t zs k x ∨ (1 ≤ 1 ∧ x = lc) ∨ (2 ≤ 1 ∧ x = rc)) (fun x hx => by rcases hx with h | ⟨_,h⟩ | ⟨h,_⟩; exact .inl (.inl h); exact .inr h; omega)
      clear RA CG
      go_wp2
      go_roundw
      case rel => exact ⟨1,by omega,by go_num,RA2,VV,VN,KN,BB⟩
      case measure => simp [intOf]
     ·obtain ⟨hs,hp⟩ := HSP.out rc (.inr rfl)
      have HCN : Hid (rc < n ∧ rc ≠ i) := ⟨HNC.out.2.2.2.1,HNC.out.2.2.2.2.2⟩
      have hcn : rc < n := HCN.out.1
      have hc0 : (0 : Int) ≤ (rc : Int) := by omega
      have hc1 : (rc : Int) < (n : Int) := by omega
      obtain ⟨a5,k5,c5,CG,GP⟩ := RA.at hin (.inl (okD_at HM.out HQ.out HZI.out))
      replace CG : CelG wr G i (.slice a5 k5 c5) := CG
      obtain ⟨p6,a6,n6,c6,y6,m6,d6,z0,z1,z2,hr6⟩ := HSH.out.at hcn
      have HR6 : Hid (RatAt w (.agg #[.bool p6,.slice a6 n6 c6,.slice y6 m6 d6]) (sh rc) M) := hr6.le hLM
      have HZ0 : Hid (w.cell? ⟨gs,rc * 3,none⟩ = some (.bool p6) ∧ w.cell? ⟨gs,rc * 3 + 1,none⟩ = some (.slice a6 n6 c6) ∧ w.cell? ⟨gs,rc * 3 + 2,none⟩ = some (.slice y6 m6 d6)) := ⟨z0,z1,z2⟩
      have HGS : Hid (gs < w.heap.size ∧ go < w.heap.size) := ⟨HSH.out.lt hn0,World.block_lt_of_cell? _ _ HGO.out⟩
      clear z0 z1 z2 hr6
      have HG2 := HGO.out
      obtain ⟨nx,hnx⟩ : ∃ nx,nxt (t i) r = nx := ⟨_,rfl⟩
      rw [hnx] at HG2
      replace HG2 : Hid (w.cell? ⟨go,i,none⟩ = some (.int .i64 (nx : Int))) := HG2
      obtain ⟨bk,hbk⟩ : ∃ bk,decide (nx = rc) = bk := ⟨_,rfl⟩
      have e9 : ((nx : Int) == (rc : Int)) = bk := by rw [← hbk,Bool.eq_iff_iff,beq_iff_eq,decide_eq_true_iff]; omega
      have e9b : decide ((nx : Int) = (rc : Int)) = bk := by rw [← hbk]; exact decide_eq_decide.2 (by omega)
      have HPL : Hid (pl t n r rc = insP (pl t n r i) ⟨fn,sh rc,bk⟩) := by
       show _ = _
       rw [hp]
       unfold stepP
       rw [HFN.out.1,Int.toNat_natCast,← hs,hnx,hbk]
      have hq6 : qsz (sh rc) ≤ S := by rw [hs]; exact HZS.out _ _ hcn hin
      have hlv := HM.out.lvl_le hin
      have PSM := HM.out.pl_small r hS HZS.out hin
      have HQS : Hid (∀ d ∈ pl t n r i,qsz (d.sh * sh rc) ≤ M) := fun d hd => by
       have h1 := qsz_mul _ _ (PSM d hd).2 hq6
       have h2 : lvl t n i * S + S ≤ (n + 1) * S := by
        rw [← Nat.succ_mul]
        exact Nat.mul_le_mul_right S (by omega)
       omega
      have HLN : Hid ((pl t n r i).length ≤ 1000) := by
       have h1 := srt_few (F := 64) (HM.out.pl_srt r i) (fun a ha => by have := (PSM a ha).1; omega)
       show _ ≤ _
       omega
      have HM1 : Hid (1 ≤ M) := Nat.le_trans hS (Nat.le_trans (Nat.le_mul_of_pos_left S (Nat.succ_pos n)) hSM)
      have HI64 : Hid (I64 ((fn : Nat) : Int)) := by have := HFN.out.2.1; show I64 _; unfold I64; omega
      clear hs hp hnx hbk hq6 hlv PSM
      have qix : ∀ w8 : World,Sem.run Tryz.prog (Instr.index 99 (.agg #[.int .i64 (lc : Int),.int .i64 (rc : Int)]) (.int .i64 1)) w8 = .ok (.int .i64 (rc : Int)) w8 := fun w8 => by kernel_rfl
      go_wp2_with fail
      have hDr : Below wr.heap.size wr wr.drew := (Below.refl _ _).drew
      replace RA := RA.below hDr
      replace VV := VV.below hDr
      replace VN := VN.below hDr
      replace KN := KN.below hDr
      replace CG := CG.below hDr
      replace GP := GP.below hDr
      replace BB := BB.trans (hDr.mono BB.size)
      clear hDr
      refine wp_region_held_drew (S := (fun w' => w'.cell? ⟨G,i,none⟩ = some (.slice a5 k5 c5) ∧ w'.cell? ⟨R7,1,none⟩ = some (.int .i64 (fn : Int)) ∧ w'.cell? ⟨w.heap.size,2,none⟩ = some (.slice (some ⟨gs,0,none⟩) n n) ∧ w'.cell? ⟨w.heap.size,1,none⟩ = some (.slice (some ⟨go,0,none⟩) n n) ∧ w'.cell? ⟨gs,rc * 3,none⟩ = some (.bool p6) ∧ w'.cell? ⟨gs,rc * 3 + 1,none⟩ = some (.slice a6 n6 c6) ∧ w'.cell? ⟨gs,rc * 3 + 2,none⟩ = some (.slice y6 m6 d6) ∧ w'.cell? ⟨go,i,none⟩ = some (.int .i64 (nx : Int)))) (by kernel_rfl) ?_ (fun hHeld => ?_)
      ·exact ⟨CG,VN.c1,VV.2.2.1,VV.2.1,(BB.cell (p := ⟨gs,rc * 3,none⟩) HGS.out.1).trans HZ0.out.1,(BB.cell (p := ⟨gs,rc * 3 + 1,none⟩) HGS.out.1).trans HZ0.out.2.1,(BB.cell (p := ⟨gs,rc * 3 + 2,none⟩) HGS.out.1).trans HZ0.out.2.2,(BB.cell (p := ⟨go,i,none⟩) HGS.out.2).trans HG2.out⟩
      generalize wr.drew = W41 at *
      refine xT 0 (v := ?_) (hy := Or.inl ⟨by rfl,?_⟩) (h := ?_)
      rotate_left
      ·(intro w hSw; (try dsimp only at hSw); go_simp; (try with_reducible rfl))
      (try simp only [Act.put,xL4,xL5,xL6])
      refine xT 1 (v := ?_) (hy := Or.inl ⟨by rfl,?_⟩) (h := ?_)
      rotate_left
      ·(intro w hSw; (try dsimp only at hSw); go_simp; (try with_reducible rfl))
      (try simp only [Act.put,xL4,xL5,xL6])
      refine xT 2 (v := ?_) (hy := Or.inl ⟨by rfl,?_⟩) (h := ?_)
      rotate_left
      ·(intro w hSw; (try dsimp only at hSw); go_simp; (try with_reducible rfl))
      (try simp only [Act.put,xL4,xL5,xL6])
      refine xT 3 (v := ?_) (hy := Or.inl ⟨by rfl,?_⟩) (h := ?_)
      rotate_left
      ·(intro w hSw; (try dsimp only at hSw); go_simp; (try with_reducible rfl))
      (try simp only [Act.put,xL4,xL5,xL6])
      refine xT 4 (v := ?_) (hy := Or.inl ⟨by rfl,?_⟩) (h := ?_)
      rotate_left
      ·(intro w hSw; (try dsimp only at hSw); go_simp; (try with_reducible rfl))
      (try simp only [Act.put,xL4,xL5,xL6])
      refine xT 5 (v := ?_) (hy := Or.inl ⟨by rfl,?_⟩) (h := ?_)
      rotate_left
      ·(intro w hSw; (try dsimp only at hSw); go_simp; (try with_reducible rfl))
      (try simp only [Act.put,xL4,xL5,xL6])
      refine xT 6 (v := ?_) (hy := Or.inl ⟨by rfl,?_⟩) (h := ?_)
      rotate_left
      ·(intro w hSw; (try dsimp only at hSw); go_simp; (try with_reducible rfl))
      (try simp only [Act.put,xL4,xL5,xL6])
      refine xT 7 (v := ?_) (hy := Or.inl ⟨by rfl,?_⟩) (h := ?_)
      rotate_left
      ·(intro w hSw; (try dsimp only at hSw); go_simp; (try with_reducible rfl))
      (try simp only [Act.put,xL4,xL5,xL6])
      refine xT 8 (v := ?_) (hy := Or.inl ⟨by rfl,?_⟩) (h := ?_)
      rotate_left
      ·(intro w hSw; (try dsimp only at hSw); go_simp; (try with_reducible rfl))
      (try simp only [Act.put,xL4,xL5,xL6])
      refine xT 9 (v := ?_) (hy := Or.inl ⟨by rfl,?_⟩) (h := ?_)
      rotate_left
      ·(intro w hSw; (try dsimp only at hSw); go_simp; (try with_reducible rfl))
      (try simp only [Act.put,xL4,xL5,xL6])
      refine xT 10 (v := ?_) (hy := Or.inl ⟨by rfl,?_⟩) (h := ?_)
      rotate_left
      ·(intro w hSw; (try dsimp only at hSw); go_simp; (try with_reducible rfl))
      (try simp only [Act.put,xL4,xL5,xL6])
      refine xT 11 (v := ?_) (hy := Or.inl ⟨by rfl,?_⟩) (h := ?_)
      rotate_left
      ·(intro w hSw; (try dsimp only at hSw); go_simp; (try with_reducible rfl))
      (try simp only [Act.put,xL4,xL5,xL6])
      refine xT 12 (v := ?_) (hy := Or.inl ⟨by rfl,?_⟩) (h := ?_)
      rotate_left
      ·(intro w hSw; (try dsimp only at hSw); go_simp; (try with_reducible rfl))
      (try simp only [Act.put,xL4,xL5,xL6])
      refine xT 13 (v := ?_) (hy := Or.inl ⟨by rfl,?_⟩) (h := ?_)
      rotate_left
      ·(intro w hSw; (try dsimp only at hSw); go_simp; (try with_reducible rfl))
      (try simp only [Act.put,xL4,xL5,xL6])
      refine xT 14 (v := ?_) (hy := Or.inl ⟨by rfl,?_⟩) (h := ?_)
      rotate_left
      ·(intro w hSw; (try dsimp only at hSw); go_simp; (try with_reducible rfl))
      (try simp only [Act.put,xL4,xL5,xL6])
      refine xT 15 (v := ?_) (hy := Or.inl ⟨by rfl,?_⟩) (h := ?_)
      rotate_left
      ·(intro w hSw; (try dsimp only at hSw); go_simp; (try with_reducible rfl))
      (try simp only [Act.put,xL4,xL5,xL6])
      refine xT 16 (v := ?_) (hy := Or.inl ⟨by rfl,?_⟩) (h := ?_)
      rotate_left
      ·(intro w hSw; (try dsimp only at hSw); go_simp; (try with_reducible rfl))
      (try simp only [Act.put,xL4,xL5,xL6])
      refine xT 17 (v := ?_) (hy := Or.inl ⟨by rfl,?_⟩) (h := ?_)
      rotate_left
      ·(intro w hSw; (try dsimp only at hSw); go_simp; (try with_reducible rfl))
      (try simp only [Act.put,xL4,xL5,xL6])
      refine xT 18 (v := ?_) (hy := Or.inl ⟨by rfl,?_⟩) (h := ?_)
      rotate_left
      ·(intro w hSw; (try dsimp only at hSw); go_simp; (try with_reducible rfl))
      (try simp only [Act.put,xL4,xL5,xL6])
      refine xT 19 (v := ?_) (hy := Or.inl ⟨by rfl,?_⟩) (h := ?_)
      rotate_left
      ·(intro w hSw; (try dsimp only at hSw); go_simp; (try with_reducible rfl))
      (try simp only [Act.put,xL4,xL5,xL6])
      refine xT 20 (v := ?_) (hy := Or.inl ⟨by rfl,?_⟩) (h := ?_)
      rotate_left
      ·(intro w hSw; (try dsimp only at hSw); go_simp; (try with_reducible rfl))
      (try simp only [Act.put,xL4,xL5,xL6])
      refine xR [21] (h := ?_)
      refine xN (h := fun K hK => ?_)
      go_simp
      refine (laidp_at _ (pl t n r i) ⟨fn,sh rc,bk⟩ M p6 a6 y6 n6 c6 m6 d6 _ GP.1 GP.2.1 (HM.out.pl_srt r i) ((HR6.out.below BB)) HQS.out HLN.out HM1.out hM HI64.out (HTB.out.below BB)).mono ?_
      rintro e w21 ⟨v21,rfl,h21,hN21,b21⟩
      obtain ⟨a21,k21,c21,rfl⟩ : ∃ a k c,v21 = .slice a k c := by obtain ⟨a,c,e,_⟩ := GRow.open h21; exact ⟨_,_,_,e⟩
      have hGb := RA.lt hn0
      have GD : GoodP M w21 G (.slice a21 k21 c21) (pl t n r rc) := by rw [HPL.out]; exact ⟨h21,fun e => absurd e (insP_ne _ _),fun b8 o8 n8 c8 e8 => by have := hN21 b8 o8 n8 c8 e8; omega⟩
      clear h21 hN21 hGb
      go_wp2_with fail
      replace RA := RA.below b21
      replace VV := VV.below b21
      replace VN := VN.below b21
      replace KN := KN.below b21
      replace CG := CG.below b21
      replace GP := GP.below b21
      replace BB := BB.trans (b21.mono BB.size)
      clear b21
      refine hK.out _ _ ?_ (fun hH1 => ?_)
      ·exact ⟨CG,VN.c1,VV.2.2.1,VV.2.1,(BB.cell (p := ⟨gs,rc * 3,none⟩) HGS.out.1).trans HZ0.out.1,(BB.cell (p := ⟨gs,rc * 3 + 1,none⟩) HGS.out.1).trans HZ0.out.2.1,(BB.cell (p := ⟨gs,rc * 3 + 2,none⟩) HGS.out.1).trans HZ0.out.2.2,(BB.cell (p := ⟨go,i,none⟩) HGS.out.2).trans HG2.out⟩
      clear hK K hHeld
      (try simp only [Act.put,xL4,xL5,xL6])
      refine xT 22 (v := ?_) (hy := Or.inl ⟨by rfl,?_⟩) (h := ?_)
      rotate_left
      ·(intro w hSw; (try dsimp only at hSw); go_simp; (try with_reducible rfl))
      (try simp only [Act.put,xL4,xL5,xL6])
      refine xR [23] (h := ?_)
      refine xN (h := fun K hK => ?_)
      obtain ⟨⟨a7,k7,c7,C7⟩,s7,RA_n⟩ := RA.put hcn GD
      have VV_n : V3 (w21.setCell ⟨G,rc,none⟩ (.slice a21 k21 c21)) w.heap.size (.slice (some ⟨b,off,none⟩) n ct) (.slice (some ⟨go,0,none⟩) n n) (.slice (some ⟨gs,0,none⟩) n n) := VV.block11 (Below.heap_setCell _ _ _ _ (fun e => hGV e.symm))
      have VN_n : V14 (w21.setCell ⟨G,rc,none⟩ (.slice a21 k21 c21)) R7 (.bool false) (.int .i64 (fn : Int)) (.bool p1) (.slice a1 n1 c1) (.slice b1 m1 d1) (.int .i64 (lc : Int)) (.int .i64 (rc : Int)) (.bool (t i).miss) (.bool p2) (.slice a2 n2 c2) (.slice b2 m2 d2) (.bool p3) (.slice a3 n3 c3) (.slice b3 m3 d3) := VN.blockP (Below.heap_setCell _ _ _ _ (Nat.ne_of_gt hGw))
      have KN_n : KNum w3 (w21.setCell ⟨G,rc,none⟩ (.slice a21 k21 c21)) := KN.set C7 (num_slice _ _ _) _
      have CG_n : CelG (w21.setCell ⟨G,rc,none⟩ (.slice a21 k21 c21)) G i (.slice a5 k5 c5) := CG.set HCN.out.2
      have BB_n : Below w.heap.size w (w21.setCell ⟨G,rc,none⟩ (.slice a21 k21 c21)) := BB.setCell (p := ⟨G,rc,none⟩) hGB _
      go_simp
      clear C7 s7 RA VV VN KN CG GP GD BB
      generalize (w21.setCell ⟨G,rc,none⟩ (.slice a21 k21 c21)) = W9 at *
      have RA := RA_n
      have VV := VV_n
      have VN := VN_n
      have KN := KN_n
      have CG := CG_n
      have BB := BB_n
      clear RA_n VV_n VN_n KN_n CG_n BB_n
      refine hK.out _ _ ?_ (fun hH2 => ?_)
      ·exact ⟨CG,VN.c1,VV.2.2.1,VV.2.1,(BB.cell (p := ⟨gs,rc * 3,none⟩) HGS.out.1).trans HZ0.out.1,(BB.cell (p := ⟨gs,rc * 3 + 1,none⟩) HGS.out.1).trans HZ0.out.2.1,(BB.cell (p := ⟨gs,rc * 3 + 2,none⟩) HGS.out.1).trans HZ0.out.2.2,(BB.cell (p := ⟨go,i,none⟩) HGS.out.2).trans HG2.out⟩
      clear hK K hH1
      (try simp only [Act.put,xL4,xL5,xL6])
      refine wpAnyH_done (by kernel_rfl) ?_ _
      clear hH2
      have RA2 := RA.mono (ok' := fun x => okD t zs k x ∨ (1 ≤ 2 ∧ x = lc) ∨ (2 ≤ 2 ∧ x = rc)) (fun x hx => by rcases hx with h | ⟨_,h⟩ | ⟨_,h⟩; exact .inl (.inl h); exact .inl (.inr (.inl ⟨by omega,h⟩)); exact .inr h)
      clear RA CG
      go_wp2
      go_roundw
      case rel => exact ⟨2,by omega,by go_num,RA2,VV,VN,KN,BB⟩
      case measure => simp [intOf]
     ·have RA2 := RA.mono (ok' := fun x => okD t zs (k + 1) x) (fun x hx => by rcases okD_split HZI.out hx with (h | h) | h; exact .inl h; exact .inr (.inl ⟨by omega,h.trans HLR.out.1⟩); exact .inr (.inr ⟨by omega,h.trans HLR.out.2⟩))
      clear RA
      go_wp2
      go_roundw
      case rel => exact ⟨k + 1,by omega,by go_num,RA2,VV,KN,BB⟩
      case measure => simp [intOf]; omega
   ·have HLF : Hid ((t i).leaf = true) := hlf
    rw [hlf] at NN
    clear hlf
    obtain ⟨N_0,N_1,N_2,N_3,N_4,N_5,N_6,N_7,N_8,N_9,N_10,N_11,N_12,N_13⟩ := id NN
    obtain ⟨W7,hW7,hS7,hL7,VN,FN⟩ := V14.lay wr 48 (.bool true) (.int .i64 (t i).feat) (.bool p1) (.slice a1 n1 c1) (.slice b1 m1 d1) (.int .i64 (t i).left) (.int .i64 (t i).right) (.bool (t i).miss) (.bool p2) (.slice a2 n2 c2) (.slice b2 m2 d2) (.bool p3) (.slice a3 n3 c3) (.slice b3 m3 d3)
    replace BB := BB.trans (hL7.mono BB.size)
    replace RA := RA.below hL7
    replace VV := VV.below hL7
    replace KN := KN.below hL7
    clear hL7
    obtain ⟨V_0,V_1,V_2,V_3,V_4,V_5,V_6,V_7,V_8,V_9,V_10,V_11,V_12,V_13⟩ := id VN
    rw [hW7] at V_0 V_1 V_2 V_3 V_4 V_5 V_6 V_7 V_8 V_9 V_10 V_11 V_12 V_13
    have RA2 := RA.mono (fun x hx => okD_leaf HZI.out HLF.out hx)
    clear RA
    go_wp2
    rw [← hW7]
    go_roundw
    case rel => exact ⟨k + 1,by omega,by go_num,RA2,VV,KN,BB⟩
    case measure => simp [intOf]; omega
  ·obtain rfl : k = n := by omega
   have g1 : ¬ (k : Int) < (k : Int) := by omega
   have RF : RArr M wr G k (pl t k r) (fun _ => True) := by
    have hz := HZL.out
    obtain ⟨vs,h1,h2,h3⟩ := RA
    refine ⟨vs,h1,h2,fun x hx _ => h3 x hx ?_⟩
    have := okD_all HM.out HQ.out hx
    rw [hz] at this
    exact this
   clear RA
   go_wp2
   go_ret
   exact ⟨_,rfl,hGB,RF,BB⟩

theorem step_store_in {P : Program} {ops : Array Oper} {o : Oper} {a : Act} {w : World} {K : Act → World → Prop} {Q : Exit → Act → World → Prop} {E : Prop} (hgd : o.guard = none) (t : TypeId) (x y : Operand) (ho : o.op = .store t x y) (i0 : TypeInfo) (hi : P.info? t = some i0) (g off : Nat) (hx : a.eval x = .pointer (some ⟨g,off,none⟩)) (vs : Array Value) (hy : a.eval y = .agg vs)
  (cur : Array Value) (t' : TypeId) (hg : w.heap[g]? = some (.cells cur t' (0,0))) (hl : off + vs.size ≤ cur.size) (hs : i0.size = vs.size) (h1 : ∀ v ∈ vs.toList,v.oneCell' = true)
  (h : K (a.put o.dst undef) (w.setRow g (spl10 cur.toList off vs.toList).toArray)) :
  if Region.wanted o (yielded ops a.tmps) = true then Oper.wp P o a w K Q else E := by
 have hw : Region.wanted o (yielded ops a.tmps) = true := by simp [Region.wanted,hgd]
 rw [if_pos hw]
 have hst := run_storeCells_at (P := P) g off t' vs.toList 0 cur w hg (by simpa using hl) h1
 rw [Nat.add_zero] at hst
 have hst2 : (storeCells ⟨g,off,none⟩ vs.toList).run P w = .ok () (w.setRow g (spl10 cur.toList off vs.toList).toArray) := hst
 unfold Oper.wp execOp
 simp [ho,hx,hy,Instr.storeAt,Instr.sureAddr,storeVar,sizeOf,typeInfo,hi,hs,hst2,Result.andThen,Value.cells]
 exact h
structure RawL (w : World) (g : Nat) (us : List Value) : Prop where
 heap : w.heap[g]? = some (.cells us.toArray 45 (0,0))
 pur : ∀ u ∈ us,¬ IsLimb u
theorem RawL.lt {w : World} {g : Nat} {us : List Value} (h : RawL w g us) : g < w.heap.size := (Array.getElem?_eq_some_iff.1 h.heap).1
theorem RawL.below {w w' : World} {g : Nat} {us : List Value} (h : RawL w g us) (hb : Below w.heap.size w w') : RawL w' g us := ⟨(hb.block g h.lt).trans h.heap,h.pur⟩
theorem RawL.splice {w : World} {g o : Nat} {us cs : List Value} (h : RawL w g us) (hc : ∀ u ∈ cs,¬ IsLimb u) : RawL (w.setRow g (spl10 us o cs).toArray) g (spl10 us o cs) ∧ KeepQ IsLimb w (w.setRow g (spl10 us o cs).toArray) := by
 have hp : PureB IsLimb w g := pure_of_cells h.heap (fun u hu => h.pur u (by simpa using hu))
 refine ⟨⟨setRow_heap w g us.toArray _ _ _ h.heap,fun u hu => ?_⟩,?_⟩
 ·rcases spl10_mem hu with h1 | h1
  ·exact h.pur u h1
  ·exact hc u h1
 ·exact (pure_splice (cur := us.toArray) (o := o) (cs := cs) h.heap hp hc).2
theorem RawL.cell {w : World} {g : Nat} {us : List Value} (h : RawL w g us) {j : Nat} {u : Value} (hj : us[j]? = some u) : w.cell? ⟨g,j,none⟩ = some u := by
 rw [cell_of_row _ _ _ _ _ _ h.heap]
 simpa using hj
theorem made_legs (n : Nat) : ∀ u ∈ (madeCells (Value.agg #[.int .i64 0,.bool false,.slice none 0 0,.slice none 0 0,.slice none 0 0]).cells (n * 5)).toList,¬ IsLimb u := by
 intro u hu
 obtain ⟨k,hk⟩ := List.getElem?_of_mem hu
 have hlt : k < n * 5 := by
  have := (List.getElem?_eq_some_iff.1 hk).1
  simpa [madeCells] using this
 simp [madeCells,Value.cells,hlt] at hk
 rcases (show k % 5 = 0 ∨ k % 5 = 1 ∨ k % 5 = 2 ∨ k % 5 = 3 ∨ k % 5 = 4 by omega) with e | e | e | e | e <;> (rw [e] at hk; simp at hk; subst hk; first | exact limb_int _ | exact limb_bool _ | exact limb_slice _ _ _)
theorem rawl_made {w : World} {B g n : Nat} (h : w.ownsRow B 45 5 (.slice (some ⟨g,0,none⟩) n n) n (madeCells (Value.agg #[.int .i64 0,.bool false,.slice none 0 0,.slice none 0 0,.slice none 0 0]).cells (n * 5)).toList) : RawL w g (madeCells (Value.agg #[.int .i64 0,.bool false,.slice none 0 0,.slice none 0 0,.slice none 0 0]).cells (n * 5)).toList := by
 rcases h.2 with ⟨e,_⟩ | ⟨g2,c2,cur,e,_,hgh,_,_,hcs,ht⟩
 ·cases e
 ·cases e
  have : cur.toList = (madeCells (Value.agg #[.int .i64 0,.bool false,.slice none 0 0,.slice none 0 0,.slice none 0 0]).cells (n * 5)).toList := by
   rw [← ht,List.take_of_length_le (by simp [hcs])]
  refine ⟨?_,made_legs n⟩
  rw [← this]
  simpa using hgh
theorem info_leg11 : (Tryz.prog.info? 45).map (fun i => (i.zero,i.size,i.bytes)) = some (some (.agg #[.int .i64 0,.bool false,.slice none 0 0,.slice none 0 0,.slice none 0 0]),5,88) := by kernel_rfl
def LgAt (w : World) (B g : Nat) (el : Nat → Value) (x : Nat) (q : Rat) (l : List PtZ) : Prop := el 0 = .int .i64 (x : Int) ∧ (∃ p a n c b m d,el 1 = .bool p ∧ el 2 = .slice a n c ∧ el 3 = .slice b m d ∧ RepQ w (.agg #[.bool p,.slice a n c,.slice b m d]) q) ∧ PRr w (el 4) l ∧ (0 < l.length → ∀ b o n c,el 4 = .slice (some ⟨b,o,none⟩) n c → B ≤ b ∧ b ≠ g)
theorem LgAt.below {w w' : World} {B g : Nat} {el : Nat → Value} {x : Nat} {q : Rat} {l : List PtZ} (h : LgAt w B g el x q l) (hb : Below w.heap.size w w') : LgAt w' B g el x q l := by
 obtain ⟨a,⟨p,a1,n,c,b,m,d,e1,e2,e3,e4⟩,f,h4⟩ := h
 exact ⟨a,⟨p,a1,n,c,b,m,d,e1,e2,e3,e4.below hb⟩,f.below hb,h4⟩
theorem LgAt.row {w : World} {B g : Nat} {el : Nat → Value} {x : Nat} {q : Rat} {l : List PtZ} (h : LgAt w B g el x q l) {cs : Array Value} (hk : KeepQ IsLimb w (w.setRow g cs)) : LgAt (w.setRow g cs) B g el x q l := by
 obtain ⟨a,⟨p,a1,n,c,b,m,d,e1,e2,e3,e4⟩,⟨el5,⟨a5,c5,f1,f2,f3,f4⟩,f5⟩,h4⟩ := h
 refine ⟨a,⟨p,a1,n,c,b,m,d,e1,e2,e3,e4.keepL hk⟩,⟨el5,⟨a5,c5,f1,f2,f3,fun h0 => ?_⟩,fun i d hd => ptrEl.keep (f5 i d hd) hk⟩,h4⟩
 obtain ⟨b5,off,rfl,hc⟩ := f4 h0
 have hne := (h4 h0 b5 off _ c5 f1).2
 exact ⟨b5,off,rfl,fun i hi j hj => (World.cell?_of_block (w := w) (a := ⟨b5,off + i * 5 + j,none⟩) (setRow_other w g b5 _ hne)).trans (hc i hi j hj)⟩
theorem LgAt.other {w w' : World} {B g : Nat} {el : Nat → Value} {x : Nat} {q : Rat} {l : List PtZ} (h : LgAt w B g el x q l) (hk : KeepQ IsLimb w w') (hb : ∀ b,B ≤ b → w'.heap[b]? = w.heap[b]?) : LgAt w' B g el x q l := by
 obtain ⟨a,⟨p,a1,n,c,b,m,d,e1,e2,e3,e4⟩,⟨el5,⟨a5,c5,f1,f2,f3,f4⟩,f5⟩,h4⟩ := h
 refine ⟨a,⟨p,a1,n,c,b,m,d,e1,e2,e3,e4.keepL hk⟩,⟨el5,⟨a5,c5,f1,f2,f3,fun h0 => ?_⟩,fun i d hd => ptrEl.keep (f5 i d hd) hk⟩,h4⟩
 obtain ⟨b5,off,rfl,hc⟩ := f4 h0
 have hne := (h4 h0 b5 off _ c5 f1).1
 exact ⟨b5,off,rfl,fun i hi j hj => (World.cell?_of_block (w := w) (a := ⟨b5,off + i * 5 + j,none⟩) (hb b5 hne)).trans (hc i hi j hj)⟩
def LegI (w : World) (B g m k : Nat) (ys : List Nat) (q : Nat → Rat) (f : Nat → List PtZ) : Prop := ∃ (us : List Value) (el : Nat → Nat → Value),RawL w g us ∧ us.length = m * 5 ∧ (∀ x,x < k → ∀ j,j < 5 → us[x * 5 + j]? = some (el x j)) ∧ ∀ x y,x < k → ys[x]? = some y → LgAt w B g (el x) y (q y) (f y)
theorem LegI.below {w w' : World} {B g m k : Nat} {ys : List Nat} {q : Nat → Rat} {f : Nat → List PtZ} (h : LegI w B g m k ys q f) (hb : Below w.heap.size w w') : LegI w' B g m k ys q f := by
 obtain ⟨us,el,h1,h2,h3,h4⟩ := h
 exact ⟨us,el,h1.below hb,h2,h3,fun x y hx hy => (h4 x y hx hy).below hb⟩
theorem LegI.lt {w : World} {B g m k : Nat} {ys : List Nat} {q : Nat → Rat} {f : Nat → List PtZ} (h : LegI w B g m k ys q f) : g < w.heap.size := by
 obtain ⟨us,el,h1,_⟩ := h
 exact h1.lt
theorem LegI.put {w : World} {B g m k : Nat} {ys : List Nat} {q : Nat → Rat} {f : Nat → List PtZ} (h : LegI w B g m k ys q f) (hk : k < m) {y : Nat} (hy : ys[k]? = some y) {p : Bool} {a b a4 : Option Addr} {n c m1 d n4 c4 : Nat} (hr : RepQ w (.agg #[.bool p,.slice a n c,.slice b m1 d]) (q y)) (hp : PRr w (.slice a4 n4 c4) (f y)) (hn : 0 < (f y).length → ∀ b o n c,(.slice a4 n4 c4 : Value) = .slice (some ⟨b,o,none⟩) n c → B ≤ b ∧ b ≠ g) :
  ∃ us,w.heap[g]? = some (.cells us.toArray 45 (0,0)) ∧ us.length = m * 5 ∧ LegI (w.setRow g (spl10 us (k * 5) [.int .i64 (y : Int),.bool p,.slice a n c,.slice b m1 d,.slice a4 n4 c4]).toArray) B g m (k + 1) ys q f := by
 obtain ⟨us,el,h1,h2,h3,h4⟩ := h
 have hcl : ([.int .i64 (y : Int),.bool p,.slice a n c,.slice b m1 d,.slice a4 n4 c4] : List Value).length = 5 := rfl
 have hfit : k * 5 + ([.int .i64 (y : Int),.bool p,.slice a n c,.slice b m1 d,.slice a4 n4 c4] : List Value).length ≤ us.length := by rw [hcl,h2]; omega
 obtain ⟨R,KQ⟩ := h1.splice (o := k * 5) (cs := [.int .i64 (y : Int),.bool p,.slice a n c,.slice b m1 d,.slice a4 n4 c4]) (by intro u hu; simp at hu; rcases hu with rfl | rfl | rfl | rfl | rfl <;> first | exact limb_int _ | exact limb_bool _ | exact limb_slice _ _ _)
 refine ⟨us,h1.heap,h2,_,fun x j => if x = k then ([.int .i64 (y : Int),.bool p,.slice a n c,.slice b m1 d,.slice a4 n4 c4] : List Value).getD j undef else el x j,R,by rw [spl10_len hfit,h2],fun x hx j hj => ?_,fun x y' hx hy' => ?_⟩
 ·rw [spl10_at hfit]
  dsimp only
  by_cases e : x = k
  ·subst e
   rw [if_neg (by omega),if_pos (by rw [hcl]; omega),if_pos rfl,show x * 5 + j - x * 5 = j by omega,List.getD_eq_getElem?_getD,List.getElem?_eq_getElem (by rw [hcl]; omega)]
   rfl
  ·rw [if_pos (by omega),if_neg e]
   exact h3 x (by omega) j hj
 ·dsimp only
  by_cases e : x = k
  ·subst e
   rw [hy] at hy'
   cases hy'
   simp only [if_pos]
   exact LgAt.row (w := w) (B := B) (g := g) ⟨rfl,⟨p,a,n,c,b,m1,d,rfl,rfl,rfl,hr⟩,hp,hn⟩ KQ
  ·simp only [if_neg e]
   exact (h4 x y' (by omega) hy').row KQ
theorem LegI.other {w w' : World} {B g m k : Nat} {ys : List Nat} {q : Nat → Rat} {f : Nat → List PtZ} (h : LegI w B g m k ys q f) (hg : B ≤ g) (hk : KeepQ IsLimb w w') (hb : ∀ b,B ≤ b → w'.heap[b]? = w.heap[b]?) : LegI w' B g m k ys q f := by
 obtain ⟨us,el,h1,h2,h3,h4⟩ := h
 exact ⟨us,el,⟨(hb g hg).trans h1.heap,h1.pur⟩,h2,h3,fun x y hx hy => (h4 x y hx hy).other hk hb⟩
theorem LegI.at {w : World} {B g m k : Nat} {ys : List Nat} {q : Nat → Rat} {f : Nat → List PtZ} (h : LegI w B g m k ys q f) {j y : Nat} (hj : j < k) (hy : ys[j]? = some y) : ∃ p a n c b m1 d u,w.cell? ⟨g,j * 5,none⟩ = some (.int .i64 (y : Int)) ∧ w.cell? ⟨g,j * 5 + 1,none⟩ = some (.bool p) ∧ w.cell? ⟨g,j * 5 + 2,none⟩ = some (.slice a n c) ∧ w.cell? ⟨g,j * 5 + 3,none⟩ = some (.slice b m1 d) ∧ w.cell? ⟨g,j * 5 + 4,none⟩ = some u ∧ RepQ w (.agg #[.bool p,.slice a n c,.slice b m1 d]) (q y) ∧ PRr w u (f y) := by
 obtain ⟨us,el,h1,h2,h3,h4⟩ := h
 obtain ⟨a0,⟨p,a1,n,c,b,m1,d,e1,e2,e3,e4⟩,e5,_⟩ := h4 j y hj hy
 have k0 := h1.cell (h3 j hj 0 (by omega)); have k1 := h1.cell (h3 j hj 1 (by omega)); have k2 := h1.cell (h3 j hj 2 (by omega)); have k3 := h1.cell (h3 j hj 3 (by omega)); have k4 := h1.cell (h3 j hj 4 (by omega))
 rw [a0] at k0; rw [e1] at k1; rw [e2] at k2; rw [e3] at k3
 exact ⟨p,a1,n,c,b,m1,d,_,k0,k1,k2,k3,k4,e4,e5⟩

theorem MayT.lvs_few11 {F : Int} {t : Nat → Nd} {n : Nat} (h : MayT F t n) : 1 ≤ (lvs t n 0).length ∧ (lvs t n 0).length ≤ n := by
 have h1 := h.count h.pos
 have h2 := h.pre_few h.pos
 have h3 := pre_pos t n 0
 have h4 := h.pos
 omega
set_option maxRecDepth 100000 in
set_option maxHeartbeats 8000000 in
theorem legs_yes (v vr : Value) (n nr : Nat) (t : Nat → Nd) (r : Nat → Cl) (L : Nat) (w : World) (hT : TRow w v n t L) (hR : CRow w vr nr r L) (ht : Tab w) (hL : 1 ≤ L) (hL2 : L ≤ 10000) (S M : Nat) (hz : ∀ x y,x < n → y < n → qsz ((t x).cov / (t y).cov) ≤ S) (hS : 1 ≤ S) (hSM : (n + 1) * S ≤ M) (hLM : 2 * L ≤ M) (hM : M ≤ 100000) (hw : mayB (nr : Int) 1 (fun _ => n) (fun _ => t) = true) :
  Calls Tryz.prog 7 #[v,vr] w fun e w' => ∃ g m,e = .returned (.tuple #[.slice (some ⟨g,0,none⟩) m m,.int .i64 0]) ∧ w.heap.size ≤ g ∧ m = (lvs t n 0).length ∧ LegI w' w.heap.size g m m (lvs t n 0) (fun y => (t y).val) (fun y => (pl t n r y).map Pt.z) ∧ Below w.heap.size w w' := by
 obtain ⟨at_,ct,rfl,htc,ht63⟩ := hT.open
 obtain ⟨ar,cr,rfl,hrc,hr63⟩ := hR.open
 have BB : Below w.heap.size w w := Below.refl _ _
 have HT0 : Hid (TRow w (.slice at_ n ct) n t L) := hT
 have HR0 : Hid (CRow w (.slice ar nr cr) nr r L) := hR
 have HB0 : Hid (Tab w) := ht
 have HWW : Hid (mayB (nr : Int) 1 (fun _ => n) (fun _ => t) = true) := hw
 clear hT hR ht hw
 go_enter Tryz.func7,Tryz.ntmps7
 go_wp2_with fail
 refine (tree_may (nr : Int) _ n t L _ HT0.out HB0.out hL (by omega)).mono ?_
 rintro e w1 ⟨rfl,b1⟩
 replace BB := BB.trans (b1.mono BB.size)
 clear b1
 rw [HWW.out]
 obtain ⟨hF0,hF64,_,hmy⟩ := mayB_may HWW.out
 have HM : Hid (MayT (nr : Int) t n) := hmy 0 (by omega)
 clear hmy
 have HZS : Hid (∀ x y,x < n → y < n → qsz ((t x).cov / (t y).cov) ≤ S) := hz
 clear hz
 have hn0 : 0 < n := HM.out.pos
 have hn255 := HM.out.few
 go_wp2_with fail
 refine (look_at _ _ n nr t r L _ (HT0.out.below BB) (HR0.out.below BB) HM.out (HB0.out.below BB) hL hL2).mono ?_
 rintro e w2 ⟨go,gs,sh,rfl,hgo,hgs,hO,GA,hse,b2⟩
 have HO : Hid (∀ x,x < n → (t x).leaf = false → w2.cell? ⟨go,x,none⟩ = some (.int .i64 (nxt (t x) r : Int))) := hO
 have HSE : Hid (∀ x,x < n → (t x).leaf = false → sh (kl t x) = (t (kl t x)).cov / (t x).cov ∧ sh (kr t x) = (t (kr t x)).cov / (t x).cov) := hse
 replace BB := BB.trans (b2.mono BB.size)
 clear b2 hgo hgs hO hse
 go_wp2_with fail
 refine (vparts_at (nr : Int) _ go gs n t r sh S L M _ (HT0.out.below BB) HO.out GA HSE.out HM.out hF64 HZS.out hS hSM hLM hM (HB0.out.below BB)).mono ?_
 rintro e w3 ⟨gp,rfl,hgp,RA,b3⟩
 replace BB := BB.trans (b3.mono BB.size)
 clear b3 GA HO HSE hgp
 go_wp2_with fail
 refine (leaves8_yes (nr : Int) _ n t L _ (HT0.out.below BB) (HB0.out.below BB) hL (by omega) HWW.out HM.out).mono ?_
 rintro e w4 ⟨u,rfl,LO,b4⟩
 replace RA := RA.below b4
 replace BB := BB.trans (b4.mono BB.size)
 clear b4
 obtain ⟨ys,hys⟩ : ∃ ys,lvs t n 0 = ys := ⟨_,rfl⟩
 obtain ⟨m,hm⟩ : ∃ m,ys.length = m := ⟨_,rfl⟩
 have HYS : Hid (lvs t n 0 = ys) := hys
 have HYM : Hid (ys.length = m ∧ 1 ≤ m ∧ m ≤ n) := by
  have h1 := HM.out.lvs_few11
  rw [hys,hm] at h1
  exact ⟨hm,h1⟩
 have HYI : Hid (∀ x ∈ ys,x < n) := by
  rw [← hys]
  exact fun y hy => ((HM.out.pre_sub hn0) y ((List.mem_filter.1 hy).1)).1
 rw [hys] at LO
 obtain ⟨gl,cl,rfl,hlc⟩ := LO.open (by have := HYM.out; omega)
 have HLO : Hid (∀ j x : Nat,ys[j]? = some x → w4.cell? ⟨gl,j,none⟩ = some (.int .i64 (x : Int))) := fun j x hj => LO.cell rfl hj
 rw [hm] at hlc ⊢
 clear LO hys hm
 have hm0 := HYM.out.2.1
 have hmn := HYM.out.2.2
 obtain ⟨i0,hi,hz0,hz1,hz2⟩ := info_parts info_leg11
 have HI0 : Hid (Tryz.prog.info? 45 = some i0 ∧ i0.size = 5) := ⟨hi,hz1⟩
 go_wp2_with (at_make; refine wpList_make_full _ rfl _ _ 29 rfl _ 45 i0 (.agg #[.int .i64 0,.bool false,.slice none 0 0,.slice none 0 0,.slice none 0 0]) 5 Tryz.underlying29 hi hz0 hz1 _ _ _ _ m rfl rfl (by omega) (by omega) (by rw [hz2]; omega) (by unfold maxLen; omega) (Nat.le_refl _) ?_; intro w5 hown hgrow)
 have hb1 := below_grown hgrow
 have HLI : LegI w5 w.heap.size w4.heap.size m 0 ys (fun y => (t y).val) (fun y => (pl t n r y).map Pt.z) := ⟨_,fun _ _ => undef,rawl_made hown,by simp [madeCells],fun x hx => by omega,fun x y hx => by omega⟩
 have BX : BwP w4.heap.size w4 w5 := ⟨hb1,hb1.size⟩
 have hGB : w.heap.size ≤ w4.heap.size := BB.size
 have HGP : Hid (gp < w4.heap.size) := RA.lt hn0
 have HGL : Hid (gl < w4.heap.size) := World.block_lt_of_cell? _ _ (HLO.out 0 _ (List.getElem?_eq_getElem (show 0 < ys.length by have := HYM.out; omega)))
 have HRA : Hid (RArr M w4 gp n (pl t n r) (fun _ => True)) := RA
 have HB4 : Hid (Below w.heap.size w w4) := BB
 replace BB := BB.trans (hb1.mono BB.size)
 clear hown hgrow hb1 hi hz0 hz1 hz2 RA
 go_loopw [29] (fun vi wr => ∃ k : Nat,k ≤ m ∧ vi = .int .i64 (k : Int) ∧ LegI wr w.heap.size w4.heap.size m k ys (fun y => (t y).val) (fun y => (pl t n r y).map Pt.z) ∧ BwP w4.heap.size w4 wr ∧ Below w.heap.size w wr) (fun vi _ => m - (intOf vi).toNat)
 case atStart => exact ⟨0,by omega,rfl,HLI,BX,BB⟩
 case round =>
  clear HLI BX BB
  obtain ⟨k,hk,rfl,HLI,BX,BB⟩ := hrel
  by_cases hlt : k < m
  ·have g0 : (0 : Int) ≤ (k : Int) := by omega
   have g1 : (k : Int) < (m : Int) := by omega
   have wk : IntKind.i64.wrap ((k : Int) + 1) = (k : Int) + 1 := by rw [IntKind.wrap_i64]; omega
   obtain ⟨i,hi⟩ : ∃ i,ys[k]? = some i := ⟨_,List.getElem?_eq_getElem (by have := HYM.out; omega)⟩
   have HYK : Hid (ys[k]? = some i) := hi
   have hin : i < n := HYI.out i (List.mem_of_getElem? hi)
   have CI : wr.cell? ⟨gl,k,none⟩ = some (.int .i64 (i : Int)) := (BX.out.cell (p := ⟨gl,k,none⟩) HGL.out).trans (HLO.out k i hi)
   clear hi
   have k0 : (0 : Int) ≤ (i : Int) := by omega
   have k1 : (i : Int) < (n : Int) := by omega
   obtain ⟨b,off,cc,p1,a1,n1,c1,b1,m1,d1,p2,a2,n2,c2,b2,m2,d2,p3,a3,n3,c3,b3,m3,d3,hvv,hcc,hc6,NN0,r1,r2,r3,i1_,i2_,i3_⟩ := HT0.out.at hin
   cases hvv
   have HR2 : Hid (RatAt w (.agg #[.bool p2,.slice a2 n2 c2,.slice b2 m2 d2]) (t i).val L) := r2
   obtain ⟨N_0,N_1,N_2,N_3,N_4,N_5,N_6,N_7,N_8,N_9,N_10,N_11,N_12,N_13⟩ := id NN0
   have HN8 : Hid (w.cell? ⟨b,off + i * 14 + 8,none⟩ = some (.bool p2) ∧ w.cell? ⟨b,off + i * 14 + 9,none⟩ = some (.slice a2 n2 c2) ∧ w.cell? ⟨b,off + i * 14 + 10,none⟩ = some (.slice b2 m2 d2)) := ⟨N_8,N_9,N_10⟩
   have HBW : Hid (b < w.heap.size) := World.block_lt_of_cell? _ _ N_8
   clear r1 r2 r3 i1_ i2_ i3_ NN0 N_0 N_1 N_2 N_3 N_4 N_5 N_6 N_7 N_8 N_9 N_10 N_11 N_12 N_13
   obtain ⟨a5,k5,c5,CG,GP⟩ := HRA.out.at hin trivial
   have HCG : Hid (w4.cell? ⟨gp,i,none⟩ = some (.slice a5 k5 c5)) := CG
   have HGD : Hid (PRw M w4 (.slice a5 k5 c5) ((pl t n r i).map Pt.z)) := GP.1
   clear CG GP
   have PSM := HM.out.pl_small r hS HZS.out hin
   have HLN : Hid (((pl t n r i).map Pt.z).length ≤ 1000) := by
    have h1 := srt_few (F := 64) (HM.out.pl_srt r i) (fun a ha => by have := (PSM a ha).1; omega)
    show _ ≤ _
    rw [List.length_map]
    omega
   have HM1 : Hid (1 ≤ M) := Nat.le_trans hS (Nat.le_trans (Nat.le_mul_of_pos_left S (Nat.succ_pos n)) hSM)
   clear PSM
   go_wp2_with fail
   clear CI
   have hDr : Below wr.heap.size wr wr.drew := (Below.refl _ _).drew
   replace HLI := HLI.below hDr
   replace BX := BX.below hDr
   replace BB := BB.trans (hDr.mono BB.size)
   clear hDr
   refine wp_region_held_drew (S := (fun w' => w'.cell? ⟨b,off + i * 14 + 8,none⟩ = some (.bool p2) ∧ w'.cell? ⟨b,off + i * 14 + 9,none⟩ = some (.slice a2 n2 c2) ∧ w'.cell? ⟨b,off + i * 14 + 10,none⟩ = some (.slice b2 m2 d2) ∧ w'.cell? ⟨gp,i,none⟩ = some (.slice a5 k5 c5))) (by kernel_rfl) ?_ (fun hHeld => ?_)
   ·exact ⟨(BB.cell (p := ⟨b,off + i * 14 + 8,none⟩) HBW.out).trans HN8.out.1,(BB.cell (p := ⟨b,off + i * 14 + 9,none⟩) HBW.out).trans HN8.out.2.1,(BB.cell (p := ⟨b,off + i * 14 + 10,none⟩) HBW.out).trans HN8.out.2.2,(BX.out.cell (p := ⟨gp,i,none⟩) HGP.out).trans HCG.out⟩
   generalize wr.drew = W21 at *
   refine xT 0 (v := ?_) (hy := Or.inl ⟨by rfl,?_⟩) (h := ?_)
   rotate_left
   ·(intro w hSw; (try dsimp only at hSw); go_simp; (try with_reducible rfl))
   (try simp only [Act.put,xL4,xL5,xL6])
   refine xT 1 (v := ?_) (hy := Or.inl ⟨by rfl,?_⟩) (h := ?_)
   rotate_left
   ·(intro w hSw; (try dsimp only at hSw); go_simp; (try with_reducible rfl))
   (try simp only [Act.put,xL4,xL5,xL6])
   refine xT 2 (v := ?_) (hy := Or.inl ⟨by rfl,?_⟩) (h := ?_)
   rotate_left
   ·(intro w hSw; (try dsimp only at hSw); go_simp; (try with_reducible rfl))
   (try simp only [Act.put,xL4,xL5,xL6])
   refine xT 3 (v := ?_) (hy := Or.inl ⟨by rfl,?_⟩) (h := ?_)
   rotate_left
   ·(intro w hSw; (try dsimp only at hSw); go_simp; (try with_reducible rfl))
   (try simp only [Act.put,xL4,xL5,xL6])
   refine xT 4 (v := ?_) (hy := Or.inl ⟨by rfl,?_⟩) (h := ?_)
   rotate_left
   ·(intro w hSw; (try dsimp only at hSw); go_simp; (try with_reducible rfl))
   (try simp only [Act.put,xL4,xL5,xL6])
   refine xT 5 (v := ?_) (hy := Or.inl ⟨by rfl,?_⟩) (h := ?_)
   rotate_left
   ·(intro w hSw; (try dsimp only at hSw); go_simp; (try with_reducible rfl))
   (try simp only [Act.put,xL4,xL5,xL6])
   refine xT 6 (v := ?_) (hy := Or.inl ⟨by rfl,?_⟩) (h := ?_)
   rotate_left
   ·(intro w hSw; (try dsimp only at hSw); go_simp; (try with_reducible rfl))
   (try simp only [Act.put,xL4,xL5,xL6])
   refine xT 7 (v := ?_) (hy := Or.inl ⟨by rfl,?_⟩) (h := ?_)
   rotate_left
   ·(intro w hSw; (try dsimp only at hSw); go_simp; (try with_reducible rfl))
   (try simp only [Act.put,xL4,xL5,xL6])
   refine xT 9 (v := ?_) (hy := Or.inl ⟨by rfl,?_⟩) (h := ?_)
   rotate_left
   ·(intro w hSw; (try dsimp only at hSw); go_simp; (try with_reducible rfl))
   (try simp only [Act.put,xL4,xL5,xL6])
   refine xT 10 (v := ?_) (hy := Or.inl ⟨by rfl,?_⟩) (h := ?_)
   rotate_left
   ·(intro w hSw; (try dsimp only at hSw); go_simp; (try with_reducible rfl))
   (try simp only [Act.put,xL4,xL5,xL6])
   refine xT 11 (v := ?_) (hy := Or.inl ⟨by rfl,?_⟩) (h := ?_)
   rotate_left
   ·(intro w hSw; (try dsimp only at hSw); go_simp; (try with_reducible rfl))
   (try simp only [Act.put,xL4,xL5,xL6])
   refine xT 12 (v := ?_) (hy := Or.inl ⟨by rfl,?_⟩) (h := ?_)
   rotate_left
   ·(intro w hSw; (try dsimp only at hSw); go_simp; (try with_reducible rfl))
   (try simp only [Act.put,xL4,xL5,xL6])
   refine xR [8] (h := ?_)
   refine xN (h := fun K hK => ?_)
   go_simp
   refine (qclean_at _ (t i).val L _ (HR2.out.below BB) hL (by omega) (HB0.out.below BB)).mono ?_
   rintro e w21 ⟨v9,rfl,h9,b21⟩
   obtain ⟨p9,a9,n9,c9,y9,m9,d9,rfl⟩ := h9.open
   go_wp2_with fail
   replace HLI := HLI.below b21
   replace BX := BX.below b21
   replace BB := BB.trans (b21.mono BB.size)
   clear b21
   refine hK.out _ _ ?_ (fun hH1 => ?_)
   ·exact ⟨(BB.cell (p := ⟨b,off + i * 14 + 8,none⟩) HBW.out).trans HN8.out.1,(BB.cell (p := ⟨b,off + i * 14 + 9,none⟩) HBW.out).trans HN8.out.2.1,(BB.cell (p := ⟨b,off + i * 14 + 10,none⟩) HBW.out).trans HN8.out.2.2,(BX.out.cell (p := ⟨gp,i,none⟩) HGP.out).trans HCG.out⟩
   clear hK K hHeld
   (try simp only [Act.put,xL4,xL5,xL6])
   refine xR [13] (h := ?_)
   refine xN (h := fun K hK => ?_)
   go_simp
   refine (own_at _ ((pl t n r i).map Pt.z) M _ (HGD.out.below BX.out) HLN.out HM1.out hM (HB0.out.below BB)).mono ?_
   rintro e w22 ⟨v8,rfl,h8,hN8,b22⟩
   obtain ⟨a8,k8,c8,rfl⟩ : ∃ a k c,v8 = .slice a k c := by obtain ⟨a,c,e,_⟩ := GRow.open h8; exact ⟨_,_,_,e⟩
   have hGl := HLI.lt
   go_wp2_with fail
   replace HLI := HLI.below b22
   replace BX := BX.below b22
   replace h9 := h9.below b22
   replace BB := BB.trans (b22.mono BB.size)
   clear b22
   refine hK.out _ _ ?_ (fun hH2 => ?_)
   ·exact ⟨(BB.cell (p := ⟨b,off + i * 14 + 8,none⟩) HBW.out).trans HN8.out.1,(BB.cell (p := ⟨b,off + i * 14 + 9,none⟩) HBW.out).trans HN8.out.2.1,(BB.cell (p := ⟨b,off + i * 14 + 10,none⟩) HBW.out).trans HN8.out.2.2,(BX.out.cell (p := ⟨gp,i,none⟩) HGP.out).trans HCG.out⟩
   clear hK K hH1
   (try simp only [Act.put,xL4,xL5,xL6])
   refine xT 14 (v := ?_) (hy := Or.inl ⟨by rfl,?_⟩) (h := ?_)
   rotate_left
   ·(intro w hSw; (try dsimp only at hSw); go_simp; (try with_reducible rfl))
   (try simp only [Act.put,xL4,xL5,xL6])
   refine xT 15 (v := ?_) (hy := Or.inl ⟨by rfl,?_⟩) (h := ?_)
   rotate_left
   ·(intro w hSw; (try dsimp only at hSw); go_simp; (try with_reducible rfl))
   (try simp only [Act.put,xL4,xL5,xL6])
   refine xR [16] (h := ?_)
   refine xN (h := fun K hK => ?_)
   obtain ⟨us,hus,husl,HLI_n⟩ := HLI.put hlt HYK.out (p := p9) (a := a9) (n := n9) (c := c9) (b := y9) (m1 := m9) (d := d9) h9 h8 (fun h0 b7 o7 n7 c7 e7 => by obtain ⟨g7,c72,e72,hg7⟩ := hN8 h0; rw [e72] at e7; cases e7; exact ⟨by omega,by omega⟩)
   have BX_n : BwP w4.heap.size w4 (w22.setRow w4.heap.size (spl10 us (k * 5) [.int .i64 (i : Int),.bool p9,.slice a9 n9 c9,.slice y9 m9 d9,.slice a8 k8 c8]).toArray) := BX.row
   have BB_n : Below w.heap.size w (w22.setRow w4.heap.size (spl10 us (k * 5) [.int .i64 (i : Int),.bool p9,.slice a9 n9 c9,.slice y9 m9 d9,.slice a8 k8 c8]).toArray) := below_setRow BB hGB _
   obtain ⟨W9,hW9⟩ : ∃ W9,w22.setRow w4.heap.size (spl10 us (k * 5) [.int .i64 (i : Int),.bool p9,.slice a9 n9 c9,.slice y9 m9 d9,.slice a8 k8 c8]).toArray = W9 := ⟨_,rfl⟩
   rw [hW9] at HLI_n BX_n BB_n
   refine step_store_in rfl 45 _ _ rfl i0 HI0.out.1 w4.heap.size (k * 5) rfl #[.int .i64 (i : Int),.bool p9,.slice a9 n9 c9,.slice y9 m9 d9,.slice a8 k8 c8] rfl us.toArray 45 hus (by simp only [List.size_toArray,husl]; show k * 5 + 5 ≤ _; omega) HI0.out.2 (by simp [Value.oneCell']) ?_
   rw [show w22.setRow w4.heap.size (spl10 (us.toArray).toList (k * 5) (#[.int .i64 (i : Int),.bool p9,.slice a9 n9 c9,.slice y9 m9 d9,.slice a8 k8 c8] : Array Value).toList).toArray = W9 from hW9]
   clear hW9 hus husl HLI BX BB h8 h9 hN8
   have HLI := HLI_n
   have BX := BX_n
   have BB := BB_n
   clear HLI_n BX_n BB_n
   refine hK.out _ _ ?_ (fun hH3 => ?_)
   ·exact ⟨(BB.cell (p := ⟨b,off + i * 14 + 8,none⟩) HBW.out).trans HN8.out.1,(BB.cell (p := ⟨b,off + i * 14 + 9,none⟩) HBW.out).trans HN8.out.2.1,(BB.cell (p := ⟨b,off + i * 14 + 10,none⟩) HBW.out).trans HN8.out.2.2,(BX.out.cell (p := ⟨gp,i,none⟩) HGP.out).trans HCG.out⟩
   clear hK K hH2
   (try simp only [Act.put,xL4,xL5,xL6])
   refine wpAnyH_done (by kernel_rfl) ?_ _
   clear hH3
   go_wp2
   go_roundw
   case rel => exact ⟨k + 1,by omega,by go_num,HLI,BX,BB⟩
   case measure => simp [intOf]; omega
  ·obtain rfl : k = m := by omega
   have g1 : ¬ (k : Int) < (k : Int) := by omega
   have HLR : Hid (LegI wr w.heap.size w4.heap.size k k (lvs t n 0) (fun y => (t y).val) (fun y => (pl t n r y).map Pt.z)) := by rw [HYS.out]; exact HLI
   have HKL : Hid (k = (lvs t n 0).length) := by rw [HYS.out]; exact HYM.out.1.symm
   clear HLI
   go_wp2
   go_ret2
   exact ⟨_,_,rfl,hGB,HKL.out,HLR.out,BB⟩

structure BwR (R : Nat) (w0 w : World) : Prop where
 out : Below w0.heap.size w0 w
 le : w0.heap.size ≤ R
theorem BwR.below {R : Nat} {w0 w w' : World} (h : BwR R w0 w) (hb : Below w.heap.size w w') : BwR R w0 w' := ⟨h.out.trans (hb.mono h.out.size),h.le⟩
theorem BwR.put {R : Nat} {w0 w : World} (h : BwR R w0 w) (x y z : Value) : BwR R w0 (((w.setCell ⟨R,0,none⟩ x).setCell ⟨R,1,none⟩ y).setCell ⟨R,2,none⟩ z) := ⟨below_store3 h.out h.le x y z,h.le⟩
def SmQ (w : World) (R : Nat) (q : Rat) : Prop := ∃ p a n c b m d,V3 w R (.bool p) (.slice a n c) (.slice b m d) ∧ RepQ w (.agg #[.bool p,.slice a n c,.slice b m d]) q
theorem SmQ.below {w w' : World} {R : Nat} {q : Rat} (h : SmQ w R q) (hb : Below w.heap.size w w') : SmQ w' R q := let ⟨p,a,n,c,b,m,d,h1,h2⟩ := h; ⟨p,a,n,c,b,m,d,h1.below hb,h2.below hb⟩
theorem put3_other {w : World} {R : Nat} {x y z : Value} {b : Nat} (h : b ≠ R) : (((w.setCell ⟨R,0,none⟩ x).setCell ⟨R,1,none⟩ y).setCell ⟨R,2,none⟩ z).heap[b]? = w.heap[b]? := by
 rw [Below.heap_setCell _ _ _ _ h,Below.heap_setCell _ _ _ _ h,Below.heap_setCell _ _ _ _ h]
theorem keep_limb {w w' : World} (h : KeepQ IsNum w w') : KeepQ IsLimb w w' := fun b o v hl hv => h b o v (by obtain ⟨x,rfl | rfl⟩ := hl <;> exact ⟨_,_,rfl⟩) hv
theorem LegI.put3 {w : World} {B g m k R : Nat} {ys : List Nat} {q : Nat → Rat} {f : Nat → List PtZ} {p : Bool} {ao bo : Option Addr} {n c m1 d : Nat} (h : LegI w B g m k ys q f) (hg : B ≤ g) (hR : R < B) (hv : V3 w R (.bool p) (.slice ao n c) (.slice bo m1 d)) (x y z : Value) : LegI (((w.setCell ⟨R,0,none⟩ x).setCell ⟨R,1,none⟩ y).setCell ⟨R,2,none⟩ z) B g m k ys q f :=
 h.other hg (keep_limb (hv.keepJ x y z)) (fun b hb => put3_other (by omega))
theorem celg_put3 {w : World} {g o R : Nat} {v x y z : Value} (h : CelG w g o v) (hne : g ≠ R) : CelG (((w.setCell ⟨R,0,none⟩ x).setCell ⟨R,1,none⟩ y).setCell ⟨R,2,none⟩ z) g o v :=
 (World.cell?_of_block (w := w) (a := ⟨g,o,none⟩) (put3_other hne)).trans h
end Go.Proofs.YtbbliiafkjipbaaGreatDoor

namespace Go.Proofs.YtbbliiafkjipbaaGreatDoor
set_option linter.unusedVariables false
set_option linter.unusedSimpArgs false
theorem whyI_zero11 {F : Int} {k : Nat} {N : Nat → Nat} {T : Nat → Nat → Nd} {nr : Nat} (h : whyI F k N T nr = 0) : mayB F k N T = true ∧ (nr : Int) = F := by
 unfold whyI at h
 by_cases a : mayB F k N T = true
 ·rw [if_pos a] at h
  by_cases b : (nr : Int) = F
  ·exact ⟨a,b⟩
  ·rw [if_neg b] at h; omega
 ·rw [if_neg a] at h; omega
theorem u64_wf {z : Int} (h : (Lit.int .u64 z).wf = true) : ∃ s : Nat,z = (s : Int) ∧ s < 18446744073709551616 := by
 simp [Lit.wf] at h
 have e1 : IntKind.u64.min = 0 := by decide
 have e2 : IntKind.u64.max = 18446744073709551615 := by decide
 exact ⟨z.toNat,by omega,by omega⟩
end Go.Proofs.YtbbliiafkjipbaaGreatDoor
