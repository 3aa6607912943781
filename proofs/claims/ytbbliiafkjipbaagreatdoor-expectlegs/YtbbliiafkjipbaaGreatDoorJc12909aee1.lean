/-
  Texts of mine.
-/
import Derived.Test.YtbbliiafkjipbaaGreatDoorJd9abae9e33
import Derived.Test.YtbbliiafkjipbaaGreatDoorJ0923b60517
import Derived.Test.YtbbliiafkjipbaaGreatDoorJe1b848227b
import Derived.Test.YtbbliiafkjipbaaGreatDoorJbea81810e9
import Derived.Test.YtbbliiafkjipbaaGreatDoorJa61d86bc3a
import Derived.Test.YtbbliiafkjipbaaGreatDoorJb21aacc9a4
import Derived.Test.YtbbliiafkjipbaaGreatDoorJ9befad8b6e
namespace Go.Proofs.YtbbliiafkjipbaaGreatDoor
open Go.RowKit
set_option linter.unusedVariables false
set_option linter.unusedSimpArgs false

def VArr (w : World) (g k i : Nat) (q : Nat → Rat) : Prop := ∃ el,Arr3 w g k el ∧ ∀ j,j < i → RepQ w (elv el j) (q j)
theorem VArr.below {w w' : World} {g k i : Nat} {q : Nat → Rat} (h : VArr w g k i q) (hb : Below w.heap.size w w') : VArr w' g k i q := let ⟨el,a,b⟩ := h; ⟨el,a.below hb,fun j hj => (b j hj).below hb⟩
theorem VArr.put {w : World} {g k i : Nat} {q : Nat → Rat} (h : VArr w g k i q) (hi : i < k) {p : Bool} {a b : Option Addr} {n c m d : Nat} (hr : RepQ w (.agg #[.bool p,.slice a n c,.slice b m d]) (q i)) : ∃ u0 u1 u2,w.cell? ⟨g,i * 3,none⟩ = some u0 ∧ w.cell? ⟨g,i * 3 + 1,none⟩ = some u1 ∧ w.cell? ⟨g,i * 3 + 2,none⟩ = some u2 ∧ w.frozen? ⟨g,i * 3,none⟩ = false ∧ w.frozen? ⟨g,i * 3 + 1,none⟩ = false ∧ w.frozen? ⟨g,i * 3 + 2,none⟩ = false ∧
  VArr (((w.setCell ⟨g,i * 3,none⟩ (.bool p)).setCell ⟨g,i * 3 + 1,none⟩ (.slice a n c)).setCell ⟨g,i * 3 + 2,none⟩ (.slice b m d)) g k (i + 1) q := by
 obtain ⟨el,A,R⟩ := h
 obtain ⟨A2,K2⟩ := A.set i hi (.bool p) (.slice a n c) (.slice b m d) (num_bool _) (num_slice _ _ _) (num_slice _ _ _)
 refine ⟨_,_,_,A.1 i hi 0 (by omega),A.1 i hi 1 (by omega),A.1 i hi 2 (by omega),A.2.1 i hi 0 (by omega),A.2.1 i hi 1 (by omega),A.2.1 i hi 2 (by omega),_,A2,fun j hj => ?_⟩
 by_cases e : j = i
 ·subst e
  have := hr.keep K2
  simpa [elv,upd3] using this
 ·have := (R j (by omega)).keep K2
  simp only [elv,upd3_other el i j _ _ _ e] at *
  exact this
theorem VArr.row {w : World} {g k : Nat} {q : Nat → Rat} (h : VArr w g k k q) (hk : k ≤ 100000) : FRow w (.slice (some ⟨g,0,none⟩) k k) k q :=
 let ⟨el,a,b⟩ := h; ⟨el,a.row k k (Nat.le_refl _) (Nat.le_refl _) (by omega),b⟩

structure Cel10 (w : World) (b o : Nat) (x : Value) : Prop where
 cell : w.cell? ⟨b,o,none⟩ = some x
theorem Cel10.lt {w : World} {b o : Nat} {x : Value} (h : Cel10 w b o x) : b < w.heap.size := World.block_lt_of_cell? _ _ h.cell
theorem Cel10.below {w w' : World} {b o : Nat} {x : Value} (h : Cel10 w b o x) (hb : Below w.heap.size w w') : Cel10 w' b o x := ⟨(hb.cell (p := ⟨b,o,none⟩) h.lt).trans h.cell⟩
theorem Cel10.from {B : Nat} {w w' : World} {b o : Nat} {x : Value} (h : w.cell? ⟨b,o,none⟩ = some x) (hb : Below w.heap.size w w') : Cel10 w' b o x := ⟨(hb.cell (p := ⟨b,o,none⟩) (World.block_lt_of_cell? _ _ h)).trans h⟩
theorem Cel10.other3 {w : World} {b o R : Nat} {x : Value} (h : Cel10 w b o x) (hne : b ≠ R) (u0 u1 u2 : Value) : Cel10 (((w.setCell ⟨R,0,none⟩ u0).setCell ⟨R,1,none⟩ u1).setCell ⟨R,2,none⟩ u2) b o x :=
 ⟨by rw [World.cell?_setCell_other _ _ _ _ (fun e => by injection e; omega),World.cell?_setCell_other _ _ _ _ (fun e => by injection e; omega),World.cell?_setCell_other _ _ _ _ (fun e => by injection e; omega)]; exact h.cell⟩
set_option maxRecDepth 100000 in
set_option maxHeartbeats 4000000 in
theorem is10_at (u v : Value) (q : Rat) (L M : Nat) (w : World) (hu : RepQ w u q) (hs : qsz q ≤ L) (hv : RatAt w v q M) (hM2 : 2 ≤ M) (hLM : L + M ≤ 890) :
  Calls Tryz.prog 11 #[u,v] w fun e w' => e = .returned (.bool true) ∧ Below w.heap.size w w' := by
 obtain ⟨pu,au,nu,cu,bu,mu,du,rfl⟩ := hu.open
 obtain ⟨pv,av,nv,cv,bv,mv,dv,rfl⟩ := hv.open
 have BB : Below w.heap.size w w := Below.refl _ _
 obtain ⟨Wb0,hW0,hS0,hL0,VU⟩ := V3.lay w 42 (.bool pu) (.slice au nu cu) (.slice bu mu du)
 replace hu := hu.below hL0
 replace hv := hv.below hL0
 replace BB := BB.xm hL0
 clear hL0
 obtain ⟨Wb1,hW1,hS1,hL1,VV⟩ := V3.lay Wb0 42 (.bool pv) (.slice av nv cv) (.slice bv mv dv)
 rw [hS0] at VV hS1
 replace hu := hu.below hL1
 replace hv := hv.below hL1
 replace VU := VU.below hL1
 replace BB := BB.xm hL1
 clear hL1
 go_enter Tryz.func11,Tryz.ntmps11
 go_wp2
 rw [← hW0]
 rw [← hW1]
 clear hW0 hW1 hS0 hS1
 have hDr : Below Wb1.heap.size Wb1 Wb1.drew := (Below.refl _ _).drew
 replace hu := hu.below hDr
 replace hv := hv.below hDr
 replace VU := VU.below hDr
 replace VV := VV.below hDr
 replace BB := BB.xm hDr
 clear hDr
 refine wp_region_held_drew (S := (fun w' => w'.cell? ⟨w.heap.size,0,none⟩ = some (.bool pu) ∧ w'.cell? ⟨w.heap.size,1,none⟩ = some (.slice au nu cu) ∧ w'.cell? ⟨w.heap.size,2,none⟩ = some (.slice bu mu du) ∧ w'.cell? ⟨w.heap.size + 1,0,none⟩ = some (.bool pv) ∧ w'.cell? ⟨w.heap.size + 1,1,none⟩ = some (.slice av nv cv) ∧ w'.cell? ⟨w.heap.size + 1,2,none⟩ = some (.slice bv mv dv))) (by kernel_rfl) ?_ (fun hHeld => ?_)
 ·exact ⟨VU.1,VU.2.1,VU.2.2.1,VV.1,VV.2.1,VV.2.2.1⟩
 generalize Wb1.drew = W1 at *
 refine xV 0 (h := ?_)
 refine xV 1 (h := ?_)
 refine xR [2] (h := ?_)
 refine xN (h := fun K hK => ?_)
 go_simp
 refine (jfrom_at _ q M _ hv hM2 (by omega)).mono ?_
 rintro e w1 ⟨x1,rfl,j1,b1⟩
 go_wp2_with fail
 replace hu := hu.below b1
 replace hv := hv.below b1
 replace VU := VU.below b1
 replace VV := VV.below b1
 replace BB := BB.xm b1
 clear b1
 refine hK.out _ _ ?_ (fun hH1 => ?_)
 ·exact ⟨VU.1,VU.2.1,VU.2.2.1,VV.1,VV.2.1,VV.2.2.1⟩
 clear hK K hHeld
 (try simp only [Act.put,xL4,xL5,xL6])
 refine xR [3] (h := ?_)
 refine xN (h := fun K hK => ?_)
 go_simp
 refine (jis_at _ _ q L M _ hu hs j1 hLM).mono ?_
 rintro e w2 ⟨rfl,b2⟩
 go_wp2_with fail
 replace hu := hu.below b2
 replace hv := hv.below b2
 replace j1 := j1.below b2
 replace VU := VU.below b2
 replace VV := VV.below b2
 replace BB := BB.xm b2
 clear b2
 refine hK.out _ _ ?_ (fun hH2 => ?_)
 ·exact ⟨VU.1,VU.2.1,VU.2.2.1,VV.1,VV.2.1,VV.2.2.1⟩
 clear hK K hH1
 (try simp only [Act.put,xL4,xL5,xL6])
 refine xV 4 (h := ?_)
 refine wpAnyH_done (by kernel_rfl) ?_ _
 clear hH2
 go_wp2
 go_ret
 exact ⟨rfl,BB⟩

theorem IntOwn.below {B : Nat} {w w' : World} {v : Value} {zs : List Nat} (h : IntOwn B w v zs) (hb : Below w.heap.size w w') : IntOwn B w' v zs := h.later hb
theorem V3.low11 {B R : Nat} {W W' : World} {x y z : Value} (h : V3 W R x y z) (hb : Below B W W') (hlt : R < B) : V3 W' R x y z :=
 ⟨(hb.cell (p := ⟨R,0,none⟩) hlt).trans h.1,(hb.cell (p := ⟨R,1,none⟩) hlt).trans h.2.1,(hb.cell (p := ⟨R,2,none⟩) hlt).trans h.2.2.1,(hb.frozen (p := ⟨R,0,none⟩) hlt).trans h.2.2.2.1,(hb.frozen (p := ⟨R,1,none⟩) hlt).trans h.2.2.2.2.1,(hb.frozen (p := ⟨R,2,none⟩) hlt).trans h.2.2.2.2.2⟩
theorem int_more1 {B : Nat} {w : World} {g c x k : Nat} {zs : List Nat} (hk : zs.length = k) (h : w.ownsRow B 3 1 (.slice (some ⟨g,0,none⟩) (k + 1) c) (k + 1) (zs.map (fun x : Nat => Value.int .i64 (x : Int)) ++ [.int .i64 (x : Int)])) : IntOwn B w (.slice (some ⟨g,0,none⟩) (k + 1) c) (zs ++ [x]) := by
 unfold IntOwn
 rw [List.map_append,List.length_append,hk]
 exact h
theorem news_v1 {w : World} {R : Nat} {x : Value} (h : V1 w R x) : ∀ j u,[x][j]? = some u → w.cell? ((⟨R,0,none⟩ : Addr).add j) = some u := by
 intro j u hu
 match j,hu with
 | 0,hu => simp at hu; subst hu; exact h.1
 | k + 1,hu => simp at hu
def Blt11 (B : Nat) (w : World) (v x : Value) : Prop := ∃ R,v = .slice (some ⟨R,0,none⟩) 1 1 ∧ B ≤ R ∧ V1 w R x
theorem Blt11.below {B : Nat} {w w' : World} {v x : Value} (h : Blt11 B w v x) (hb : Below w.heap.size w w') : Blt11 B w' v x := let ⟨R,e,hB,hv⟩ := h; ⟨R,e,hB,hv.below hb⟩
theorem info_node11 : (Tryz.prog.info? 48).map (·.size) = some 14 := by kernel_rfl
structure OnW (w : World) (v : Value) (n : Nat) (t : Nat → Nd) (r : Nat → Cl) (s : Nat) : Prop where
 form : ∃ a k c,v = .slice a k c
 at' : ∀ x,x < n → (t x).leaf = false → inS s (t x).feat.toNat = true → ∃ b off c,v = .slice (some ⟨b,off,none⟩) n c ∧ n ≤ c ∧ w.cell? ⟨b,off + x,none⟩ = some (.int .i64 (nxt (t x) r : Int))
theorem OnW.below {w w' : World} {v : Value} {n : Nat} {t : Nat → Nd} {r : Nat → Cl} {s : Nat} (h : OnW w v n t r s) (hb : Below w.heap.size w w') : OnW w' v n t r s :=
 ⟨h.form,fun x hx hl hi => by
  obtain ⟨b,off,c,e,hc,hcl⟩ := h.at' x hx hl hi
  exact ⟨b,off,c,e,hc,(hb.cell (p := ⟨b,off + x,none⟩) (World.block_lt_of_cell? _ _ hcl)).trans hcl⟩⟩
theorem OnW.none (w : World) (v : Value) (n : Nat) (t : Nat → Nd) (r : Nat → Cl) (h : ∃ a k c,v = .slice a k c) : OnW w v n t r 0 := ⟨h,fun x _ _ hi => by rw [inS_none] at hi; cases hi⟩
set_option maxRecDepth 100000 in
set_option maxHeartbeats 16000000 in
theorem counted_at (F : Int) (va vb vc : Value) (n : Nat) (t : Nat → Nd) (r : Nat → Cl) (s L : Nat) (w : World) (hT : TRow w va n t L) (hO : OnW w vb n t r s) (hC : ∃ a k c,vc = .slice a k c) (hm : MayT F t n) (hF : F ≤ 64) (hs : s < 18446744073709551616) :
  Calls Tryz.prog 67 #[.agg #[va,vb,vc],.int .u64 (s : Int)] w fun e w' => ∃ u outs,e = .returned u ∧ IntOwn w.heap.size w' u outs ∧ QInv t n r s outs outs.length ∧ Below w.heap.size w w' := by
 obtain ⟨at_,ct,rfl,htc,ht63⟩ := hT.open
 obtain ⟨ao,ko,co_,rfl⟩ := hO.form
 obtain ⟨ac,kc_,cc_,rfl⟩ := hC
 have BB : Below w.heap.size w w := Below.refl _ _
 have hn0 : 0 < n := hm.pos
 have hn255 := hm.few
 obtain ⟨i0,hi0,hsz0⟩ : ∃ i0,Tryz.prog.info? 48 = some i0 ∧ i0.size = 14 := by
  have := info_node11
  cases e : Tryz.prog.info? 48 with
  | none => rw [e] at this; cases this
  | some i0 => rw [e] at this; exact ⟨i0,rfl,by simpa using this⟩
 have HI0 : Hid (Tryz.prog.info? 48 = some i0 ∧ i0.size = 14) := ⟨hi0,hsz0⟩
 clear hi0 hsz0
 obtain ⟨Wb0,hW0,hS0,hL0,VV⟩ := V3.lay w 70 (.slice at_ n ct) (.slice ao ko co_) (.slice ac kc_ cc_)
 have HT0 : Hid (TRow w (.slice at_ n ct) n t L) := hT
 have HOW : Hid (OnW w (.slice ao ko co_) n t r s) := hO
 have HM : Hid (MayT F t n) := hm
 replace BB := BB.xm hL0
 have hF0 := int_first Wb0 0 (w.heap.size + 1) (by omega)
 have hA0 : Below Wb0.heap.size Wb0 (Wb0.alloc (.cells #[.int .i64 0] 3)) := (Below.refl _ _).alloc (Nat.le_refl _) _
 replace VV := VV.below hA0
 replace BB := BB.xm hA0
 have HQ0 : Hid (QInv t n r s [0] 0) := QInv.start hn0
 clear hL0 hA0 hT hO hm
 go_enter Tryz.func67,Tryz.ntmps67
 go_wp2
 rw [← hW0]
 have hF1 : IntOwn (w.heap.size + 1) (Wb0.alloc (.cells #[.int .i64 0] 3)) (.slice (some ⟨w.heap.size + 1,0,none⟩) 1 1) [0] := by rw [hS0] at hF0; exact hF0
 clear hF0 hW0 hS0
 generalize Wb0.alloc (.cells #[.int .i64 0] 3) = W1 at *
 go_loopw [5,6] (fun vo vk wr => ∃ (outs : List Nat) (k : Nat),vk = .int .i64 (k : Int) ∧ IntOwn (w.heap.size + 1) wr vo outs ∧ Hid (QInv t n r s outs k) ∧ V3 wr w.heap.size (.slice at_ n ct) (.slice ao ko co_) (.slice ac kc_ cc_) ∧ Below w.heap.size w wr) (fun _ vk _ => n + 1 - (intOf vk).toNat)
 case atStart => exact ⟨[0],0,rfl,hF1,HQ0,VV,BB⟩
 case round =>
  clear hF1 HQ0 VV BB
  obtain ⟨outs,k,rfl,hO1,HQ,VV,BB⟩ := hrel
  have hle := HQ.out.len
  have hkl := HQ.out.le
  have hne : 0 < outs.length := (List.getElem?_eq_some_iff.1 HQ.out.root).1
  obtain ⟨go,co,rfl,hoc⟩ := hO1.open hne
  have HC : Hid (∀ j x : Nat,outs[j]? = some x → wr.cell? ⟨go,j,none⟩ = some (.int .i64 (x : Int))) := fun j x hj => hO1.cell rfl hj
  obtain ⟨len,hlen⟩ : ∃ len,outs.length = len := ⟨_,rfl⟩
  have HLN : Hid (outs.length = len) := hlen
  have hgo : w.heap.size + 1 ≤ go := (hO1.both go rfl).1
  rw [hlen] at hle hkl hoc hne hO1 ⊢
  clear hlen
  by_cases hlt : k < len
  ·have g1 : (k : Int) < (len : Int) := by omega
   have g0 : (0 : Int) ≤ (k : Int) := by omega
   obtain ⟨x,hx⟩ : ∃ x,outs[k]? = some x := ⟨_,List.getElem?_eq_getElem (by have := HLN.out; omega)⟩
   have hxn : x < n := HQ.out.small x (List.mem_of_getElem? hx)
   have XO : Cel10 wr go k (.int .i64 (x : Int)) := ⟨HC.out k x hx⟩
   have HQ2 : Hid (QInv t n r s (outs ++ kidS t r s x) (k + 1)) := HQ.out.step HM.out hx
   have hq2 := HQ2.out.len
   rw [List.length_append,HLN.out] at hq2
   have f0 : (0 : Int) ≤ (x : Int) := by omega
   have f1 : (x : Int) < (n : Int) := by omega
   obtain ⟨b,off,cc,p1,a1,n1,c1,b1,m1,d1,p2,a2,n2,c2,b2,m2,d2,p3,a3,n3,c3,b3,m3,d3,hvv,hcc,hc6,NN,r1,r2,r3,i1,i2,i3⟩ := (HT0.out.below BB).at hxn
   cases hvv
   have HKS : Hid (kidS t r s x = if (t x).leaf = true then [] else if inS s (t x).feat.toNat = true then [nxt (t x) r] else [kl t x,kr t x]) := rfl
   have HKD : Hid ((t x).leaf = false → (t x).left = (kl t x : Int) ∧ (t x).right = (kr t x : Int)) := fun h => ⟨(HM.out.kids hxn h).1,(HM.out.kids hxn h).2.1⟩
   have HFT : Hid ((t x).leaf = false → 0 ≤ (t x).feat ∧ (t x).feat < F) := HM.out.feat x hxn
   have HON : Hid (∀ w',Below w.heap.size w w' → (t x).leaf = false → inS s (t x).feat.toNat = true → ∃ b off c,Value.slice ao ko co_ = .slice (some ⟨b,off,none⟩) n c ∧ n ≤ c ∧ w'.cell? ⟨b,off + x,none⟩ = some (.int .i64 (nxt (t x) r : Int))) := fun w' hb => (HOW.out.below hb).at' x hxn
   clear hx HC HQ r1 r2 r3 i1 i2 i3
   generalize kidS t r s x = ks at *
   generalize nxt (t x) r = nx at *
   generalize kl t x = kx at *
   generalize kr t x = ky at *
   obtain ⟨lf,hlf⟩ : ∃ z,(t x).leaf = z := ⟨_,rfl⟩
   obtain ⟨ft,hft⟩ : ∃ z,(t x).feat = z := ⟨_,rfl⟩
   obtain ⟨ll,hll⟩ : ∃ z,(t x).left = z := ⟨_,rfl⟩
   obtain ⟨rr,hrr⟩ : ∃ z,(t x).right = z := ⟨_,rfl⟩
   obtain ⟨ms,hms⟩ : ∃ z,(t x).miss = z := ⟨_,rfl⟩
   rw [hlf,hft] at HKS HON
   rw [hlf,hll,hrr] at HKD
   rw [hlf,hft] at HFT
   rw [hlf,hft,hll,hrr,hms] at NN
   clear hlf hft hll hrr hms
   have HO1 := hO1
   go_wp2_with fail
   have hDr : Below wr.heap.size wr wr.drew := (Below.refl _ _).drew
   replace VV := VV.below hDr
   replace XO := XO.below hDr
   replace NN := NN.below hDr
   replace hO1 := hO1.below hDr
   replace BB := BB.xm hDr
   clear hDr
   refine wp_region_held_drew (S := (fun w' => w'.cell? ⟨w.heap.size,0,none⟩ = some (.slice (some ⟨b,off,none⟩) n ct) ∧ w'.cell? ⟨go,k,none⟩ = some (.int .i64 (x : Int)) ∧ w'.cell? ⟨b,off + x * 14,none⟩ = some (.bool lf) ∧ w'.cell? ⟨b,off + x * 14 + 1,none⟩ = some (.int .i64 ft) ∧ w'.cell? ⟨b,off + x * 14 + 2,none⟩ = some (.bool p1) ∧ w'.cell? ⟨b,off + x * 14 + 3,none⟩ = some (.slice a1 n1 c1) ∧ w'.cell? ⟨b,off + x * 14 + 4,none⟩ = some (.slice b1 m1 d1) ∧ w'.cell? ⟨b,off + x * 14 + 5,none⟩ = some (.int .i64 ll) ∧ w'.cell? ⟨b,off + x * 14 + 6,none⟩ = some (.int .i64 rr) ∧ w'.cell? ⟨b,off + x * 14 + 7,none⟩ = some (.bool ms) ∧ w'.cell? ⟨b,off + x * 14 + 8,none⟩ = some (.bool p2) ∧ w'.cell? ⟨b,off + x * 14 + 9,none⟩ = some (.slice a2 n2 c2) ∧ w'.cell? ⟨b,off + x * 14 + 10,none⟩ = some (.slice b2 m2 d2) ∧ w'.cell? ⟨b,off + x * 14 + 11,none⟩ = some (.bool p3) ∧ w'.cell? ⟨b,off + x * 14 + 12,none⟩ = some (.slice a3 n3 c3) ∧ w'.cell? ⟨b,off + x * 14 + 13,none⟩ = some (.slice b3 m3 d3))) (by kernel_rfl) ?_ (fun hHeld => ?_)
   ·exact ⟨VV.1,XO.cell,NN.c0,NN.c1,NN.c2,NN.c3,NN.c4,NN.c5,NN.c6,NN.c7,NN.c8,NN.c9,NN.c10,NN.c11,NN.c12,NN.c13⟩
   generalize wr.drew = W1 at *
   refine xV 0 (h := ?_)
   refine xV 1 (h := ?_)
   refine xV 2 (h := ?_)
   refine xV 3 (h := ?_)
   refine xV 4 (h := ?_)
   refine xV 5 (h := ?_)
   refine xV 6 (h := ?_)
   refine xV 7 (h := ?_)
   refine xR [8] (h := ?_)
   refine xN (h := fun K hK => ?_)
   go_simp
   have hAl : Below W1.heap.size W1 (W1.alloc (.cells #[.bool false,.int .i64 0,.bool false,.slice none 0 0,.slice none 0 0,.int .i64 0,.int .i64 0,.bool false,.bool false,.slice none 0 0,.slice none 0 0,.bool false,.slice none 0 0,.slice none 0 0] 48)) := (Below.refl _ _).alloc (Nat.le_refl _) _
   have hBk : (W1.alloc (.cells #[.bool false,.int .i64 0,.bool false,.slice none 0 0,.slice none 0 0,.int .i64 0,.int .i64 0,.bool false,.bool false,.slice none 0 0,.slice none 0 0,.bool false,.slice none 0 0,.slice none 0 0] 48)).heap[W1.heap.size]? = some (.cells #[.bool false,.int .i64 0,.bool false,.slice none 0 0,.slice none 0 0,.int .i64 0,.int .i64 0,.bool false,.bool false,.slice none 0 0,.slice none 0 0,.bool false,.slice none 0 0,.slice none 0 0] 48 (0,0)) := heap_alloc_new _ _
   have VV0 := VV
   replace VV := VV.below hAl
   have XO0 := XO
   replace XO := XO.below hAl
   have NN0 := NN
   replace NN := NN.below hAl
   refine hK.out _ _ ?_ (fun hH1 => ?_)
   ·exact ⟨VV.1,XO.cell,NN.c0,NN.c1,NN.c2,NN.c3,NN.c4,NN.c5,NN.c6,NN.c7,NN.c8,NN.c9,NN.c10,NN.c11,NN.c12,NN.c13⟩
   clear hK K hHeld
   (try simp only [Act.put,xL4,xL5,xL6])
   refine xR [9] (h := ?_)
   refine xN (h := fun K hK => ?_)
   refine step_store_new rfl 48 (.tmp 7) (.tmp 22) rfl i0 HI0.out.1 W1.heap.size rfl #[.bool lf,.int .i64 ft,.bool p1,.slice a1 n1 c1,.slice b1 m1 d1,.int .i64 ll,.int .i64 rr,.bool ms,.bool p2,.slice a2 n2 c2,.slice b2 m2 d2,.bool p3,.slice a3 n3 c3,.slice b3 m3 d3] rfl #[.bool false,.int .i64 0,.bool false,.slice none 0 0,.slice none 0 0,.int .i64 0,.int .i64 0,.bool false,.bool false,.slice none 0 0,.slice none 0 0,.bool false,.slice none 0 0,.slice none 0 0] 48 hBk rfl HI0.out.2 (by simp [Value.oneCell']) ?_
   rw [alloc_setRow]
   obtain ⟨W9,hW9,hS9,hL9,VN,FN⟩ := V14.lay W1 48 (.bool lf) (.int .i64 ft) (.bool p1) (.slice a1 n1 c1) (.slice b1 m1 d1) (.int .i64 ll) (.int .i64 rr) (.bool ms) (.bool p2) (.slice a2 n2 c2) (.slice b2 m2 d2) (.bool p3) (.slice a3 n3 c3) (.slice b3 m3 d3)
   rw [← hW9]
   have hRw : w.heap.size < W1.heap.size := VV0.lt
   replace VV := VV0.below hL9
   clear VV0
   replace XO := XO0.below hL9
   clear XO0
   replace NN := NN0.below hL9
   clear NN0
   replace hO1 := hO1.below hL9
   replace BB := BB.xm hL9
   clear hL9 hAl hBk hW9 HO1
   refine hK.out _ _ ?_ (fun hH2 => ?_)
   ·exact ⟨VV.1,XO.cell,NN.c0,NN.c1,NN.c2,NN.c3,NN.c4,NN.c5,NN.c6,NN.c7,NN.c8,NN.c9,NN.c10,NN.c11,NN.c12,NN.c13⟩
   clear hK K hH1
   (try simp only [Act.put,xL4,xL5,xL6])
   refine wpAnyH_done (by kernel_rfl) ?_ _
   clear hH2
   generalize W1.heap.size = R9 at *
   obtain ⟨V_0,V_1,V_2,V_3,V_4,V_5,V_6,V_7,V_8,V_9,V_10,V_11,V_12,V_13⟩ := id VN
   cases lf
   ·obtain ⟨e1,e2⟩ := HKD.out rfl
    obtain ⟨fe1,fe2⟩ := HFT.out rfl
    obtain ⟨fn,rfl⟩ : ∃ fn : Nat,ft = (fn : Int) := ⟨ft.toNat,by omega⟩
    subst e1 e2
    have hfn : fn < 64 := by omega
    go_wp2_with fail
    refine (xin_at s fn hs hfn _).mono ?_
    rintro e wx ⟨rfl,hwx⟩
    replace hwx := hwx.symm
    subst hwx
    have HK2 : Hid (ks = if inS s fn = true then [nx] else [kx,ky]) := by
     show ks = _
     rw [HKS.out,if_neg (by simp)]
     rfl
    have HN2 : Hid (∀ w',Below w.heap.size w w' → inS s fn = true → ∃ b off c,Value.slice ao ko co_ = .slice (some ⟨b,off,none⟩) n c ∧ n ≤ c ∧ w'.cell? ⟨b,off + x,none⟩ = some (.int .i64 (nx : Int))) := fun w' hb hi => HON.out w' hb (by first | exact trivial | rfl) hi
    clear HKS HON HKD HFT fe1 fe2
    obtain ⟨g,hg⟩ : ∃ g,inS s fn = g := ⟨_,rfl⟩
    rw [hg] at HK2 HN2 ⊢
    clear hg
    cases g
    ·have HK3 : ks = [kx,ky] := by rw [HK2.out]; rfl
     subst HK3
     have hA6 : Below W9.heap.size W9 (W9.alloc (.cells #[.int .i64 (kx : Int),.int .i64 (ky : Int)] 3)) := (Below.refl _ _).alloc (Nat.le_refl _) _
     have hnb6 := news_block (heap_alloc_new W9 (.cells #[.int .i64 (kx : Int),.int .i64 (ky : Int)] 3))
     rw [hS9] at hnb6
     have hO6 := hO1.later hA6
     have hO7 := int_len HLN.out hO6
     have VV6 := VV.below hA6
     have BB6 := BB.trans (hA6.mono BB.size)
     have hsz6 : w.heap.size + 1 ≤ (W9.alloc (.cells #[.int .i64 (kx : Int),.int .i64 (ky : Int)] 3)).heap.size := by have := VV6.lt; omega
     clear HK2 HN2
     go_wp2_with (at_builtin; refine wpList_append_pureM (Q' := fun _ => False) rfl _ _ _ rfl (w.heap.size + 1) 3 (.int .i64 0) 1 8 Tryz.underlying35 info_int rfl (by omega) (.slice (some ⟨go,0,none⟩) len co) rfl len (outs.map (fun x : Nat => Value.int .i64 (x : Int))) hO7 (fun _ _ _ _ _ h => h) ⟨R9 + 1,0,none⟩ 2 2 (by omega) (by omega) (by first | (simp; done) | rfl) [.int .i64 (kx : Int),.int .i64 (ky : Int)] rfl hnb6 (by simp [Value.oneCell']) (by simp) (by simp) (by omega) (by omega) hsz6 ?_; intro gn cn w3 hW8 hg8 hat8 _ _; have hB9 := below_grownB (Below.refl (w.heap.size + 1) _) hg8 hsz6 (fun g h => (hO6.both g h).1); have VV9 := VV6.low11 hB9 (by omega); have BB9 : Below w.heap.size w w3 := below_grownB BB6 hg8 BB6.size (fun g h => by have := (hO6.both g h).1; omega); have hO9 := int_more2 HLN.out hW8; clear hW8 hg8 hat8 hO7 hO6 BB6 VV6 hA6 hnb6 hB9 hsz6)
     go_roundw
     case rel => exact ⟨outs ++ [kx,ky],k + 1,by go_num,hO9,HQ2,VV9,BB9⟩
     case measure => simp [intOf]; omega
    ·have HK3 : ks = [nx] := by rw [HK2.out]; rfl
     subst HK3
     obtain ⟨b7,off7,c7,e7,hc7,hcl7⟩ := HN2.out _ BB rfl
     cases e7
     have XN : Cel10 W9 b7 (off7 + x) (.int .i64 (nx : Int)) := ⟨hcl7⟩
     clear HK2 HN2 hcl7 V_0 V_1 V_2 V_3 V_4 V_5 V_6 V_7 V_8 V_9 V_10 V_11 V_12 V_13 VN FN NN hS9
     go_wp2_with fail
     refine wp_region_until 10 #[true,true,true,true,true,true,true,true,true,true,false,false] (fun aF lsd a' w' => ∃ vu0 vu1 vu2 vu3 vu4 vu5 vu6 vu7 vu8 vu9 : Value,a' = (((((((((aF.put (some 38) vu0).put (some 39) vu1).put (some 40) vu2).put (some 41) vu3).put (some 42) vu4).put (some 43) vu5).put (some 44) vu6).put (some 45) vu7).put (some 46) vu8).put (some 47) vu9 ∧ Below W9.heap.size W9 w' ∧ (lsd.getD 0 false = true → vu0 = .slice (some ⟨go,0,none⟩) len co) ∧ (lsd.getD 1 false = true → vu1 = .pointer (some ⟨w.heap.size,1,none⟩)) ∧ (lsd.getD 2 false = true → vu2 = .slice (some ⟨b7,off7,none⟩) n co_) ∧ (lsd.getD 3 false = true → vu3 = .slice (some ⟨go,0,none⟩) len co) ∧ (lsd.getD 4 false = true → vu4 = .int .i64 (k : Int)) ∧ (lsd.getD 5 false = true → vu5 = .pointer (some ⟨go,k,none⟩)) ∧ (lsd.getD 6 false = true → vu6 = .int .i64 (x : Int)) ∧ (lsd.getD 7 false = true → vu7 = .pointer (some ⟨b7,off7 + x,none⟩)) ∧ (lsd.getD 8 false = true → vu8 = .int .i64 (nx : Int)) ∧ (lsd.getD 9 false = true → Blt11 W9.heap.size w' vu9 (.int .i64 (nx : Int)))) (by kernel_rfl) (by decide) (by kernel_rfl) (by rfl) (by kernel_rfl) ?_ ?_ ?_
     ·exact ⟨_,_,_,_,_,_,_,_,_,_,by simp only [Act.put,xL4,xL5,xL6]; rfl,(Below.refl _ _).drew,fun h => absurd h (fun h => mark_none h),fun h => absurd h (fun h => mark_none h),fun h => absurd h (fun h => mark_none h),fun h => absurd h (fun h => mark_none h),fun h => absurd h (fun h => mark_none h),fun h => absurd h (fun h => mark_none h),fun h => absurd h (fun h => mark_none h),fun h => absurd h (fun h => mark_none h),fun h => absurd h (fun h => mark_none h),fun h => absurd h (fun h => mark_none h)⟩
     ·rintro lsd au wn iu hszu ⟨vu0,vu1,vu2,vu3,vu4,vu5,vu6,vu7,vu8,vu9,rfl,hbu,fu0,fu1,fu2,fu3,fu4,fu5,fu6,fu7,fu8,fu9⟩ himu hru
      rcases (show iu = 0 ∨ iu = 1 ∨ iu = 2 ∨ iu = 3 ∨ iu = 4 ∨ iu = 5 ∨ iu = 6 ∨ iu = 7 ∨ iu = 8 ∨ iu = 9 by omega) with rfl | rfl | rfl | rfl | rfl | rfl | rfl | rfl | rfl | rfl
      ·refine wpOp_shut (by rfl) (fun K hK => ?_)
       simp only [Act.put,xL4,xL5,xL6]
       go_simp
       exact hK.out _ _ ⟨(.slice (some ⟨go,0,none⟩) len co),vu1,vu2,vu3,vu4,vu5,vu6,vu7,vu8,vu9,by simp only [Act.put,xL4,xL5,xL6],hbu,fun _ => rfl,fun h => fu1 (mark_of (by decide) h),fun h => fu2 (mark_of (by decide) h),fun h => fu3 (mark_of (by decide) h),fun h => fu4 (mark_of (by decide) h),fun h => fu5 (mark_of (by decide) h),fun h => fu6 (mark_of (by decide) h),fun h => fu7 (mark_of (by decide) h),fun h => fu8 (mark_of (by decide) h),fun h => fu9 (mark_of (by decide) h)⟩
      ·refine wpOp_shut (by rfl) (fun K hK => ?_)
       simp only [Act.put,xL4,xL5,xL6]
       go_simp
       exact hK.out _ _ ⟨vu0,(.pointer (some ⟨w.heap.size,1,none⟩)),vu2,vu3,vu4,vu5,vu6,vu7,vu8,vu9,by simp only [Act.put,xL4,xL5,xL6],hbu,fun h => fu0 (mark_of (by decide) h),fun _ => rfl,fun h => fu2 (mark_of (by decide) h),fun h => fu3 (mark_of (by decide) h),fun h => fu4 (mark_of (by decide) h),fun h => fu5 (mark_of (by decide) h),fun h => fu6 (mark_of (by decide) h),fun h => fu7 (mark_of (by decide) h),fun h => fu8 (mark_of (by decide) h),fun h => fu9 (mark_of (by decide) h)⟩
      ·have eu1 := fu1 (dep_of 1 hru rfl (by kernel_rfl))
       replace eu1 := eu1.symm
       subst eu1
       refine wpOp_shut (by rfl) (fun K hK => ?_)
       simp only [Act.put,xL4,xL5,xL6]
       have z1 := (VV.below hbu).2.1
       go_simp
       exact hK.out _ _ ⟨vu0,(.pointer (some ⟨w.heap.size,1,none⟩)),(.slice (some ⟨b7,off7,none⟩) n co_),vu3,vu4,vu5,vu6,vu7,vu8,vu9,by simp only [Act.put,xL4,xL5,xL6],hbu,fun h => fu0 (mark_of (by decide) h),fun _ => rfl,fun _ => rfl,fun h => fu3 (mark_of (by decide) h),fun h => fu4 (mark_of (by decide) h),fun h => fu5 (mark_of (by decide) h),fun h => fu6 (mark_of (by decide) h),fun h => fu7 (mark_of (by decide) h),fun h => fu8 (mark_of (by decide) h),fun h => fu9 (mark_of (by decide) h)⟩
      ·refine wpOp_shut (by rfl) (fun K hK => ?_)
       simp only [Act.put,xL4,xL5,xL6]
       go_simp
       exact hK.out _ _ ⟨vu0,vu1,vu2,(.slice (some ⟨go,0,none⟩) len co),vu4,vu5,vu6,vu7,vu8,vu9,by simp only [Act.put,xL4,xL5,xL6],hbu,fun h => fu0 (mark_of (by decide) h),fun h => fu1 (mark_of (by decide) h),fun h => fu2 (mark_of (by decide) h),fun _ => rfl,fun h => fu4 (mark_of (by decide) h),fun h => fu5 (mark_of (by decide) h),fun h => fu6 (mark_of (by decide) h),fun h => fu7 (mark_of (by decide) h),fun h => fu8 (mark_of (by decide) h),fun h => fu9 (mark_of (by decide) h)⟩
      ·refine wpOp_shut (by rfl) (fun K hK => ?_)
       simp only [Act.put,xL4,xL5,xL6]
       go_simp
       exact hK.out _ _ ⟨vu0,vu1,vu2,vu3,(.int .i64 (k : Int)),vu5,vu6,vu7,vu8,vu9,by simp only [Act.put,xL4,xL5,xL6],hbu,fun h => fu0 (mark_of (by decide) h),fun h => fu1 (mark_of (by decide) h),fun h => fu2 (mark_of (by decide) h),fun h => fu3 (mark_of (by decide) h),fun _ => rfl,fun h => fu5 (mark_of (by decide) h),fun h => fu6 (mark_of (by decide) h),fun h => fu7 (mark_of (by decide) h),fun h => fu8 (mark_of (by decide) h),fun h => fu9 (mark_of (by decide) h)⟩
      ·have eu3 := fu3 (dep_of 3 hru rfl (by kernel_rfl))
       have eu4 := fu4 (dep_of 4 hru rfl (by kernel_rfl))
       replace eu3 := eu3.symm
       subst eu3
       replace eu4 := eu4.symm
       subst eu4
       refine wpOp_shut (by rfl) (fun K hK => ?_)
       simp only [Act.put,xL4,xL5,xL6]
       go_simp
       exact hK.out _ _ ⟨vu0,vu1,vu2,(.slice (some ⟨go,0,none⟩) len co),(.int .i64 (k : Int)),(.pointer (some ⟨go,k,none⟩)),vu6,vu7,vu8,vu9,by simp only [Act.put,xL4,xL5,xL6],hbu,fun h => fu0 (mark_of (by decide) h),fun h => fu1 (mark_of (by decide) h),fun h => fu2 (mark_of (by decide) h),fun _ => rfl,fun _ => rfl,fun _ => rfl,fun h => fu6 (mark_of (by decide) h),fun h => fu7 (mark_of (by decide) h),fun h => fu8 (mark_of (by decide) h),fun h => fu9 (mark_of (by decide) h)⟩
      ·have eu5 := fu5 (dep_of 5 hru rfl (by kernel_rfl))
       replace eu5 := eu5.symm
       subst eu5
       refine wpOp_shut (by rfl) (fun K hK => ?_)
       simp only [Act.put,xL4,xL5,xL6]
       have z1 := (XO.below hbu).cell
       go_simp
       exact hK.out _ _ ⟨vu0,vu1,vu2,vu3,vu4,(.pointer (some ⟨go,k,none⟩)),(.int .i64 (x : Int)),vu7,vu8,vu9,by simp only [Act.put,xL4,xL5,xL6],hbu,fun h => fu0 (mark_of (by decide) h),fun h => fu1 (mark_of (by decide) h),fun h => fu2 (mark_of (by decide) h),fun h => fu3 (mark_of (by decide) h),fun h => fu4 (mark_of (by decide) h),fun _ => rfl,fun _ => rfl,fun h => fu7 (mark_of (by decide) h),fun h => fu8 (mark_of (by decide) h),fun h => fu9 (mark_of (by decide) h)⟩
      ·have eu2 := fu2 (dep_of 2 hru rfl (by kernel_rfl))
       have eu6 := fu6 (dep_of 6 hru rfl (by kernel_rfl))
       replace eu2 := eu2.symm
       subst eu2
       replace eu6 := eu6.symm
       subst eu6
       refine wpOp_shut (by rfl) (fun K hK => ?_)
       simp only [Act.put,xL4,xL5,xL6]
       go_simp
       exact hK.out _ _ ⟨vu0,vu1,(.slice (some ⟨b7,off7,none⟩) n co_),vu3,vu4,vu5,(.int .i64 (x : Int)),(.pointer (some ⟨b7,off7 + x,none⟩)),vu8,vu9,by simp only [Act.put,xL4,xL5,xL6],hbu,fun h => fu0 (mark_of (by decide) h),fun h => fu1 (mark_of (by decide) h),fun _ => rfl,fun h => fu3 (mark_of (by decide) h),fun h => fu4 (mark_of (by decide) h),fun h => fu5 (mark_of (by decide) h),fun _ => rfl,fun _ => rfl,fun h => fu8 (mark_of (by decide) h),fun h => fu9 (mark_of (by decide) h)⟩
      ·have eu7 := fu7 (dep_of 7 hru rfl (by kernel_rfl))
       replace eu7 := eu7.symm
       subst eu7
       refine wpOp_shut (by rfl) (fun K hK => ?_)
       simp only [Act.put,xL4,xL5,xL6]
       have z1 := (XN.below hbu).cell
       go_simp
       exact hK.out _ _ ⟨vu0,vu1,vu2,vu3,vu4,vu5,vu6,(.pointer (some ⟨b7,off7 + x,none⟩)),(.int .i64 (nx : Int)),vu9,by simp only [Act.put,xL4,xL5,xL6],hbu,fun h => fu0 (mark_of (by decide) h),fun h => fu1 (mark_of (by decide) h),fun h => fu2 (mark_of (by decide) h),fun h => fu3 (mark_of (by decide) h),fun h => fu4 (mark_of (by decide) h),fun h => fu5 (mark_of (by decide) h),fun h => fu6 (mark_of (by decide) h),fun _ => rfl,fun _ => rfl,fun h => fu9 (mark_of (by decide) h)⟩
      ·have eu8 := fu8 (dep_of 8 hru rfl (by kernel_rfl))
       replace eu8 := eu8.symm
       subst eu8
       refine wpOp_shut (by rfl) (fun K hK => ?_)
       simp only [Act.put,xL4,xL5,xL6]
       go_simp
       obtain ⟨wx,hWx,hSx,bu,VXu⟩ := V1.lay wn 3 (.int .i64 (nx : Int))
       rw [← hWx]
       have hbu2 := hbu.trans (bu.mono hbu.size)
       exact hK.out _ _ ⟨vu0,vu1,vu2,vu3,vu4,vu5,vu6,vu7,(.int .i64 (nx : Int)),_,by simp only [Act.put,xL4,xL5,xL6],hbu2,fun h => fu0 (mark_of (by decide) h),fun h => fu1 (mark_of (by decide) h),fun h => fu2 (mark_of (by decide) h),fun h => fu3 (mark_of (by decide) h),fun h => fu4 (mark_of (by decide) h),fun h => fu5 (mark_of (by decide) h),fun h => fu6 (mark_of (by decide) h),fun h => fu7 (mark_of (by decide) h),fun _ => rfl,fun _ => ⟨_,rfl,hbu.size,VXu⟩⟩
     rintro au Wu1 ⟨vu0,vu1,vu2,vu3,vu4,vu5,vu6,vu7,vu8,vu9,rfl,hbu,fu0,fu1,fu2,fu3,fu4,fu5,fu6,fu7,fu8,fu9⟩
     have eu0 := (fu0 rfl).symm
     subst eu0
     have eu1 := (fu1 rfl).symm
     subst eu1
     have eu2 := (fu2 rfl).symm
     subst eu2
     have eu3 := (fu3 rfl).symm
     subst eu3
     have eu4 := (fu4 rfl).symm
     subst eu4
     have eu5 := (fu5 rfl).symm
     subst eu5
     have eu6 := (fu6 rfl).symm
     subst eu6
     have eu7 := (fu7 rfl).symm
     subst eu7
     have eu8 := (fu8 rfl).symm
     subst eu8
     obtain ⟨RB9,rfl,hRB9,VB9⟩ := fu9 rfl
     clear fu0 fu1 fu2 fu3 fu4 fu5 fu6 fu7 fu8 fu9
     replace VV := VV.below hbu
     replace XO := XO.below hbu
     replace XN := XN.below hbu
     replace hO1 := hO1.below hbu
     replace BB := BB.xm hbu
     clear hbu
     simp only [Act.put,xL4,xL5,xL6]
     refine xR [10] (h := ?_)
     refine AllReadyH.cons (by rfl) (fun K hK => ?_) AllReadyH.nil
     have hO7 := int_len HLN.out hO1
     have hsz6 : w.heap.size + 1 ≤ Wu1.heap.size := by have := VV.lt; omega
     refine step_append_pure (Q' := fun _ => False) (by rfl) _ _ _ (by rfl) (w.heap.size + 1) 3 (.int .i64 0) 1 8 Tryz.underlying35 info_int (by rfl) (by omega) (.slice (some ⟨go,0,none⟩) len co) (by rfl) len (outs.map (fun x : Nat => Value.int .i64 (x : Int))) hO7 (fun _ _ _ _ _ h => h) ⟨RB9,0,none⟩ 1 (by rfl) [.int .i64 (nx : Int)] rfl (news_v1 VB9) (by simp [Value.oneCell']) (by simp) (by simp) (by omega) (by omega) hsz6 ?_
     intro gn cn w3 hW8 hg8 hat8 _ _
     have hB9 := below_grownB (Below.refl (w.heap.size + 1) _) hg8 hsz6 (fun g h => (hO1.both g h).1)
     have VV9 := VV.low11 hB9 (by omega)
     have BB9 : Below w.heap.size w w3 := below_grownB BB hg8 BB.size (fun g h => by have := (hO1.both g h).1; omega)
     have hO9 := int_more1 HLN.out hW8
     clear hW8 hg8 hat8 hO7 hO1 BB VV hB9 hsz6
     refine hK.out _ _ trivial (fun _ => ?_)
     clear hK K
     simp only [Act.put,xL4,xL5,xL6]
     refine xR [11] (h := ?_)
     refine AllReadyH.cons (by rfl) (fun K hK => ?_) AllReadyH.nil
     go_simp
     refine hK.out _ _ trivial (fun _ => ?_)
     clear hK K
     simp only [Act.put,xL4,xL5,xL6]
     refine wpAnyH_done (by kernel_rfl) ?_ _
     go_wp2
     go_roundw
     case rel => exact ⟨outs ++ [nx],k + 1,by go_num,hO9,HQ2,VV9,BB9⟩
     case measure => simp [intOf]; omega
   ·have HK2 : ks = [] := by rw [HKS.out]; rfl
    subst HK2
    go_wp2
    go_roundw
    case rel => exact ⟨outs,k + 1,by go_num,hO1,(by show QInv _ _ _ _ _ _; simpa using HQ2.out),VV,BB⟩
    case measure => simp [intOf]; omega
  ·obtain rfl : k = len := by omega
   have g1 : ¬ (k : Int) < (k : Int) := by omega
   go_wp2
   go_ret
   exact ⟨_,rfl,outs,hO1.le (by omega),by have := HQ.out; rw [HLN.out]; exact this,BB⟩





set_option maxRecDepth 20000 in
set_option maxHeartbeats 1000000 in
theorem number7_at (p : Bool) (s t : Value) (n m : Nat) (f g : Nat → Int) (w : World) (h : Raw w s n f) (k : Raw w t m g) :
  Calls Tryz.prog 22 #[.agg #[.bool p,s,t]] w fun e w' => FewOut p (min n 4) (min m 4) f g w e w' := by
 have hA : ∀ o o',Below w.heap.size w ((w.alloc o).alloc o') := fun o o' => ((Below.refl _ _).alloc (Nat.le_refl _) _).alloc (by simp) _
 obtain ⟨ao,c,rfl,hnil,hnc,hcm,hu,h4⟩ := h
 obtain ⟨bo,d,rfl,knil,knc,kcm,ku,k4⟩ := k
 unfold maxLen at hcm kcm
 by_cases hlt : 4 < n
 ·obtain ⟨b1,off1,rfl,hc⟩ := h4 (by omega)
  have hN : Nums .u64 w (.slice (some ⟨b1,off1,none⟩) 4 c) 4 f := ⟨_,_,rfl,by omega,by unfold LIM; omega,fun _ => ⟨_,_,rfl,hc.mono (by omega)⟩⟩
  have hi : (n : Int) > 4 := by omega
  rw [show min n 4 = 4 by omega]
  by_cases klt : 4 < m
  ·obtain ⟨b2,off2,rfl,kc⟩ := k4 (by omega)
   have kN : Nums .u64 w (.slice (some ⟨b2,off2,none⟩) 4 d) 4 g := ⟨_,_,rfl,by omega,by unfold LIM; omega,fun _ => ⟨_,_,rfl,kc.mono (by omega)⟩⟩
   have ki : (m : Int) > 4 := by omega
   rw [show min m 4 = 4 by omega]
   go_enter Tryz.func22,Tryz.ntmps22
   go_wp2
   refine bodyPost_ret (v := .agg #[.bool p,.slice (some ⟨b1,off1,none⟩) 4 c,.slice (some ⟨b2,off2,none⟩) 4 d]) (by simp [results,go_sem]) rfl ?_
   exact ⟨_,_,_,_,rfl,hN.below (hA _ _),fun i hi => hu i (by omega),kN.below (hA _ _),fun i hi => ku i (by omega),hA _ _⟩
  ·have kN : Nums .u64 w (.slice bo m d) m g := ⟨_,_,rfl,knc,by unfold LIM; omega,k4⟩
   have ki : ¬ (m : Int) > 4 := by omega
   rw [show min m 4 = m by omega]
   go_enter Tryz.func22,Tryz.ntmps22
   go_wp2
   refine bodyPost_ret (v := .agg #[.bool p,.slice (some ⟨b1,off1,none⟩) 4 c,.slice bo m d]) (by simp [results,go_sem]) rfl ?_
   exact ⟨_,_,_,_,rfl,hN.below (hA _ _),fun i hi => hu i (by omega),kN.below (hA _ _),fun i hi => ku i (by omega),hA _ _⟩
 ·have hN : Nums .u64 w (.slice ao n c) n f := ⟨_,_,rfl,hnc,by unfold LIM; omega,h4⟩
  have hi : ¬ (n : Int) > 4 := by omega
  rw [show min n 4 = n by omega]
  by_cases klt : 4 < m
  ·obtain ⟨b2,off2,rfl,kc⟩ := k4 (by omega)
   have kN : Nums .u64 w (.slice (some ⟨b2,off2,none⟩) 4 d) 4 g := ⟨_,_,rfl,by omega,by unfold LIM; omega,fun _ => ⟨_,_,rfl,kc.mono (by omega)⟩⟩
   have ki : (m : Int) > 4 := by omega
   rw [show min m 4 = 4 by omega]
   go_enter Tryz.func22,Tryz.ntmps22
   go_wp2
   refine bodyPost_ret (v := .agg #[.bool p,.slice ao n c,.slice (some ⟨b2,off2,none⟩) 4 d]) (by simp [results,go_sem]) rfl ?_
   exact ⟨_,_,_,_,rfl,hN.below (hA _ _),fun i hi => hu i (by omega),kN.below (hA _ _),fun i hi => ku i (by omega),hA _ _⟩
  ·have kN : Nums .u64 w (.slice bo m d) m g := ⟨_,_,rfl,knc,by unfold LIM; omega,k4⟩
   have ki : ¬ (m : Int) > 4 := by omega
   rw [show min m 4 = m by omega]
   go_enter Tryz.func22,Tryz.ntmps22
   go_wp2
   refine bodyPost_ret (v := .agg #[.bool p,.slice ao n c,.slice bo m d]) (by simp [results,go_sem]) rfl ?_
   exact ⟨_,_,_,_,rfl,hN.below (hA _ _),fun i hi => hu i (by omega),kN.below (hA _ _),fun i hi => ku i (by omega),hA _ _⟩

set_option maxRecDepth 100000 in
set_option maxHeartbeats 8000000 in
theorem few7_at (F : Int) (v : Value) (k : Nat) (N : Nat → Nat) (T : Nat → Nat → Nd) (w : World) (hv : MRaw w v k N T 4) :
    Calls Tryz.prog 6 #[.agg #[.int .i64 F,v]] w fun e w' => ∃ r,e = .returned (.agg #[.int .i64 F,r]) ∧ MOwn w.heap.size w' r (min k 6) (fun i => min (N i) 15) T 4 ∧ Below w.heap.size w w' := by
  obtain ⟨ao,c,rfl,hnc,hc63⟩ := hv.open
  have BB : Below w.heap.size w w := Below.refl _ _
  obtain ⟨Wb0,hW0,hS0,hL0,VM⟩ := V2.lay w 27 (.int .i64 F) (.slice ao k c)
  replace BB := BB.xm hL0
  clear hL0
  obtain ⟨Wb1,hW1,hS1,hL1,VR⟩ := V2.lay Wb0 27 (.int .i64 0) (.slice none 0 0)
  rw [hS0] at VR hS1
  replace VM := VM.below hL1
  replace BB := BB.xm hL1
  clear hL1
  go_enter Tryz.func6,Tryz.ntmps6
  obtain ⟨W2,hW2,hS2,hL2,VO⟩ := V2.lay Wb1 27 (.int .i64 F) (.slice none 0 0)
  obtain ⟨VM_0,VM_1,VM_2,VM_3⟩ := id VM
  rw [hW1,hW0] at VM_0 VM_1 VM_2 VM_3
  obtain ⟨VO_0,VO_1,VO_2,VO_3⟩ := id VO
  rw [hW2,hW1,hW0] at VO_0 VO_1 VO_2 VO_3
  go_wp2
  clear VM_0 VM_1 VM_2 VM_3 VO_0 VO_1 VO_2 VO_3
  rw [← hW0]
  rw [← hW1]
  rw [← hW2]
  have HS : Hid (Wb1.heap.size = w.heap.size + 1 + 1) := hS1
  have hR3 : w.heap.size + 1 < Wb1.heap.size := by omega
  rw [hS1] at VO
  clear hW0 hW1 hW2 hS0 hS1
  have VM0 := VM
  have VR0 := VR
  have BB0 : Hid (Below w.heap.size w Wb1) := BB
  clear VM VR BB
  go_loopw [4] (fun vi wr => ∃ (i : Nat) (tr : Value),i ≤ min k 6 ∧ vi = .int .i64 (i : Int) ∧ V2 wr (w.heap.size + 1 + 1) (.int .i64 F) tr ∧ MOwn (w.heap.size + 1 + 1 + 1) wr tr i (fun i => min (N i) 15) T 4 ∧ Below Wb1.heap.size Wb1 wr) (fun vi _ => min k 6 - (intOf vi).toNat)
  case atStart => exact ⟨0,_,by omega,rfl,VO,MOwn.nil _ _ _ _ _,hL2⟩
  case round =>
    clear VO hL2
    obtain ⟨i,tr,hi,rfl,VO,MO,BL⟩ := hrel
    obtain ⟨at3,ct3,rfl⟩ := MO.form
    obtain ⟨VM_0,VM_1,VM_2,VM_3⟩ := VM0.below BL
    by_cases hlt : i < min k 6
    · have hik : i < k := by omega
      have h6 : i < 6 := by omega
      have g1 : (i : Int) < (k : Int) := by omega
      have g2 : (i : Int) < 6 := by omega
      have g0 : (0 : Int) ≤ (i : Int) := by omega
      obtain ⟨bT,oT,cT,aT,dT,hvv,hcc,XT0,TR⟩ := hv.at hik
      cases hvv
      go_wp2
      clear VM_0 VM_1 VM_2 VM_3
      obtain ⟨wo,rfl⟩ : ∃ wo,wo = wr := ⟨_,rfl⟩
      have hwo : Wb1.heap.size ≤ wo.heap.size := BL.size
      have HNi : Hid (N i ≤ dT ∧ dT ≤ 9223372036854775807) := by obtain ⟨_,_,e9,l9,m9⟩ := TR.open; cases e9; exact ⟨l9,m9⟩
      have hNd := HNi.out.1
      obtain ⟨ni,hni⟩ : ∃ ni,N i = ni := ⟨_,rfl⟩
      have HNI : Hid (N i = ni) := hni
      rw [hni] at XT0 TR hNd
      clear hni
      go_loopw [5,6] (fun vt vq wr => ∃ q : Nat,q ≤ min ni 15 ∧ vq = .int .i64 (q : Int) ∧ NOwn wo.heap.size wr vt q (T i) 4 ∧ Below wo.heap.size wo wr) (fun _ vq _ => min ni 15 - (intOf vq).toNat)
      case atStart => exact ⟨0,by omega,rfl,NOwn.nil _ _ _ _,Below.refl _ _⟩
      case round =>
        obtain ⟨q,hq,rfl,TO,BI⟩ := hrel
        have BW := BL.trans (BI.mono BL.size)
        have BB := BB0.out.trans (BW.mono BB0.out.size)
        obtain ⟨VM_0,VM_1,VM_2,VM_3⟩ := VM0.below BW
        have XT : wr.cell? ⟨bT,oT + i,none⟩ = some (.slice aT ni dT) := (BB.cell (World.block_lt_of_cell? _ _ XT0)).trans XT0
        obtain ⟨avt,cvt,rfl⟩ := TO.form
        by_cases hlq : q < min ni 15
        · have hqN : q < ni := by omega
          have e1 : (q : Int) < (ni : Int) := by omega
          have e2 : (q : Int) < 15 := by omega
          have e0 : (0 : Int) ≤ (q : Int) := by omega
          have hq15 : q ≤ 15 := by omega
          obtain ⟨b,off,cc,p1,a1,n1,c1,b1,m1,d1,f1,g1_,p2,a2,n2,c2,b2,m2,d2,f2,g2_,p3,a3,n3,c3,b3,m3,d3,f3,g3_,hvv,hcc2,hc6,NN0,⟨u1,v1,E1⟩,⟨u2,v2,E2⟩,⟨u3,v3,E3_⟩,i1,i2,i3⟩ := TR.at hqN
          cases hvv
          have NN := NN0.low BB
          clear NN0
          have HE1 : Hid ((T i q).cut = mkRat (zof p1 (num f1 (min n1 4))) (num g1_ (min m1 4))) := E1
          have HE2 : Hid ((T i q).val = mkRat (zof p2 (num f2 (min n2 4))) (num g2_ (min m2 4))) := E2
          have HE3 : Hid ((T i q).cov = mkRat (zof p3 (num f3 (min n3 4))) (num g3_ (min m3 4))) := E3_
          clear E1 E2 E3_
          obtain ⟨lf,hlf⟩ : ∃ z,(T i q).leaf = z := ⟨_,rfl⟩
          obtain ⟨ft,hft⟩ : ∃ z,(T i q).feat = z := ⟨_,rfl⟩
          obtain ⟨ll,hll⟩ : ∃ z,(T i q).left = z := ⟨_,rfl⟩
          obtain ⟨rr,hrr⟩ : ∃ z,(T i q).right = z := ⟨_,rfl⟩
          obtain ⟨ms,hms⟩ : ∃ z,(T i q).miss = z := ⟨_,rfl⟩
          rw [hlf,hft,hll,hrr,hms] at NN
          have HI3 : Hid (I64 (T i q).feat ∧ I64 (T i q).left ∧ I64 (T i q).right) := ⟨i1,i2,i3⟩
          have HLE : Hid ((T i q).leaf = lf ∧ (T i q).feat = ft ∧ (T i q).left = ll ∧ (T i q).right = rr ∧ (T i q).miss = ms) := ⟨hlf,hft,hll,hrr,hms⟩
          clear hlf hft hll hrr hms i1 i2 i3
          obtain ⟨N_0,N_1,N_2,N_3,N_4,N_5,N_6,N_7,N_8,N_9,N_10,N_11,N_12,N_13⟩ := id NN
          have hRb : wo.heap.size ≤ wr.heap.size := BI.size
          have HRT : Hid (∀ g,(Value.slice avt q cvt).ownBlock = some g → g ≠ wr.heap.size) := fun g hg => Nat.ne_of_lt (TO.blocks g hg).2
          obtain ⟨W9,hW9,hS9,hL9,VN,FN⟩ := V14.lay wr 48 (.bool lf) (.int .i64 ft) (.bool p1) (.slice a1 n1 c1) (.slice b1 m1 d1) (.int .i64 ll) (.int .i64 rr) (.bool ms) (.bool p2) (.slice a2 n2 c2) (.slice b2 m2 d2) (.bool p3) (.slice a3 n3 c3) (.slice b3 m3 d3)
          replace TO := TO.later hL9
          replace BB := BB.xm hL9
          replace BI := BI.trans (hL9.mono BI.size)
          obtain ⟨V_0,V_1,V_2,V_3,V_4,V_5,V_6,V_7,V_8,V_9,V_10,V_11,V_12,V_13⟩ := id VN
          rw [hW9] at V_0 V_1 V_2 V_3 V_4 V_5 V_6 V_7 V_8 V_9 V_10 V_11 V_12 V_13
          go_wp2_with fail
          clear V_0 V_1 V_2 V_3 V_4 V_5 V_6 V_7 V_8 V_9 V_10 V_11 V_12 V_13 N_0 N_1 N_2 N_3 N_4 N_5 N_6 N_7 N_8 N_9 N_10 N_11 N_12 N_13 VM_0 VM_1 VM_2 VM_3 XT
          rw [← hW9]
          have hRw : w.heap.size ≤ wr.heap.size := by have := BB0.out.size; omega
          generalize wr.heap.size = R at *
          clear hW9 hS9 hL9 NN
          refine (number7_at _ _ _ _ _ _ _ _ (u1.below BB) (v1.below BB)).mono ?_
          rintro e wn1 ⟨ao1,co1,bo1,do1,rfl,hu1,uf1,hv1,vf1,bn1⟩
          have X1 : RatAt wn1 (.agg #[.bool p1,.slice ao1 (min n1 4) co1,.slice bo1 (min m1 4) do1]) (T i q).cut 4 := by rw [HE1.out]; exact RatAt.raw hu1 uf1 hv1 vf1 (Nat.min_le_right _ _) (Nat.min_le_right _ _)
          clear hu1 uf1 hv1 vf1 HE1
          replace FN := soft_below FN VN.lt bn1
          replace VN := VN.below bn1
          replace TO := TO.later bn1
          replace BB := BB.xm bn1
          replace BI := BI.trans (bn1.mono BI.size)
          generalize min n1 4 = k1 at *
          generalize min m1 4 = l1 at *
          clear bn1
          have KK := VN.keep2 (limb_bool _) (limb_slice _ _ _) (limb_slice _ _ _) (.bool p1) (.slice ao1 k1 co1) (.slice bo1 l1 do1)
          have FN_n : ∀ j,((((wn1).setCell ⟨R,2,none⟩ (.bool p1)).setCell ⟨R,3,none⟩ (.slice ao1 k1 co1)).setCell ⟨R,4,none⟩ (.slice bo1 l1 do1)).frozen? ⟨R,j,none⟩ = false := soft_set (soft_set (soft_set FN _ _) _ _) _ _
          have VN_n := VN.set2 (.bool p1) (.slice ao1 k1 co1) (.slice bo1 l1 do1)
          have X1_n := X1.keepL KK
          have BB_n : Below w.heap.size w ((((wn1).setCell ⟨R,2,none⟩ (.bool p1)).setCell ⟨R,3,none⟩ (.slice ao1 k1 co1)).setCell ⟨R,4,none⟩ (.slice bo1 l1 do1)) := ((BB.setCell hRw _).setCell hRw _).setCell hRw _
          have BI_n : Below wo.heap.size wo ((((wn1).setCell ⟨R,2,none⟩ (.bool p1)).setCell ⟨R,3,none⟩ (.slice ao1 k1 co1)).setCell ⟨R,4,none⟩ (.slice bo1 l1 do1)) := ((BI.setCell hRb _).setCell hRb _).setCell hRb _
          have TO_n := TO.apart2 HRT.out VN.c2 VN.c3 VN.c4 (limb_bool _) (limb_slice _ _ _) (limb_slice _ _ _) (.bool p1) (.slice ao1 k1 co1) (.slice bo1 l1 do1)
          obtain ⟨V_0,V_1,V_2,V_3,V_4,V_5,V_6,V_7,V_8,V_9,V_10,V_11,V_12,V_13⟩ := id VN
          have f0_ := FN 2
          have f1_ := FN 3
          have f2_ := FN 4
          clear FN
          obtain ⟨Z_0,Z_1,Z_2,Z_3,Z_4,Z_5,Z_6,Z_7,Z_8,Z_9,Z_10,Z_11,Z_12,Z_13⟩ := id VN_n
          go_wp2_with fail
          clear KK f0_ f1_ f2_ VN TO BB BI X1 V_0 V_1 V_2 V_3 V_4 V_5 V_6 V_7 V_8 V_9 V_10 V_11 V_12 V_13 Z_0 Z_1 Z_2 Z_3 Z_4 Z_5 Z_6 Z_7 Z_8 Z_9 Z_10 Z_11 Z_12 Z_13
          generalize (((wn1).setCell ⟨R,2,none⟩ (.bool p1)).setCell ⟨R,3,none⟩ (.slice ao1 k1 co1)).setCell ⟨R,4,none⟩ (.slice bo1 l1 do1) = ws1 at *
          have FN := FN_n
          have VN := VN_n
          have BB := BB_n
          have BI := BI_n
          have TO := TO_n
          have X1 := X1_n
          clear FN_n VN_n BB_n BI_n TO_n X1_n
          refine (number7_at _ _ _ _ _ _ _ _ (u2.below BB) (v2.below BB)).mono ?_
          rintro e wn2 ⟨ao2,co2,bo2,do2,rfl,hu2,uf2,hv2,vf2,bn2⟩
          have X2 : RatAt wn2 (.agg #[.bool p2,.slice ao2 (min n2 4) co2,.slice bo2 (min m2 4) do2]) (T i q).val 4 := by rw [HE2.out]; exact RatAt.raw hu2 uf2 hv2 vf2 (Nat.min_le_right _ _) (Nat.min_le_right _ _)
          clear hu2 uf2 hv2 vf2 HE2
          replace FN := soft_below FN VN.lt bn2
          replace VN := VN.below bn2
          replace TO := TO.later bn2
          replace BB := BB.xm bn2
          replace BI := BI.trans (bn2.mono BI.size)
          generalize min n2 4 = k2 at *
          generalize min m2 4 = l2 at *
          replace X1 := X1.below bn2
          clear bn2
          have KK := VN.keep8 (limb_bool _) (limb_slice _ _ _) (limb_slice _ _ _) (.bool p2) (.slice ao2 k2 co2) (.slice bo2 l2 do2)
          have FN_n : ∀ j,((((wn2).setCell ⟨R,8,none⟩ (.bool p2)).setCell ⟨R,9,none⟩ (.slice ao2 k2 co2)).setCell ⟨R,10,none⟩ (.slice bo2 l2 do2)).frozen? ⟨R,j,none⟩ = false := soft_set (soft_set (soft_set FN _ _) _ _) _ _
          have VN_n := VN.set8 (.bool p2) (.slice ao2 k2 co2) (.slice bo2 l2 do2)
          have X1_n := X1.keepL KK
          have X2_n := X2.keepL KK
          have BB_n : Below w.heap.size w ((((wn2).setCell ⟨R,8,none⟩ (.bool p2)).setCell ⟨R,9,none⟩ (.slice ao2 k2 co2)).setCell ⟨R,10,none⟩ (.slice bo2 l2 do2)) := ((BB.setCell hRw _).setCell hRw _).setCell hRw _
          have BI_n : Below wo.heap.size wo ((((wn2).setCell ⟨R,8,none⟩ (.bool p2)).setCell ⟨R,9,none⟩ (.slice ao2 k2 co2)).setCell ⟨R,10,none⟩ (.slice bo2 l2 do2)) := ((BI.setCell hRb _).setCell hRb _).setCell hRb _
          have TO_n := TO.apart8 HRT.out VN.c8 VN.c9 VN.c10 (limb_bool _) (limb_slice _ _ _) (limb_slice _ _ _) (.bool p2) (.slice ao2 k2 co2) (.slice bo2 l2 do2)
          obtain ⟨V_0,V_1,V_2,V_3,V_4,V_5,V_6,V_7,V_8,V_9,V_10,V_11,V_12,V_13⟩ := id VN
          have f0_ := FN 8
          have f1_ := FN 9
          have f2_ := FN 10
          clear FN
          obtain ⟨Z_0,Z_1,Z_2,Z_3,Z_4,Z_5,Z_6,Z_7,Z_8,Z_9,Z_10,Z_11,Z_12,Z_13⟩ := id VN_n
          go_wp2_with fail
          clear KK f0_ f1_ f2_ VN TO BB BI X1 X2 V_0 V_1 V_2 V_3 V_4 V_5 V_6 V_7 V_8 V_9 V_10 V_11 V_12 V_13 Z_0 Z_1 Z_2 Z_3 Z_4 Z_5 Z_6 Z_7 Z_8 Z_9 Z_10 Z_11 Z_12 Z_13
          generalize (((wn2).setCell ⟨R,8,none⟩ (.bool p2)).setCell ⟨R,9,none⟩ (.slice ao2 k2 co2)).setCell ⟨R,10,none⟩ (.slice bo2 l2 do2) = ws2 at *
          have FN := FN_n
          have VN := VN_n
          have BB := BB_n
          have BI := BI_n
          have TO := TO_n
          have X1 := X1_n
          have X2 := X2_n
          clear FN_n VN_n BB_n BI_n TO_n X1_n X2_n
          refine (number7_at _ _ _ _ _ _ _ _ (u3.below BB) (v3.below BB)).mono ?_
          rintro e wn3 ⟨ao3,co3,bo3,do3,rfl,hu3,uf3,hv3,vf3,bn3⟩
          have X3 : RatAt wn3 (.agg #[.bool p3,.slice ao3 (min n3 4) co3,.slice bo3 (min m3 4) do3]) (T i q).cov 4 := by rw [HE3.out]; exact RatAt.raw hu3 uf3 hv3 vf3 (Nat.min_le_right _ _) (Nat.min_le_right _ _)
          clear hu3 uf3 hv3 vf3 HE3
          replace FN := soft_below FN VN.lt bn3
          replace VN := VN.below bn3
          replace TO := TO.later bn3
          replace BB := BB.xm bn3
          replace BI := BI.trans (bn3.mono BI.size)
          generalize min n3 4 = k3 at *
          generalize min m3 4 = l3 at *
          replace X1 := X1.below bn3
          replace X2 := X2.below bn3
          clear bn3
          have KK := VN.keep11 (limb_bool _) (limb_slice _ _ _) (limb_slice _ _ _) (.bool p3) (.slice ao3 k3 co3) (.slice bo3 l3 do3)
          have FN_n : ∀ j,((((wn3).setCell ⟨R,11,none⟩ (.bool p3)).setCell ⟨R,12,none⟩ (.slice ao3 k3 co3)).setCell ⟨R,13,none⟩ (.slice bo3 l3 do3)).frozen? ⟨R,j,none⟩ = false := soft_set (soft_set (soft_set FN _ _) _ _) _ _
          have VN_n := VN.set11 (.bool p3) (.slice ao3 k3 co3) (.slice bo3 l3 do3)
          have X1_n := X1.keepL KK
          have X2_n := X2.keepL KK
          have X3_n := X3.keepL KK
          have BB_n : Below w.heap.size w ((((wn3).setCell ⟨R,11,none⟩ (.bool p3)).setCell ⟨R,12,none⟩ (.slice ao3 k3 co3)).setCell ⟨R,13,none⟩ (.slice bo3 l3 do3)) := ((BB.setCell hRw _).setCell hRw _).setCell hRw _
          have BI_n : Below wo.heap.size wo ((((wn3).setCell ⟨R,11,none⟩ (.bool p3)).setCell ⟨R,12,none⟩ (.slice ao3 k3 co3)).setCell ⟨R,13,none⟩ (.slice bo3 l3 do3)) := ((BI.setCell hRb _).setCell hRb _).setCell hRb _
          have TO_n := TO.apart11 HRT.out VN.c11 VN.c12 VN.c13 (limb_bool _) (limb_slice _ _ _) (limb_slice _ _ _) (.bool p3) (.slice ao3 k3 co3) (.slice bo3 l3 do3)
          obtain ⟨V_0,V_1,V_2,V_3,V_4,V_5,V_6,V_7,V_8,V_9,V_10,V_11,V_12,V_13⟩ := id VN
          have f0_ := FN 11
          have f1_ := FN 12
          have f2_ := FN 13
          clear FN
          obtain ⟨Z_0,Z_1,Z_2,Z_3,Z_4,Z_5,Z_6,Z_7,Z_8,Z_9,Z_10,Z_11,Z_12,Z_13⟩ := id VN_n
          have hA : Below ((((wn3).setCell ⟨R,11,none⟩ (.bool p3)).setCell ⟨R,12,none⟩ (.slice ao3 k3 co3)).setCell ⟨R,13,none⟩ (.slice bo3 l3 do3)).heap.size ((((wn3).setCell ⟨R,11,none⟩ (.bool p3)).setCell ⟨R,12,none⟩ (.slice ao3 k3 co3)).setCell ⟨R,13,none⟩ (.slice bo3 l3 do3)) (((((wn3).setCell ⟨R,11,none⟩ (.bool p3)).setCell ⟨R,12,none⟩ (.slice ao3 k3 co3)).setCell ⟨R,13,none⟩ (.slice bo3 l3 do3)).alloc (.cells #[.bool lf,.int .i64 ft,.bool p1,.slice ao1 k1 co1,.slice bo1 l1 do1,.int .i64 ll,.int .i64 rr,.bool ms,.bool p2,.slice ao2 k2 co2,.slice bo2 l2 do2,.bool p3,.slice ao3 k3 co3,.slice bo3 l3 do3] 48)) := (Below.refl _ _).alloc (Nat.le_refl _) _
          have TO2 := TO_n.later hA
          have BI2 := BI_n.trans (hA.mono BI_n.size)
          have Y1 := X1_n.below hA
          have Y2 := X2_n.below hA
          have Y3 := X3_n.below hA
          obtain ⟨cs,hcl,hco,hcp,hcn⟩ := TO2.parts
          have hsz2 := BI2.size
          have hbk := TO2.blocks
          have HND : Hid (NodeAt (((((wn3).setCell ⟨R,11,none⟩ (.bool p3)).setCell ⟨R,12,none⟩ (.slice ao3 k3 co3)).setCell ⟨R,13,none⟩ (.slice bo3 l3 do3)).alloc (.cells #[.bool lf,.int .i64 ft,.bool p1,.slice ao1 k1 co1,.slice bo1 l1 do1,.int .i64 ll,.int .i64 rr,.bool ms,.bool p2,.slice ao2 k2 co2,.slice bo2 l2 do2,.bool p3,.slice ao3 k3 co3,.slice bo3 l3 do3] 48)) (fun j => [.bool lf,.int .i64 ft,.bool p1,.slice ao1 k1 co1,.slice bo1 l1 do1,.int .i64 ll,.int .i64 rr,.bool ms,.bool p2,.slice ao2 k2 co2,.slice bo2 l2 do2,.bool p3,.slice ao3 k3 co3,.slice bo3 l3 do3].getD j undef) (T i q) 4) := by
            obtain ⟨z1,z2,z3,z4,z5⟩ := HLE.out
            obtain ⟨y1,y2,y3⟩ := HI3.out
            exact ⟨by rw [z1]; rfl,by rw [z2]; rfl,⟨_,_,_,_,_,_,_,rfl,rfl,rfl,Y1⟩,by rw [z3]; rfl,by rw [z4]; rfl,by rw [z5]; rfl,⟨_,_,_,_,_,_,_,rfl,rfl,rfl,Y2⟩,⟨_,_,_,_,_,_,_,rfl,rfl,rfl,Y3⟩,y1,y2,y3⟩
          have HCN : Hid (∀ j,j < q → NodeAt (((((wn3).setCell ⟨R,11,none⟩ (.bool p3)).setCell ⟨R,12,none⟩ (.slice ao3 k3 co3)).setCell ⟨R,13,none⟩ (.slice bo3 l3 do3)).alloc (.cells #[.bool lf,.int .i64 ft,.bool p1,.slice ao1 k1 co1,.slice bo1 l1 do1,.int .i64 ll,.int .i64 rr,.bool ms,.bool p2,.slice ao2 k2 co2,.slice bo2 l2 do2,.bool p3,.slice ao3 k3 co3,.slice bo3 l3 do3] 48)) (fun x => cs.getD (j * 14 + x) undef) (T i j) 4) := hcn
          have HCL : Hid (cs.length = q * 14) := hcl
          have hws : ((((wn3).setCell ⟨R,11,none⟩ (.bool p3)).setCell ⟨R,12,none⟩ (.slice ao3 k3 co3)).setCell ⟨R,13,none⟩ (.slice bo3 l3 do3)).heap.size = wn3.heap.size := by simp
          have hnb := news_block (heap_alloc_new ((((wn3).setCell ⟨R,11,none⟩ (.bool p3)).setCell ⟨R,12,none⟩ (.slice ao3 k3 co3)).setCell ⟨R,13,none⟩ (.slice bo3 l3 do3)) (.cells #[.bool lf,.int .i64 ft,.bool p1,.slice ao1 k1 co1,.slice bo1 l1 do1,.int .i64 ll,.int .i64 rr,.bool ms,.bool p2,.slice ao2 k2 co2,.slice bo2 l2 do2,.bool p3,.slice ao3 k3 co3,.slice bo3 l3 do3] 48))
          rw [hws] at hnb
          clear hws
          clear hcn hcl TO2 Y1 Y2 Y3 TO_n TO BB BI X1 X2 X3 X1_n X2_n X3_n HLE HI3 KK VN
          go_wp2_with (first
            | (at_builtin
               refine wpList_append_pure (Q' := IsLimb) rfl _ _ _ rfl wo.heap.size 48 (.agg #[.bool false,.int .i64 0,.bool false,.slice none 0 0,.slice none 0 0,.int .i64 0,.int .i64 0,.bool false,.bool false,.slice none 0 0,.slice none 0 0,.bool false,.slice none 0 0,.slice none 0 0]) 14 208 Tryz.underlying22 info_node rfl (by omega) (.slice avt q cvt) rfl q cs hco hcp ⟨wn3.heap.size,0,none⟩ 1 rfl [.bool lf,.int .i64 ft,.bool p1,.slice ao1 k1 co1,.slice bo1 l1 do1,.int .i64 ll,.int .i64 rr,.bool ms,.bool p2,.slice ao2 k2 co2,.slice bo2 l2 do2,.bool p3,.slice ao3 k3 co3,.slice bo3 l3 do3] rfl ?g14 ?g15 ?g16 ?g17 (by omega) (by omega) hsz2 ?_
               case g14 => exact hnb
               case g15 => simp [Value.oneCell']
               case g16 => simp [limb_bool,limb_slice,limb_int]
               case g17 => simp [Value.cells,limb_bool,limb_slice,limb_int]
               intro gN cN w5 ho5 hg5 _ hp5 hk5
               have NO5 : NOwn wo.heap.size w5 (.slice (some ⟨gN,0,none⟩) (q + 1) cN) (q + 1) (T i) 4 := NOwn.more (v := .slice none 0 0) ho5 HCL.out (fun g hg => by cases hg; exact hp5) hk5 HCN.out HND.out
               have BI5 : Below wo.heap.size wo w5 := below_grownB BI2 hg5 hsz2 (fun g hg => (hbk g hg).1)
               clear ho5 hg5 hp5 hk5 hco hcp BI2 hbk hA HCN HND HCL))
          go_roundw
          case rel => exact ⟨q + 1,by omega,by go_num,NO5,BI5⟩
          case measure => simp [intOf]; omega
        · have hqe : q = min ni 15 := by omega
          have HQ : Hid (q = min (N i) 15) := by rw [HNI.out]; exact hqe
          have MO2 : MOwn (w.heap.size + 1 + 1 + 1) wr (.slice at3 i ct3) i (fun i => min (N i) 15) T 4 := MO.later BI
          have TO2 : NOwn (w.heap.size + 1 + 1 + 1) wr (.slice avt q cvt) q (T i) 4 := TO.le (by have := VO.lt; omega)
          have VO2 := VO.below BI
          clear BI TO MO VO BB
          have HSZ : Hid (Wb1.heap.size = w.heap.size + 1 + 1) := HS
          have hsz1 : w.heap.size + 1 + 1 + 1 ≤ wr.heap.size := by have := BW.size; have := VO2.lt; omega
          have hA : Below wr.heap.size wr (wr.alloc (.cells #[.slice avt q cvt] 22)) := (Below.refl _ _).alloc (Nat.le_refl _) _
          replace MO2 := MO2.later hA
          replace TO2 := TO2.later hA
          have VO3 := VO2.below hA
          have BW2 := BW.trans (hA.mono BW.size)
          obtain ⟨us,huo,hup⟩ := MO2.parts
          have hbk := MO2.blocks
          have hsz2 : w.heap.size + 1 + 1 + 1 ≤ (wr.alloc (.cells #[.slice avt q cvt] 22)).heap.size := Nat.le_trans hsz1 hA.size
          obtain ⟨VO_0,VO_1,VO_2,VO_3⟩ := id VO2
          have hqm : ¬ ((q : Int) < (ni : Int) ∧ (q : Int) < 15) := by omega
          have hbl : w.heap.size + 1 + 1 < wr.heap.size := by omega
          clear hqe hq hlq
          by_cases hqn : q < ni
          · have c1 : (q : Int) < (ni : Int) := by omega
            have c2 : ¬ (q : Int) < 15 := by omega
            go_wp2_with (first
              | (at_builtin
                 refine wpList_append_pure (Q' := IsLimb) rfl _ _ _ rfl (w.heap.size + 1 + 1 + 1) 22 (.slice none 0 0) 1 24 Tryz.underlying25 info_tree rfl (by omega) (.slice at3 i ct3) rfl i us huo hup ⟨wr.heap.size,0,none⟩ 1 rfl [.slice avt q cvt] rfl ?g14 ?g15 ?g16 ?g17 (by omega) (by omega) hsz2 ?_
                 case g14 => exact news_block (heap_alloc_new _ _)
                 case g15 => simp [Value.oneCell']
                 case g16 => simp [limb_slice]
                 case g17 => simp [Value.cells,limb_slice]
                 intro gN cN w5 ho5 hg5 _ hp5 hk5
                 have MO5 : MOwn (w.heap.size + 1 + 1 + 1) w5 (.slice (some ⟨gN,0,none⟩) (i + 1) cN) (i + 1) (fun i => min (N i) 15) T 4 := MO2.more1 huo (by rw [← HQ.out]; exact TO2) ho5 hg5 (fun g hg => by cases hg; exact hp5) hk5
                 have hlow : Below (w.heap.size + 1 + 1 + 1) (wr.alloc (.cells #[.slice avt q cvt] 22)) w5 := below_grownB (Below.refl _ _) hg5 hsz2 (fun g hg => (hbk g hg).1)
                 have VO5 : V2 w5 (w.heap.size + 1 + 1) (.int .i64 F) (.slice at3 i ct3) := ⟨(hlow.cell (p := ⟨_,0,none⟩) (by show w.heap.size + 1 + 1 < _; omega)).trans VO3.1,(hlow.cell (p := ⟨_,1,none⟩) (by show w.heap.size + 1 + 1 < _; omega)).trans VO3.2.1,(hlow.frozen (p := ⟨_,0,none⟩) (by show w.heap.size + 1 + 1 < _; omega)).trans VO3.2.2.1,(hlow.frozen (p := ⟨_,1,none⟩) (by show w.heap.size + 1 + 1 < _; omega)).trans VO3.2.2.2⟩
                 have BW5 : Below Wb1.heap.size Wb1 w5 := BW2.trans (hlow.mono (by have := HSZ.out; omega))
                 obtain ⟨U_0,U_1,U_2,U_3⟩ := id VO5
                 have K5 : KeepQ IsLimb w5 (w5.setCell ⟨w.heap.size + 1 + 1,1,none⟩ (.slice (some ⟨gN,0,none⟩) (i + 1) cN)) := keepL_set U_1 (limb_slice _ _ _) _
                 have MO6 := MO5.set (a := ⟨w.heap.size + 1 + 1,1,none⟩) (by show w.heap.size + 1 + 1 < _; omega) _ K5
                 have VO6 : V2 (w5.setCell ⟨w.heap.size + 1 + 1,1,none⟩ (.slice (some ⟨gN,0,none⟩) (i + 1) cN)) (w.heap.size + 1 + 1) (.int .i64 F) (.slice (some ⟨gN,0,none⟩) (i + 1) cN) := ⟨cell_set_by U_0 (by omega),cell_set_at U_1,by simp [U_2],by simp [U_3]⟩
                 have BW6 := BW5.setCell (p := ⟨w.heap.size + 1 + 1,1,none⟩) (by show Wb1.heap.size ≤ w.heap.size + 1 + 1; have := HSZ.out; omega) (.slice (some ⟨gN,0,none⟩) (i + 1) cN)
                 clear ho5 hg5 hp5 hk5 huo hup hbk hlow hA MO5 MO2 TO2 K5 VO5 VO3 BW5 BW2))
            go_roundw
            case rel => exact ⟨i + 1,_,by omega,by go_num,VO6,MO6,BW6⟩
            case measure => simp [intOf]; omega
          · have c1 : ¬ (q : Int) < (ni : Int) := by omega
            have c1b : decide ((q : Int) < (ni : Int)) = false := decide_eq_false c1
            go_wp2_with (first
              | (at_builtin
                 refine wpList_append_pure (Q' := IsLimb) rfl _ _ _ rfl (w.heap.size + 1 + 1 + 1) 22 (.slice none 0 0) 1 24 Tryz.underlying25 info_tree rfl (by omega) (.slice at3 i ct3) rfl i us huo hup ⟨wr.heap.size,0,none⟩ 1 rfl [.slice avt q cvt] rfl ?g14 ?g15 ?g16 ?g17 (by omega) (by omega) hsz2 ?_
                 case g14 => exact news_block (heap_alloc_new _ _)
                 case g15 => simp [Value.oneCell']
                 case g16 => simp [limb_slice]
                 case g17 => simp [Value.cells,limb_slice]
                 intro gN cN w5 ho5 hg5 _ hp5 hk5
                 have MO5 : MOwn (w.heap.size + 1 + 1 + 1) w5 (.slice (some ⟨gN,0,none⟩) (i + 1) cN) (i + 1) (fun i => min (N i) 15) T 4 := MO2.more1 huo (by rw [← HQ.out]; exact TO2) ho5 hg5 (fun g hg => by cases hg; exact hp5) hk5
                 have hlow : Below (w.heap.size + 1 + 1 + 1) (wr.alloc (.cells #[.slice avt q cvt] 22)) w5 := below_grownB (Below.refl _ _) hg5 hsz2 (fun g hg => (hbk g hg).1)
                 have VO5 : V2 w5 (w.heap.size + 1 + 1) (.int .i64 F) (.slice at3 i ct3) := ⟨(hlow.cell (p := ⟨_,0,none⟩) (by show w.heap.size + 1 + 1 < _; omega)).trans VO3.1,(hlow.cell (p := ⟨_,1,none⟩) (by show w.heap.size + 1 + 1 < _; omega)).trans VO3.2.1,(hlow.frozen (p := ⟨_,0,none⟩) (by show w.heap.size + 1 + 1 < _; omega)).trans VO3.2.2.1,(hlow.frozen (p := ⟨_,1,none⟩) (by show w.heap.size + 1 + 1 < _; omega)).trans VO3.2.2.2⟩
                 have BW5 : Below Wb1.heap.size Wb1 w5 := BW2.trans (hlow.mono (by have := HSZ.out; omega))
                 obtain ⟨U_0,U_1,U_2,U_3⟩ := id VO5
                 have K5 : KeepQ IsLimb w5 (w5.setCell ⟨w.heap.size + 1 + 1,1,none⟩ (.slice (some ⟨gN,0,none⟩) (i + 1) cN)) := keepL_set U_1 (limb_slice _ _ _) _
                 have MO6 := MO5.set (a := ⟨w.heap.size + 1 + 1,1,none⟩) (by show w.heap.size + 1 + 1 < _; omega) _ K5
                 have VO6 : V2 (w5.setCell ⟨w.heap.size + 1 + 1,1,none⟩ (.slice (some ⟨gN,0,none⟩) (i + 1) cN)) (w.heap.size + 1 + 1) (.int .i64 F) (.slice (some ⟨gN,0,none⟩) (i + 1) cN) := ⟨cell_set_by U_0 (by omega),cell_set_at U_1,by simp [U_2],by simp [U_3]⟩
                 have BW6 := BW5.setCell (p := ⟨w.heap.size + 1 + 1,1,none⟩) (by show Wb1.heap.size ≤ w.heap.size + 1 + 1; have := HSZ.out; omega) (.slice (some ⟨gN,0,none⟩) (i + 1) cN)
                 clear ho5 hg5 hp5 hk5 huo hup hbk hlow hA MO5 MO2 TO2 K5 VO5 VO3 BW5 BW2))
            go_roundw
            case rel => exact ⟨i + 1,_,by omega,by go_num,VO6,MO6,BW6⟩
            case measure => simp [intOf]; omega
    · have hik : i = min k 6 := by omega
      have VR := VR0.below BL
      have BB := BB0.out.trans (BL.mono BB0.out.size)
      obtain ⟨VO_0,VO_1,VO_2,VO_3⟩ := id VO
      obtain ⟨q1,q2,q3,q4⟩ := id VR
      have HIK : Hid (i = min k 6) := hik
      clear hik
      have K1 : KeepQ IsLimb wr (wr.setCell ⟨w.heap.size + 1,0,none⟩ (.int .i64 F)) := keepL_set q1 (limb_int 0) _
      have K2 := keepL_set (cell_set_by (u := .int .i64 F) (j := 0) q2 (by omega)) (limb_slice _ _ _) (.slice at3 i ct3)
      have MO2 := (MO.set (a := ⟨w.heap.size + 1,0,none⟩) (by show w.heap.size + 1 < _; omega) _ K1).set (a := ⟨w.heap.size + 1,1,none⟩) (by show w.heap.size + 1 < _; omega) _ K2
      have HMR : Hid (MOwn w.heap.size _ (.slice at3 i ct3) i (fun i => min (N i) 15) T 4) := MO2.le (by omega)
      have BB2 := (BB.setCell (p := ⟨w.heap.size + 1,0,none⟩) (by show w.heap.size ≤ w.heap.size + 1; omega) (.int .i64 F)).setCell (p := ⟨w.heap.size + 1,1,none⟩) (by show w.heap.size ≤ w.heap.size + 1; omega) (.slice at3 i ct3)
      clear MO2 K1 K2 MO
      by_cases hk6 : i < k
      · have g1 : (i : Int) < (k : Int) := by omega
        have g2 : ¬ (i : Int) < 6 := by have := HIK.out; omega
        go_wp2
        (try simp only [Exit.inBlock,Exit.then])
        refine bodyPost_ret (v := .agg #[.int .i64 F,.slice at3 i ct3]) (by simp [results,go_sem,q1,q2]) rfl ?_
        have h9 := HMR.out
        have h8 := HIK.out
        exact ⟨_,rfl,by rw [← h8]; exact h9,BB2⟩
      · have g1 : ¬ (i : Int) < (k : Int) := by omega
        have g1b : decide ((i : Int) < (k : Int)) = false := decide_eq_false g1
        go_wp2
        (try simp only [Exit.inBlock,Exit.then])
        refine bodyPost_ret (v := .agg #[.int .i64 F,.slice at3 i ct3]) (by simp [results,go_sem,q1,q2]) rfl ?_
        have h9 := HMR.out
        have h8 := HIK.out
        exact ⟨_,rfl,by rw [← h8]; exact h9,BB2⟩

set_option maxRecDepth 20000 in
set_option maxHeartbeats 1000000 in
theorem number9_at (p : Bool) (s t : Value) (n m : Nat) (f g : Nat → Int) (w : World) (h : Raw w s n f) (k : Raw w t m g) :
  Calls Tryz.prog 21 #[.agg #[.bool p,s,t]] w fun e w' => FewOut p (min n 3) (min m 3) f g w e w' := by
 have hA : ∀ o o',Below w.heap.size w ((w.alloc o).alloc o') := fun o o' => ((Below.refl _ _).alloc (Nat.le_refl _) _).alloc (by simp) _
 obtain ⟨ao,c,rfl,hnil,hnc,hcm,hu,h4⟩ := h
 obtain ⟨bo,d,rfl,knil,knc,kcm,ku,k4⟩ := k
 unfold maxLen at hcm kcm
 by_cases hlt : 3 < n
 ·obtain ⟨b1,off1,rfl,hc⟩ := h4 (by omega)
  have hN : Nums .u64 w (.slice (some ⟨b1,off1,none⟩) 3 c) 3 f := ⟨_,_,rfl,by omega,by unfold LIM; omega,fun _ => ⟨_,_,rfl,hc.mono (by omega)⟩⟩
  have hi : (n : Int) > 3 := by omega
  rw [show min n 3 = 3 by omega]
  by_cases klt : 3 < m
  ·obtain ⟨b2,off2,rfl,kc⟩ := k4 (by omega)
   have kN : Nums .u64 w (.slice (some ⟨b2,off2,none⟩) 3 d) 3 g := ⟨_,_,rfl,by omega,by unfold LIM; omega,fun _ => ⟨_,_,rfl,kc.mono (by omega)⟩⟩
   have ki : (m : Int) > 3 := by omega
   rw [show min m 3 = 3 by omega]
   go_enter Tryz.func21,Tryz.ntmps21
   go_wp2
   refine bodyPost_ret (v := .agg #[.bool p,.slice (some ⟨b1,off1,none⟩) 3 c,.slice (some ⟨b2,off2,none⟩) 3 d]) (by simp [results,go_sem]) rfl ?_
   exact ⟨_,_,_,_,rfl,hN.below (hA _ _),fun i hi => hu i (by omega),kN.below (hA _ _),fun i hi => ku i (by omega),hA _ _⟩
  ·have kN : Nums .u64 w (.slice bo m d) m g := ⟨_,_,rfl,knc,by unfold LIM; omega,k4⟩
   have ki : ¬ (m : Int) > 3 := by omega
   rw [show min m 3 = m by omega]
   go_enter Tryz.func21,Tryz.ntmps21
   go_wp2
   refine bodyPost_ret (v := .agg #[.bool p,.slice (some ⟨b1,off1,none⟩) 3 c,.slice bo m d]) (by simp [results,go_sem]) rfl ?_
   exact ⟨_,_,_,_,rfl,hN.below (hA _ _),fun i hi => hu i (by omega),kN.below (hA _ _),fun i hi => ku i (by omega),hA _ _⟩
 ·have hN : Nums .u64 w (.slice ao n c) n f := ⟨_,_,rfl,hnc,by unfold LIM; omega,h4⟩
  have hi : ¬ (n : Int) > 3 := by omega
  rw [show min n 3 = n by omega]
  by_cases klt : 3 < m
  ·obtain ⟨b2,off2,rfl,kc⟩ := k4 (by omega)
   have kN : Nums .u64 w (.slice (some ⟨b2,off2,none⟩) 3 d) 3 g := ⟨_,_,rfl,by omega,by unfold LIM; omega,fun _ => ⟨_,_,rfl,kc.mono (by omega)⟩⟩
   have ki : (m : Int) > 3 := by omega
   rw [show min m 3 = 3 by omega]
   go_enter Tryz.func21,Tryz.ntmps21
   go_wp2
   refine bodyPost_ret (v := .agg #[.bool p,.slice ao n c,.slice (some ⟨b2,off2,none⟩) 3 d]) (by simp [results,go_sem]) rfl ?_
   exact ⟨_,_,_,_,rfl,hN.below (hA _ _),fun i hi => hu i (by omega),kN.below (hA _ _),fun i hi => ku i (by omega),hA _ _⟩
  ·have kN : Nums .u64 w (.slice bo m d) m g := ⟨_,_,rfl,knc,by unfold LIM; omega,k4⟩
   have ki : ¬ (m : Int) > 3 := by omega
   rw [show min m 3 = m by omega]
   go_enter Tryz.func21,Tryz.ntmps21
   go_wp2
   refine bodyPost_ret (v := .agg #[.bool p,.slice ao n c,.slice bo m d]) (by simp [results,go_sem]) rfl ?_
   exact ⟨_,_,_,_,rfl,hN.below (hA _ _),fun i hi => hu i (by omega),kN.below (hA _ _),fun i hi => ku i (by omega),hA _ _⟩
end Go.Proofs.YtbbliiafkjipbaaGreatDoor

namespace Go.Proofs.YtbbliiafkjipbaaGreatDoor
set_option linter.unusedVariables false
set_option linter.unusedSimpArgs false
structure Pt where
 feat : Nat
 sh : Rat
 ok : Bool
def Pt.put (a b : Pt) : Pt := ⟨a.feat,a.sh * b.sh,a.ok && b.ok⟩
def insP : List Pt → Pt → List Pt
 | [],p => [p]
 | a :: l,p => if a.feat = p.feat then a.put p :: l else if p.feat < a.feat then p :: a :: l else a :: insP l p
def stepP (t : Nat → Nd) (r : Nat → Cl) (p x : Nat) : Pt := ⟨(t p).feat.toNat,(t x).cov / (t p).cov,decide (nxt (t p) r = x)⟩
def plN (t : Nat → Nd) (n : Nat) (r : Nat → Cl) : Nat → Nat → List Pt
 | 0,_ => []
 | k + 1,x => if x = 0 then [] else match upOf t x n with
  | none => []
  | some p => insP (plN t n r k p) (stepP t r p x)
theorem plN_more {t : Nat → Nd} {n : Nat} {r : Nat → Cl} : ∀ k x,lawUp t n k x = true → plN t n r (k + 1) x = plN t n r k x
 | 0,x,h => by simp [lawUp] at h
 | k + 1,x,h => by
  show (if x = 0 then [] else match upOf t x n with | none => [] | some p => insP (plN t n r (k + 1) p) (stepP t r p x)) = (if x = 0 then [] else match upOf t x n with | none => [] | some p => insP (plN t n r k p) (stepP t r p x))
  unfold lawUp at h
  by_cases e : x = 0
  ·rw [if_pos e,if_pos e]
  ·rw [if_neg e] at h
   rw [if_neg e,if_neg e]
   cases u : upOf t x n with
   | none => rfl
   | some p =>
    rw [u] at h
    show insP (plN t n r (k + 1) p) _ = insP (plN t n r k p) _
    rw [plN_more k p h]
def pl (t : Nat → Nd) (n : Nat) (r : Nat → Cl) (x : Nat) : List Pt := plN t n r (n + 1) x
theorem pl_root (t : Nat → Nd) (n : Nat) (r : Nat → Cl) : pl t n r 0 = [] := by unfold pl; rw [plN,if_pos rfl]
theorem MayT.pl_kid {F : Int} {t : Nat → Nd} {n : Nat} (h : MayT F t n) (r : Nat → Cl) {y x : Nat} (hy : y < n) (hx : x < n) (h1 : 1 ≤ x) (hk : kid t y x) : pl t n r x = insP (pl t n r y) (stepP t r y x) := by
 have hu := h.up x hx
 unfold pl
 unfold lawUp at hu
 rw [if_neg (by omega)] at hu
 cases u : upOf t x n with
 | none => rw [u] at hu; cases hu
 | some p =>
  rw [u] at hu
  obtain ⟨p1,p2⟩ := upOf_some u
  have : p = y := h.once.one h1 hx p1 hy p2 hk
  subst this
  rw [plN,if_neg (by omega),u]
  show insP (plN t n r n p) (stepP t r p x) = insP (plN t n r (n + 1) p) (stepP t r p x)
  rw [plN_more n p hu]

def getP : List Pt → Nat → Option (Rat × Bool)
 | [],_ => none
 | a :: l,f => if a.feat = f then some (a.sh,a.ok) else getP l f
def SrtP (l : List Pt) : Prop := l.Pairwise (fun a b => a.feat < b.feat)
theorem getP_low : ∀ {l : List Pt} {f : Nat},(∀ a ∈ l,f < a.feat) → getP l f = none
 | [],_,_ => rfl
 | a :: l,f,h => by
  have := h a (by simp)
  show (if a.feat = f then _ else getP l f) = none
  rw [if_neg (by omega)]
  exact getP_low (fun b hb => h b (List.mem_cons_of_mem _ hb))
theorem insP_mem {p : Pt} : ∀ {l : List Pt} {a : Pt},a ∈ insP l p → a.feat = p.feat ∨ a ∈ l
 | [],a,h => by
  left
  have : a = p := by simpa [insP] using h
  rw [this]
 | b :: l,a,h => by
  unfold insP at h
  by_cases e : b.feat = p.feat
  ·rw [if_pos e] at h
   rcases List.mem_cons.1 h with h | h
   ·left
    rw [h]
    exact e
   ·exact .inr (List.mem_cons_of_mem _ h)
  ·rw [if_neg e] at h
   by_cases e2 : p.feat < b.feat
   ·rw [if_pos e2] at h
    rcases List.mem_cons.1 h with h | h
    ·left; rw [h]
    ·exact .inr h
   ·rw [if_neg e2] at h
    rcases List.mem_cons.1 h with h | h
    ·right; rw [h]; simp
    ·rcases insP_mem h with h | h
     ·exact .inl h
     ·exact .inr (List.mem_cons_of_mem _ h)
theorem insP_srt (p : Pt) : ∀ {l : List Pt},SrtP l → SrtP (insP l p)
 | [],_ => by simp [SrtP,insP]
 | b :: l,h => by
  have h' := List.pairwise_cons.1 h
  unfold insP
  by_cases e : b.feat = p.feat
  ·rw [if_pos e]
   exact List.pairwise_cons.2 ⟨fun a ha => h'.1 a ha,h'.2⟩
  ·rw [if_neg e]
   by_cases e2 : p.feat < b.feat
   ·rw [if_pos e2]
    refine List.pairwise_cons.2 ⟨fun a ha => ?_,h⟩
    rcases List.mem_cons.1 ha with ha | ha
    ·rw [ha]; exact e2
    ·exact Nat.lt_trans e2 (h'.1 a ha)
   ·rw [if_neg e2]
    refine List.pairwise_cons.2 ⟨fun a ha => ?_,insP_srt p h'.2⟩
    rcases insP_mem ha with ha | ha
    ·rw [ha]; omega
    ·exact h'.1 a ha
theorem getP_ins (p : Pt) (f : Nat) : ∀ {l : List Pt},SrtP l → getP (insP l p) f = if p.feat = f then some (match getP l f with | none => (p.sh,p.ok) | some a => (a.1 * p.sh,a.2 && p.ok)) else getP l f
 | [],_ => rfl
 | b :: l,h => by
  have h' := List.pairwise_cons.1 h
  unfold insP
  by_cases e : b.feat = p.feat
  ·rw [if_pos e]
   show (if b.feat = f then some (b.sh * p.sh,b.ok && p.ok) else getP l f) = _
   by_cases g : p.feat = f
   ·rw [if_pos g,if_pos (e.trans g)]
    show _ = some (match (if b.feat = f then some (b.sh,b.ok) else getP l f) with | none => (p.sh,p.ok) | some a => (a.1 * p.sh,a.2 && p.ok))
    rw [if_pos (e.trans g)]
   ·rw [if_neg g,if_neg (fun x => g (e.symm.trans x))]
    show _ = if b.feat = f then some (b.sh,b.ok) else getP l f
    rw [if_neg (fun x => g (e.symm.trans x))]
  ·rw [if_neg e]
   by_cases e2 : p.feat < b.feat
   ·rw [if_pos e2]
    show (if p.feat = f then some (p.sh,p.ok) else getP (b :: l) f) = _
    by_cases g : p.feat = f
    ·rw [if_pos g,if_pos g,getP_low (l := b :: l) (f := f) (fun a ha => by
      rcases List.mem_cons.1 ha with ha | ha
      ·rw [ha]; omega
      ·have := h'.1 a ha; omega)]
    ·rw [if_neg g,if_neg g]
   ·rw [if_neg e2]
    show (if b.feat = f then some (b.sh,b.ok) else getP (insP l p) f) = _
    rw [getP_ins p f h'.2]
    by_cases g : p.feat = f
    ·rw [if_pos g,if_pos g,if_neg (fun x => e (x.trans g.symm))]
     show _ = some (match (if b.feat = f then some (b.sh,b.ok) else getP l f) with | none => (p.sh,p.ok) | some a => (a.1 * p.sh,a.2 && p.ok))
     rw [if_neg (fun x => e (x.trans g.symm))]
    ·rw [if_neg g,if_neg g]
     rfl
theorem MayT.pl_srt {F : Int} {t : Nat → Nd} {n : Nat} (h : MayT F t n) (r : Nat → Cl) (x : Nat) : SrtP (pl t n r x) := by
 have : ∀ k x,SrtP (plN t n r k x) := by
  intro k
  induction k with
  | zero => intro x; exact List.Pairwise.nil
  | succ k ih =>
   intro x
   show SrtP (if x = 0 then [] else match upOf t x n with | none => [] | some p => insP (plN t n r k p) (stepP t r p x))
   by_cases e : x = 0
   ·rw [if_pos e]; exact List.Pairwise.nil
   ·rw [if_neg e]
    cases upOf t x n with
    | none => exact List.Pairwise.nil
    | some p => exact insP_srt _ (ih p)
 exact this _ x
structure Sh where
 q : Rat
 is : Bool
 asks : Bool
 ok : Bool
def upS (t : Nat → Nd) (r : Nat → Cl) (f x c : Nat) (s : Sh) : Sh := if (t x).feat = (f : Int) then ⟨s.q * ((t c).cov / (t x).cov),true,true,s.ok && decide (Go.Proofs.YtbbliiafkjipbaaGreatDoor.nxt (t x) r = c)⟩ else ⟨s.q,true,s.asks,s.ok⟩
def shN (t : Nat → Nd) (r : Nat → Cl) (y f : Nat) : Nat → Nat → Sh
 | 0,_ => ⟨1,false,false,true⟩
 | k + 1,x => if (t x).leaf = true then ⟨1,decide (x = y),false,true⟩ else if (shN t r y f k (kl t x)).is = true then upS t r f x (kl t x) (shN t r y f k (kl t x)) else if (shN t r y f k (kr t x)).is = true then upS t r f x (kr t x) (shN t r y f k (kr t x)) else ⟨1,false,false,true⟩
theorem MayT.sh_more {F : Int} {t : Nat → Nd} {n : Nat} (h : MayT F t n) (r : Nat → Cl) (y f : Nat) : ∀ k x,x < n → n + 1 ≤ lvl t n x + k → shN t r y f (k + 1) x = shN t r y f k x
 | 0,x,hx,hk => by have := h.lvl_le hx; omega
 | k + 1,x,hx,hk => by
  show (if (t x).leaf = true then _ else if (shN t r y f (k + 1) (kl t x)).is = true then upS t r f x (kl t x) (shN t r y f (k + 1) (kl t x)) else if (shN t r y f (k + 1) (kr t x)).is = true then upS t r f x (kr t x) (shN t r y f (k + 1) (kr t x)) else _) = (if (t x).leaf = true then _ else if (shN t r y f k (kl t x)).is = true then upS t r f x (kl t x) (shN t r y f k (kl t x)) else if (shN t r y f k (kr t x)).is = true then upS t r f x (kr t x) (shN t r y f k (kr t x)) else _)
  by_cases hl : (t x).leaf = true
  ·rw [if_pos hl,if_pos hl]
  ·rw [if_neg hl,if_neg hl]
   obtain ⟨_,_,_,a2,_,a4,b1,b2⟩ := h.kids hx (by simpa using hl)
   rw [h.sh_more r y f k _ a2 (by omega),h.sh_more r y f k _ a4 (by omega)]
def shr (t : Nat → Nd) (n : Nat) (r : Nat → Cl) (y f x : Nat) : Sh := shN t r y f (n + 1) x
theorem shr_leaf {t : Nat → Nd} {n : Nat} {r : Nat → Cl} {y f x : Nat} (hl : (t x).leaf = true) : shr t n r y f x = ⟨1,decide (x = y),false,true⟩ := by
 unfold shr
 rw [shN,if_pos hl]
theorem MayT.shr_split {F : Int} {t : Nat → Nd} {n : Nat} (h : MayT F t n) (r : Nat → Cl) (y f : Nat) {x : Nat} (hx : x < n) (hl : (t x).leaf = false) : shr t n r y f x = if (shr t n r y f (kl t x)).is = true then upS t r f x (kl t x) (shr t n r y f (kl t x)) else if (shr t n r y f (kr t x)).is = true then upS t r f x (kr t x) (shr t n r y f (kr t x)) else ⟨1,false,false,true⟩ := by
 obtain ⟨_,_,_,a2,_,a4,b1,b2⟩ := h.kids hx hl
 unfold shr
 conv => lhs; rw [shN,if_neg (by rw [hl]; simp)]
 have hk := h.lvl_le hx
 rw [h.sh_more r y f n _ a2 (by omega),h.sh_more r y f n _ a4 (by omega)]
theorem upS_is (t : Nat → Nd) (r : Nat → Cl) (f x c : Nat) (s : Sh) : (upS t r f x c s).is = true := by
 unfold upS
 by_cases e : (t x).feat = (f : Int)
 ·rw [if_pos e]
 ·rw [if_neg e]
theorem MayT.shr_is {F : Int} {t : Nat → Nd} {n : Nat} (h : MayT F t n) (r : Nat → Cl) (y f : Nat) {x : Nat} (hx : x < n) : (shr t n r y f x).is = decide (y ∈ lvs t n x) :=
 h.by_tree (P := fun x => (shr t n r y f x).is = decide (y ∈ lvs t n x)) (fun x hx hl => by
  rw [shr_leaf hl,lvs_leaf hl]
  show decide (x = y) = decide (y ∈ [x])
  simp [eq_comm]) (fun x hx hl a b => by
  rw [h.shr_split r y f hx hl,h.lvs_split hx hl,a,b]
  by_cases e1 : y ∈ lvs t n (kl t x)
  ·rw [if_pos (decide_eq_true e1),upS_is]
   exact (decide_eq_true (List.mem_append_left _ e1)).symm
  ·rw [if_neg (by simpa using e1)]
   by_cases e2 : y ∈ lvs t n (kr t x)
   ·rw [if_pos (decide_eq_true e2),upS_is]
    exact (decide_eq_true (List.mem_append_right _ e2)).symm
   ·rw [if_neg (by simpa using e2)]
    exact (decide_eq_false (fun h => (List.mem_append.1 h).elim e1 e2)).symm) hx
def comb (a : Option (Rat × Bool)) (s : Sh) : Option (Rat × Bool) := if s.asks = true then some (match a with | none => (s.q,s.ok) | some a => (a.1 * s.q,a.2 && s.ok)) else a
theorem comb_up {t : Nat → Nd} {r : Nat → Cl} {f x c : Nat} {a : Option (Rat × Bool)} {s : Sh} (hq : s.asks = false → s.q = 1 ∧ s.ok = true) (hf : 0 ≤ (t x).feat) :
  comb (if (stepP t r x c).feat = f then some (match a with | none => ((stepP t r x c).sh,(stepP t r x c).ok) | some a => (a.1 * (stepP t r x c).sh,a.2 && (stepP t r x c).ok)) else a) s = comb a (upS t r f x c s) := by
 unfold upS
 have e0 : ((stepP t r x c).feat = f) ↔ (t x).feat = (f : Int) := by
  show (t x).feat.toNat = f ↔ _
  omega
 by_cases e : (t x).feat = (f : Int)
 ·rw [if_pos (e0.2 e),if_pos e]
  unfold comb
  show _ = if true = true then _ else _
  rw [if_pos rfl]
  show (if s.asks = true then some ((match a with | none => _ | some a => _ : Rat × Bool).1 * s.q,(match a with | none => _ | some a => _ : Rat × Bool).2 && s.ok) else _) = _
  cases hs : s.asks with
  | true =>
   rw [if_pos rfl]
   cases a with
   | none =>
    show some ((t c).cov / (t x).cov * s.q,decide (nxt (t x) r = c) && s.ok) = some (s.q * ((t c).cov / (t x).cov),s.ok && decide (nxt (t x) r = c))
    rw [Rat.mul_comm,Bool.and_comm]
   | some a =>
    show some (a.1 * ((t c).cov / (t x).cov) * s.q,a.2 && decide (nxt (t x) r = c) && s.ok) = some (a.1 * (s.q * ((t c).cov / (t x).cov)),a.2 && (s.ok && decide (nxt (t x) r = c)))
    rw [Rat.mul_assoc,Rat.mul_comm s.q,Bool.and_assoc,Bool.and_comm s.ok]
  | false =>
   obtain ⟨h1,h2⟩ := hq hs
   rw [if_neg (by simp),h1,h2]
   cases a with
   | none =>
    show some ((t c).cov / (t x).cov,decide (nxt (t x) r = c)) = some (1 * ((t c).cov / (t x).cov),true && decide (nxt (t x) r = c))
    rw [Rat.one_mul,Bool.true_and]
   | some a =>
    show some (a.1 * ((t c).cov / (t x).cov),a.2 && decide (nxt (t x) r = c)) = some (a.1 * (1 * ((t c).cov / (t x).cov)),a.2 && (true && decide (nxt (t x) r = c)))
    rw [Rat.one_mul,Bool.true_and]
 ·rw [if_neg (fun h => e (e0.1 h)),if_neg e]
  rfl
theorem MayT.shr_idle {F : Int} {t : Nat → Nd} {n : Nat} (h : MayT F t n) (r : Nat → Cl) (y f : Nat) {x : Nat} (hx : x < n) : (shr t n r y f x).asks = false → (shr t n r y f x).q = 1 ∧ (shr t n r y f x).ok = true := by
 have key : ∀ (x c : Nat) (s : Sh),(s.asks = false → s.q = 1 ∧ s.ok = true) → (upS t r f x c s).asks = false → (upS t r f x c s).q = 1 ∧ (upS t r f x c s).ok = true := by
  intro x c s hs
  unfold upS
  by_cases e : (t x).feat = (f : Int)
  ·rw [if_pos e]; intro h; cases h
  ·rw [if_neg e]; exact hs
 refine h.by_tree (P := fun x => (shr t n r y f x).asks = false → (shr t n r y f x).q = 1 ∧ (shr t n r y f x).ok = true) (fun x hx hl => ?_) (fun x hx hl a b => ?_) hx
 ·rw [shr_leaf hl]; exact fun _ => ⟨rfl,rfl⟩
 ·rw [h.shr_split r y f hx hl]
  by_cases e1 : (shr t n r y f (kl t x)).is = true
  ·rw [if_pos e1]; exact key _ _ _ a
  ·rw [if_neg e1]
   by_cases e2 : (shr t n r y f (kr t x)).is = true
   ·rw [if_pos e2]; exact key _ _ _ b
   ·rw [if_neg e2]; exact fun _ => ⟨rfl,rfl⟩
theorem MayT.getP_below {F : Int} {t : Nat → Nd} {n : Nat} (h : MayT F t n) (r : Nat → Cl) (y f : Nat) {x : Nat} (hx : x < n) : (shr t n r y f x).is = true → getP (pl t n r y) f = comb (getP (pl t n r x) f) (shr t n r y f x) :=
 h.by_tree (P := fun x => (shr t n r y f x).is = true → getP (pl t n r y) f = comb (getP (pl t n r x) f) (shr t n r y f x)) (fun x hx hl => by
  rw [shr_leaf hl]
  intro e
  have e' : x = y := of_decide_eq_true e
  rw [e']
  rfl) (fun x hx hl a b => by
  obtain ⟨e1,e2,a1,a2,a3,a4,_,_⟩ := h.kids hx hl
  have hf := (h.feat x hx hl).1
  rw [h.shr_split r y f hx hl]
  by_cases g1 : (shr t n r y f (kl t x)).is = true
  ·rw [if_pos g1]
   intro _
   rw [a g1,h.pl_kid r hx a2 a1 ⟨hl,.inl e1⟩,getP_ins _ f (h.pl_srt r x)]
   exact comb_up (h.shr_idle r y f a2) hf
  ·rw [if_neg g1]
   by_cases g2 : (shr t n r y f (kr t x)).is = true
   ·rw [if_pos g2]
    intro _
    rw [b g2,h.pl_kid r hx a4 a3 ⟨hl,.inr e2⟩,getP_ins _ f (h.pl_srt r x)]
    exact comb_up (h.shr_idle r y f a4) hf
   ·rw [if_neg g2]
    intro e; cases e) hx
theorem MayT.getP_all {F : Int} {t : Nat → Nd} {n : Nat} (h : MayT F t n) (r : Nat → Cl) {y : Nat} (hy : y ∈ lvs t n 0) (f : Nat) : (shr t n r y f 0).is = true ∧ getP (pl t n r y) f = if (shr t n r y f 0).asks = true then some ((shr t n r y f 0).q,(shr t n r y f 0).ok) else none := by
 have h1 : (shr t n r y f 0).is = true := by rw [h.shr_is r y f h.pos]; exact decide_eq_true hy
 refine ⟨h1,?_⟩
 rw [h.getP_below r y f h.pos h1,pl_root]
 rfl
def cntP (l : List Pt) (f : Nat) : Nat := (l.filter (fun a => decide (a.feat < f))).length
theorem cntP_cons (a : Pt) (l : List Pt) (f : Nat) : cntP (a :: l) f = cntP l f + (if a.feat < f then 1 else 0) := by
 unfold cntP
 by_cases e : a.feat < f
 ·rw [if_pos e,List.filter_cons_of_pos (by simpa using e)]; rfl
 ·rw [if_neg e,List.filter_cons_of_neg (by simpa using e)]; rfl
theorem cntP_low : ∀ {l : List Pt} {f : Nat},(∀ a ∈ l,f ≤ a.feat) → cntP l f = 0
 | [],_,_ => rfl
 | a :: l,f,h => by
  rw [cntP_cons,if_neg (by have := h a (by simp); omega),cntP_low (fun b hb => h b (List.mem_cons_of_mem _ hb))]
theorem cntP_zero (l : List Pt) : cntP l 0 = 0 := cntP_low (fun _ _ => Nat.zero_le _)
theorem cntP_le (l : List Pt) (f : Nat) : cntP l f ≤ l.length := List.length_filter_le _ _
theorem cntP_all : ∀ {l : List Pt} {f : Nat},(∀ a ∈ l,a.feat < f) → cntP l f = l.length
 | [],_,_ => rfl
 | a :: l,f,h => by
  rw [cntP_cons,if_pos (h a (by simp)),cntP_all (fun b hb => h b (List.mem_cons_of_mem _ hb))]
  rfl
theorem getP_at : ∀ {l : List Pt} (_ : SrtP l) {f : Nat} {a : Rat × Bool},getP l f = some a → l[cntP l f]? = some ⟨f,a.1,a.2⟩ ∧ cntP l (f + 1) = cntP l f + 1
 | [],_,f,a,h => by cases h
 | b :: l,hs,f,a,h => by
  have h' := List.pairwise_cons.1 hs
  unfold getP at h
  by_cases e : b.feat = f
  ·rw [if_pos e] at h
   injection h with h
   have c0 : cntP l f = 0 := cntP_low (fun c hc => by have := h'.1 c hc; omega)
   have c1 : cntP l (f + 1) = 0 := cntP_low (fun c hc => by have := h'.1 c hc; omega)
   rw [cntP_cons,cntP_cons,c0,c1,if_neg (by omega),if_pos (by omega)]
   refine ⟨?_,rfl⟩
   rw [← h,← e]
   rfl
  ·rw [if_neg e] at h
   obtain ⟨i1,i2⟩ := getP_at h'.2 h
   have hb : b.feat < f := by
    have hlt : cntP l f < l.length := (List.getElem?_eq_some_iff.1 i1).1
    have hm := List.mem_of_getElem? i1
    have := h'.1 _ hm
    exact this
   rw [cntP_cons,cntP_cons,if_pos hb,if_pos (by omega),i2]
   exact ⟨i1,rfl⟩
theorem getP_none : ∀ {l : List Pt} {f : Nat},getP l f = none → cntP l (f + 1) = cntP l f
 | [],f,h => rfl
 | b :: l,f,h => by
  unfold getP at h
  by_cases e : b.feat = f
  ·rw [if_pos e] at h; cases h
  ·rw [if_neg e] at h
   rw [cntP_cons,cntP_cons,getP_none h]
   by_cases g : b.feat < f
   ·rw [if_pos g,if_pos (by omega)]
   ·rw [if_neg g,if_neg (by omega)]
theorem MayT.pl_small {F : Int} {t : Nat → Nd} {n S : Nat} (h : MayT F t n) (r : Nat → Cl) (hS : 1 ≤ S) (hz : ∀ x y,x < n → y < n → qsz ((t x).cov / (t y).cov) ≤ S) {x : Nat} (hx : x < n) : ∀ a ∈ pl t n r x,(a.feat : Int) < F ∧ qsz a.sh ≤ lvl t n x * S := by
 have ins : ∀ (l : List Pt) (p : Pt) (M : Nat),(∀ a ∈ l,(a.feat : Int) < F ∧ qsz a.sh ≤ M) → ((p.feat : Int) < F ∧ qsz p.sh ≤ S) → ∀ a ∈ insP l p,(a.feat : Int) < F ∧ qsz a.sh ≤ M + S := by
  intro l p M
  induction l with
  | nil =>
   intro _ hp a ha
   have : a = p := by simpa [insP] using ha
   rw [this]
   exact ⟨hp.1,by omega⟩
  | cons b l ih =>
   intro hl hp a ha
   have hb := hl b (by simp)
   have hl' := fun c hc => hl c (List.mem_cons_of_mem _ hc)
   unfold insP at ha
   by_cases e : b.feat = p.feat
   ·rw [if_pos e] at ha
    rcases List.mem_cons.1 ha with ha | ha
    ·rw [ha]
     exact ⟨hb.1,by show qsz (b.sh * p.sh) ≤ _; exact qsz_mul _ _ hb.2 hp.2⟩
    ·have := hl' a ha
     exact ⟨this.1,by omega⟩
   ·rw [if_neg e] at ha
    by_cases e2 : p.feat < b.feat
    ·rw [if_pos e2] at ha
     rcases List.mem_cons.1 ha with ha | ha
     ·rw [ha]; exact ⟨hp.1,by omega⟩
     ·have := hl a ha
      exact ⟨this.1,by omega⟩
    ·rw [if_neg e2] at ha
     rcases List.mem_cons.1 ha with ha | ha
     ·rw [ha]; exact ⟨hb.1,by omega⟩
     ·exact ih hl' hp a ha
 have key : ∀ k x,x < n → lawUp t n k x = true → ∀ a ∈ plN t n r k x,(a.feat : Int) < F ∧ qsz a.sh ≤ lv t n k x * S := by
  intro k
  induction k with
  | zero => intro x _ hu; simp [lawUp] at hu
  | succ k ih =>
   intro x hx hu
   show ∀ a ∈ (if x = 0 then [] else match upOf t x n with | none => [] | some p => insP (plN t n r k p) (stepP t r p x)),(a.feat : Int) < F ∧ qsz a.sh ≤ (if x = 0 then 0 else match upOf t x n with | none => 0 | some p => lv t n k p + 1) * S
   unfold lawUp at hu
   by_cases e : x = 0
   ·rw [if_pos e]; intro a ha; cases ha
   ·rw [if_neg e] at hu
    rw [if_neg e,if_neg e]
    cases u : upOf t x n with
    | none => intro a ha; cases ha
    | some p =>
     rw [u] at hu
     obtain ⟨p1,p2⟩ := upOf_some u
     have h1 := ins (plN t n r k p) (stepP t r p x) (lv t n k p * S) (ih p p1 hu) ⟨by
      have := h.feat p p1 p2.1
      show (((t p).feat.toNat : Nat) : Int) < F
      omega,hz x p hx p1⟩
     rw [← Nat.succ_mul] at h1
     exact h1
 exact key (n + 1) x hx (h.up x hx)
end Go.Proofs.YtbbliiafkjipbaaGreatDoor

namespace Go.Proofs.YtbbliiafkjipbaaGreatDoor
open Go.RowKit
set_option linter.unusedVariables false
structure ElG (k : Nat) {α : Type} (A : World → (Nat → Value) → α → Prop) : Prop where
 keep : ∀ {w w' : World} {el : Nat → Value} {d : α},A w el d → KeepQ IsLimb w w' → A w' el d
 congr : ∀ {w : World} {el el' : Nat → Value} {d : α},A w el d → (∀ j,j < k → el j = el' j) → A w el' d
def GOwn (T : TypeId) (k : Nat) {α : Type} (A : World → (Nat → Value) → α → Prop) (B : Nat) (w : World) (v : Value) (l : List α) : Prop :=
 ∃ cs : List Value,w.ownsRow B T k v l.length cs ∧ (∀ g,v.ownBlock = some g → PureB IsLimb w g) ∧ ∀ i a,l[i]? = some a → A w (fun j => cs.getD (i * k + j) undef) a
def GRow (k : Nat) {α : Type} (A : World → (Nat → Value) → α → Prop) (w : World) (v : Value) (l : List α) : Prop := ∃ el,RowAt k w v l.length el ∧ ∀ i a,l[i]? = some a → A w (el i) a
section
variable {T : TypeId} {k : Nat} {α : Type} {A : World → (Nat → Value) → α → Prop} {B : Nat} {w w' : World} {v : Value} {l : List α}
theorem GRow.below (h : GRow k A w v l) (hA : ElG k A) (hb : Below w.heap.size w w') : GRow k A w' v l := by
 obtain ⟨el,h1,h2⟩ := h
 exact ⟨el,h1.below hb,fun i a hi => hA.keep (h2 i a hi) (KeepQ.below hb)⟩
theorem GRow.open (h : GRow k A w v l) : ∃ a c,v = .slice a l.length c ∧ l.length ≤ c ∧ c ≤ 9223372036854775807 := by
 obtain ⟨el,⟨ao,c,h1,h2,h3,_⟩,_⟩ := h
 exact ⟨ao,c,h1,h2,h3⟩
theorem GRow.at (h : GRow k A w v l) {i : Nat} {a : α} (hi : l[i]? = some a) : ∃ (b off c : Nat) (e : Nat → Value),v = .slice (some ⟨b,off,none⟩) l.length c ∧ l.length ≤ c ∧ (∀ j,j < k → w.cell? ⟨b,off + i * k + j,none⟩ = some (e j)) ∧ A w e a := by
 obtain ⟨el,⟨ao,c,h1,h2,h3,h4⟩,h5⟩ := h
 have hl : i < l.length := by have := List.getElem?_eq_some_iff.1 hi; exact this.1
 obtain ⟨b,off,rfl,hc⟩ := h4 (by omega)
 exact ⟨b,off,c,el i,h1,h2,hc i hl,h5 i a hi⟩
theorem GOwn.nil : GOwn T k A B w (.slice none 0 0) [] := ⟨[],World.ownsRow_nil _ _ _ _,fun g h => by simp [Value.ownBlock] at h,fun i a hi => by simp at hi⟩
theorem GOwn.le (h : GOwn T k A B w v l) {B' : Nat} (hb : B' ≤ B) : GOwn T k A B' w v l := by
 obtain ⟨cs,h1,h2,h3⟩ := h
 exact ⟨cs,owns_le h1 hb,h2,h3⟩
theorem GOwn.later (h : GOwn T k A B w v l) (hA : ElG k A) (hb : Below w.heap.size w w') : GOwn T k A B w' v l := by
 obtain ⟨cs,h1,h2,h3⟩ := h
 exact ⟨cs,owns_later h1 hb,fun g hg => (h2 g hg).below hb (World.ownsRow.lt h1 g hg).2,fun i a hi => hA.keep (h3 i a hi) (KeepQ.below hb)⟩
theorem GOwn.form (h : GOwn T k A B w v l) : ∃ a c,v = .slice a l.length c ∧ l.length ≤ c := by
 obtain ⟨cs,h1,_⟩ := h
 rcases h1.2 with ⟨rfl,e⟩ | ⟨g,c,_,rfl,_,_,h,_⟩
 ·exact ⟨none,0,by rw [e],by omega⟩
 ·exact ⟨_,c,rfl,h⟩
theorem GOwn.none (h : GOwn T k A B w v l) (h0 : l.length = 0) : (v = .slice none 0 0) ∨ ∃ g c,v = .slice (some ⟨g,0,Option.none⟩) 0 c := by
 obtain ⟨cs,h1,_⟩ := h
 rcases h1.2 with ⟨rfl,e⟩ | ⟨g,c,_,rfl,_⟩
 ·exact .inl rfl
 ·exact .inr ⟨g,c,by rw [h0]⟩
theorem GOwn.open (h : GOwn T k A B w v l) (h0 : 0 < l.length) : ∃ g c,v = .slice (some ⟨g,0,Option.none⟩) l.length c ∧ l.length ≤ c ∧ B ≤ g ∧ g < w.heap.size := by
 obtain ⟨cs,h1,_⟩ := h
 have h2 := h1
 rcases h1.2 with ⟨rfl,e⟩ | ⟨g,c,_,rfl,hB,hg,hc,_⟩
 ·omega
 ·exact ⟨g,c,rfl,hc,hB,(World.ownsRow.lt h2 g rfl).2⟩
theorem GOwn.row (h : GOwn T k A B w v l) (hA : ElG k A) : GRow k A w v l := by
 obtain ⟨cs,h1,_,h3⟩ := h
 refine ⟨fun i j => cs.getD (i * k + j) undef,?_,h3⟩
 have hl := h1.1
 rcases h1.2 with ⟨rfl,e⟩ | ⟨g,c,cur,rfl,hB,hg,hc,hm,rest⟩
 ·rw [e]; exact RowAt.nil _ _ _
 ·refine ⟨_,c,rfl,hc,by unfold maxLen at hm; omega,fun _ => ⟨g,0,rfl,fun i hi j hj => ?_⟩⟩
  have hlt : i * k + j < cs.length := by
   rw [hl]
   have := Nat.mul_le_mul_right k (show i + 1 ≤ l.length by omega)
   rw [Nat.add_mul] at this
   omega
  rw [Nat.zero_add]
  exact owns_cell h1 (by show cs[i * k + j]? = some (cs.getD (i * k + j) undef); rw [List.getD_eq_getElem?_getD,List.getElem?_eq_getElem hlt]; rfl)
theorem GOwn.kept {row : Option Nat} (h : GOwn T k A B w v l) (hA : ElG k A) (hg : w.grownBy w' row) (hk : KeepQ IsLimb w w') (hne : v.ownBlock = Option.none ∨ v.ownBlock ≠ row) : GOwn T k A B w' v l := by
 obtain ⟨cs,h1,h2,h3⟩ := h
 refine ⟨cs,h1.kept hg hne,fun g hgg o u hu => h2 g hgg o u ?_,fun i a hi => hA.keep (h3 i a hi) hk⟩
 have hlt := (World.ownsRow.lt h1 g hgg).2
 have hne2 : some g ≠ row := fun e => by
  rcases hne with a | a
  ·rw [hgg] at a; cases a
  ·exact a (hgg.trans e)
 rw [← World.cell?_of_block (w := w) (hg.block g hlt hne2)]; exact hu
theorem GOwn.more {v' : Value} {m : Nat} {l' : List α} {cs news : List Value} (hA : ElG k A) (hm : l'.length = m) (h1 : w'.ownsRow B T k v' (l.length + m) (cs ++ news)) (hl : cs.length = l.length * k) (hp : ∀ g,v'.ownBlock = some g → PureB IsLimb w' g) (hk : KeepQ IsLimb w w')
  (h3 : ∀ i a,l[i]? = some a → A w (fun j => cs.getD (i * k + j) undef) a) (hn : ∀ i a,l'[i]? = some a → A w (fun j => news.getD (i * k + j) undef) a) : GOwn T k A B w' v' (l ++ l') := by
 refine ⟨cs ++ news,by rw [List.length_append,hm]; exact h1,hp,fun i a hi => ?_⟩
 by_cases e : i < l.length
 ·rw [List.getElem?_append_left e] at hi
  refine hA.congr (hA.keep (h3 i a hi) hk) (fun j hj => ?_)
  simp only [List.getD_eq_getElem?_getD]
  have := Nat.mul_le_mul_right k (show i + 1 ≤ l.length by omega)
  rw [Nat.add_mul] at this
  rw [List.getElem?_append_left (by omega)]
 ·rw [List.getElem?_append_right (by omega)] at hi
  refine hA.congr (hA.keep (hn _ a hi) hk) (fun j hj => ?_)
  simp only [List.getD_eq_getElem?_getD]
  have h5 : i * k = (i - l.length) * k + l.length * k := by rw [← Nat.add_mul]; congr 1; omega
  rw [List.getElem?_append_right (by omega),hl,h5]
  congr 2
  omega
end
theorem GOwn.parts {T : TypeId} {k : Nat} {α : Type} {A : World → (Nat → Value) → α → Prop} {B : Nat} {w : World} {v : Value} {l : List α} (h : GOwn T k A B w v l) : ∃ cs : List Value,w.ownsRow B T k v l.length cs ∧ cs.length = l.length * k ∧ (∀ g,v.ownBlock = some g → PureB IsLimb w g) ∧ ∀ i a,l[i]? = some a → A w (fun j => cs.getD (i * k + j) undef) a := by
 obtain ⟨cs,h1,h2,h3⟩ := h
 exact ⟨cs,h1,h1.1,h2,h3⟩
end Go.Proofs.YtbbliiafkjipbaaGreatDoor

namespace Go.Proofs.YtbbliiafkjipbaaGreatDoor
open Go.ChangeShapes Go.WideShapes Go.ChangeAt Go.RowKit
set_option linter.unusedVariables false
set_option linter.unusedSimpArgs false
structure PtZ where
 feat : Int
 sh : Rat
 ok : Bool
def PtRaw (w : World) (el : Nat → Value) (d : PtZ) (K : Nat) : Prop := el 0 = .int .i64 d.feat ∧ RawN w (el 1) (el 2) (el 3) d.sh K ∧ el 4 = .bool d.ok ∧ I64 d.feat
def PtAt (L : Nat) (w : World) (el : Nat → Value) (d : PtZ) : Prop := el 0 = .int .i64 d.feat ∧ AtN w (el 1) (el 2) (el 3) d.sh L ∧ el 4 = .bool d.ok ∧ I64 d.feat
theorem ptEl (L : Nat) : ElG 5 (PtAt L) where
 keep := fun ⟨a,⟨p,ao,m,c,bo,k,d,h1,h2,h3,h4⟩,b,i⟩ hk => ⟨a,⟨p,ao,m,c,bo,k,d,h1,h2,h3,h4.keepL hk⟩,b,i⟩
 congr := fun ⟨a,⟨p,ao,m,c,bo,k,d,h1,h2,h3,h4⟩,b,i⟩ he => ⟨(he 0 (by omega)).symm.trans a,⟨p,ao,m,c,bo,k,d,(he 1 (by omega)).symm.trans h1,(he 2 (by omega)).symm.trans h2,(he 3 (by omega)).symm.trans h3,h4⟩,(he 4 (by omega)).symm.trans b,i⟩
def PtR (w : World) (el : Nat → Value) (d : PtZ) : Prop := el 0 = .int .i64 d.feat ∧ (∃ p ao m c bo k e,el 1 = .bool p ∧ el 2 = .slice ao m c ∧ el 3 = .slice bo k e ∧ RepQ w (.agg #[.bool p,.slice ao m c,.slice bo k e]) d.sh) ∧ el 4 = .bool d.ok ∧ I64 d.feat
theorem ptrEl : ElG 5 PtR where
 keep := fun ⟨a,⟨p,ao,m,c,bo,k,d,h1,h2,h3,h4⟩,b,i⟩ hk => ⟨a,⟨p,ao,m,c,bo,k,d,h1,h2,h3,h4.keepL hk⟩,b,i⟩
 congr := fun ⟨a,⟨p,ao,m,c,bo,k,d,h1,h2,h3,h4⟩,b,i⟩ he => ⟨(he 0 (by omega)).symm.trans a,⟨p,ao,m,c,bo,k,d,(he 1 (by omega)).symm.trans h1,(he 2 (by omega)).symm.trans h2,(he 3 (by omega)).symm.trans h3,h4⟩,(he 4 (by omega)).symm.trans b,i⟩
theorem PtR.at {w : World} {el : Nat → Value} {d : PtZ} {L : Nat} (h : PtR w el d) (hL : qsz d.sh ≤ L) : PtAt L w el d :=
 let ⟨a,⟨p,ao,m,c,bo,k,e,h1,h2,h3,h4⟩,b,i⟩ := h
 ⟨a,⟨p,ao,m,c,bo,k,e,h1,h2,h3,h4.at L hL⟩,b,i⟩
def POw (L B : Nat) (w : World) (v : Value) (l : List PtZ) : Prop := GOwn 52 5 (PtAt L) B w v l
def PRw (L : Nat) (w : World) (v : Value) (l : List PtZ) : Prop := GRow 5 (PtAt L) w v l
def PRr (w : World) (v : Value) (l : List PtZ) : Prop := GRow 5 PtR w v l
theorem POw.below {L B : Nat} {w w' : World} {v : Value} {l : List PtZ} (h : POw L B w v l) (hb : Below w.heap.size w w') : POw L B w' v l := GOwn.later h (ptEl L) hb
theorem PRw.below {L : Nat} {w w' : World} {v : Value} {l : List PtZ} (h : PRw L w v l) (hb : Below w.heap.size w w') : PRw L w' v l := GRow.below h (ptEl L) hb
theorem PRr.below {w w' : World} {v : Value} {l : List PtZ} (h : PRr w v l) (hb : Below w.heap.size w w') : PRr w' v l := GRow.below h ptrEl hb
theorem POw.row {L B : Nat} {w : World} {v : Value} {l : List PtZ} (h : POw L B w v l) : PRw L w v l := GOwn.row h (ptEl L)
theorem PRr.at {L : Nat} {w : World} {v : Value} {l : List PtZ} (h : PRr w v l) (hL : ∀ d ∈ l,qsz d.sh ≤ L) : PRw L w v l := by
 obtain ⟨el,h1,h2⟩ := h
 exact ⟨el,h1,fun i a hi => (h2 i a hi).at (hL a (List.mem_of_getElem? hi))⟩
theorem PRw.at {L : Nat} {w : World} {v : Value} {l : List PtZ} (h : PRw L w v l) {i : Nat} {d : PtZ} (hi : l[i]? = some d) : ∃ b off c p a1 n1 c1 b1 m1 d1,v = .slice (some ⟨b,off,none⟩) l.length c ∧ l.length ≤ c ∧ w.cell? ⟨b,off + i * 5,none⟩ = some (.int .i64 d.feat) ∧ w.cell? ⟨b,off + i * 5 + 1,none⟩ = some (.bool p) ∧ w.cell? ⟨b,off + i * 5 + 2,none⟩ = some (.slice a1 n1 c1) ∧ w.cell? ⟨b,off + i * 5 + 3,none⟩ = some (.slice b1 m1 d1) ∧ w.cell? ⟨b,off + i * 5 + 4,none⟩ = some (.bool d.ok) ∧ RatAt w (.agg #[.bool p,.slice a1 n1 c1,.slice b1 m1 d1]) d.sh L ∧ I64 d.feat := by
 obtain ⟨b,off,c,e,h1,h2,h3,a,⟨p,x,n,dd,y,m,ee,h4,h5,h6,h7⟩,g,i64⟩ := GRow.at h hi
 have k0 := h3 0 (by omega); have k1 := h3 1 (by omega); have k2 := h3 2 (by omega); have k3 := h3 3 (by omega); have k4 := h3 4 (by omega)
 rw [a] at k0; rw [h4] at k1; rw [h5] at k2; rw [h6] at k3; rw [g] at k4
 exact ⟨b,off,c,p,x,n,dd,y,m,ee,h1,h2,k0,k1,k2,k3,k4,h7,i64⟩
theorem PRr.cells {w : World} {v : Value} {l : List PtZ} (h : PRr w v l) {i : Nat} {d : PtZ} (hi : l[i]? = some d) : ∃ b off c p a1 n1 c1 b1 m1 d1,v = .slice (some ⟨b,off,none⟩) l.length c ∧ l.length ≤ c ∧ w.cell? ⟨b,off + i * 5,none⟩ = some (.int .i64 d.feat) ∧ w.cell? ⟨b,off + i * 5 + 1,none⟩ = some (.bool p) ∧ w.cell? ⟨b,off + i * 5 + 2,none⟩ = some (.slice a1 n1 c1) ∧ w.cell? ⟨b,off + i * 5 + 3,none⟩ = some (.slice b1 m1 d1) ∧ w.cell? ⟨b,off + i * 5 + 4,none⟩ = some (.bool d.ok) ∧ RepQ w (.agg #[.bool p,.slice a1 n1 c1,.slice b1 m1 d1]) d.sh ∧ I64 d.feat := by
 obtain ⟨b,off,c,e,h1,h2,h3,a,⟨p,x,n,dd,y,m,ee,h4,h5,h6,h7⟩,g,i64⟩ := GRow.at h hi
 have k0 := h3 0 (by omega); have k1 := h3 1 (by omega); have k2 := h3 2 (by omega); have k3 := h3 3 (by omega); have k4 := h3 4 (by omega)
 rw [a] at k0; rw [h4] at k1; rw [h5] at k2; rw [h6] at k3; rw [g] at k4
 exact ⟨b,off,c,p,x,n,dd,y,m,ee,h1,h2,k0,k1,k2,k3,k4,h7,i64⟩
theorem info_part : (Tryz.prog.info? 52).map (fun i => (i.zero,i.size,i.bytes)) = some (some (.agg #[.int .i64 0,.bool false,.slice none 0 0,.slice none 0 0,.bool false]),5,72) := by kernel_rfl
structure V5 (w : World) (R : Nat) (x0 x1 x2 x3 x4 : Value) : Prop where
 c0 : w.cell? ⟨R,0,none⟩ = some x0
 c1 : w.cell? ⟨R,1,none⟩ = some x1
 c2 : w.cell? ⟨R,2,none⟩ = some x2
 c3 : w.cell? ⟨R,3,none⟩ = some x3
 c4 : w.cell? ⟨R,4,none⟩ = some x4
 soft : ∀ j,w.frozen? ⟨R,j,none⟩ = false
theorem V5.lt {w : World} {R : Nat} {x0 x1 x2 x3 x4 : Value} (h : V5 w R x0 x1 x2 x3 x4) : R < w.heap.size := World.block_lt_of_cell? _ _ h.c0
theorem V5.block {w w' : World} {R : Nat} {x0 x1 x2 x3 x4 : Value} (h : V5 w R x0 x1 x2 x3 x4) (hb : w'.heap[R]? = w.heap[R]?) : V5 w' R x0 x1 x2 x3 x4 :=
 ⟨(World.cell?_of_block hb).trans h.c0,(World.cell?_of_block hb).trans h.c1,(World.cell?_of_block hb).trans h.c2,(World.cell?_of_block hb).trans h.c3,(World.cell?_of_block hb).trans h.c4,fun j => (World.frozen?_of_block (a := ⟨R,j,none⟩) hb).trans (h.soft j)⟩
theorem V5.below {w w' : World} {R : Nat} {x0 x1 x2 x3 x4 : Value} (h : V5 w R x0 x1 x2 x3 x4) (hb : Below w.heap.size w w') : V5 w' R x0 x1 x2 x3 x4 := h.block (hb.block R h.lt)
theorem V5.lay (w : World) (t : TypeId) (x0 x1 x2 x3 x4 : Value) : ∃ W,W = w.alloc (.cells #[x0,x1,x2,x3,x4] t) ∧ W.heap.size = w.heap.size + 1 ∧ Below w.heap.size w W ∧ V5 W w.heap.size x0 x1 x2 x3 x4 := by
 have hb := heap_alloc_new w (.cells #[x0,x1,x2,x3,x4] t)
 refine ⟨_,rfl,by simp,(Below.refl _ _).alloc (Nat.le_refl _) _,?_,?_,?_,?_,?_,?_⟩
 ·rw [cell_of_row _ _ _ _ _ _ hb]; rfl
 ·rw [cell_of_row _ _ _ _ _ _ hb]; rfl
 ·rw [cell_of_row _ _ _ _ _ _ hb]; rfl
 ·rw [cell_of_row _ _ _ _ _ _ hb]; rfl
 ·rw [cell_of_row _ _ _ _ _ _ hb]; rfl
 ·intro j
  simp only [World.frozen?]
  rw [hb]
  simp
abbrev put13 (w : World) (R : Nat) (u1 u2 u3 : Value) : World := ((w.setCell ⟨R,1,none⟩ u1).setCell ⟨R,2,none⟩ u2).setCell ⟨R,3,none⟩ u3
theorem V5.put3 {w : World} {R : Nat} {x0 x1 x2 x3 x4 : Value} (h : V5 w R x0 x1 x2 x3 x4) (u1 u2 u3 : Value) : V5 (put13 w R u1 u2 u3) R x0 u1 u2 u3 x4 := by
 have s1 : (w.setCell ⟨R,1,none⟩ u1).cell? ⟨R,1,none⟩ = some u1 := World.cell?_setCell_same _ _ _ h.c1
 have s2 : ((w.setCell ⟨R,1,none⟩ u1).setCell ⟨R,2,none⟩ u2).cell? ⟨R,2,none⟩ = some u2 := World.cell?_setCell_same _ _ _ (cell_set_by (j := 1) h.c2 (by omega))
 refine ⟨cell_set_by (cell_set_by (cell_set_by h.c0 (by omega)) (by omega)) (by omega),cell_set_by (cell_set_by s1 (by omega)) (by omega),cell_set_by s2 (by omega),World.cell?_setCell_same _ _ _ (cell_set_by (cell_set_by h.c3 (by omega)) (by omega)),cell_set_by (cell_set_by (cell_set_by h.c4 (by omega)) (by omega)) (by omega),fun j => ?_⟩
 simp [h.soft j]
def RtAt (L : Nat) (w : World) (el : Nat → Value) (q : Rat) : Prop := AtN w (el 0) (el 1) (el 2) q L
theorem rtEl (L : Nat) : ElG 3 (RtAt L) where
 keep := fun ⟨p,ao,m,c,bo,k,d,h1,h2,h3,h4⟩ hk => ⟨p,ao,m,c,bo,k,d,h1,h2,h3,h4.keepL hk⟩
 congr := fun ⟨p,ao,m,c,bo,k,d,h1,h2,h3,h4⟩ he => ⟨p,ao,m,c,bo,k,d,(he 0 (by omega)).symm.trans h1,(he 1 (by omega)).symm.trans h2,(he 2 (by omega)).symm.trans h3,h4⟩
def RtOw (L B : Nat) (w : World) (v : Value) (l : List Rat) : Prop := GOwn 42 3 (RtAt L) B w v l
theorem RtOw.below {L B : Nat} {w w' : World} {v : Value} {l : List Rat} (h : RtOw L B w v l) (hb : Below w.heap.size w w') : RtOw L B w' v l := GOwn.later h (rtEl L) hb
def Pt.z (p : Pt) : PtZ := ⟨(p.feat : Int),p.sh,p.ok⟩
def PRaw (w : World) (v : Value) (n : Nat) (t : Nat → PtZ) (K : Nat) : Prop := ∃ el,RowAt 5 w v n el ∧ ∀ i,i < n → PtRaw w (el i) (t i) K
theorem PRaw.below {w w' : World} {v : Value} {n : Nat} {t : Nat → PtZ} {K : Nat} (h : PRaw w v n t K) (hb : Below w.heap.size w w') : PRaw w' v n t K := by
 obtain ⟨el,h1,h2⟩ := h
 exact ⟨el,h1.below hb,fun i hi => ⟨(h2 i hi).1,(h2 i hi).2.1.below hb,(h2 i hi).2.2⟩⟩
theorem PRaw.open {w : World} {v : Value} {n : Nat} {t : Nat → PtZ} {K : Nat} (h : PRaw w v n t K) : ∃ a c,v = .slice a n c ∧ n ≤ c ∧ c ≤ 9223372036854775807 := by
 obtain ⟨el,⟨a,c,h1,h2,h3,_⟩,_⟩ := h
 exact ⟨a,c,h1,h2,h3⟩
theorem PRaw.at {w : World} {v : Value} {n : Nat} {t : Nat → PtZ} {K : Nat} (h : PRaw w v n t K) {i : Nat} (hi : i < n) :
  ∃ b off c p1 a1 n1 c1 b1 m1 d1 f1 g1,v = .slice (some ⟨b,off,none⟩) n c ∧ n ≤ c ∧
   w.cell? ⟨b,off + i * 5,none⟩ = some (.int .i64 (t i).feat) ∧ w.cell? ⟨b,off + i * 5 + 1,none⟩ = some (.bool p1) ∧ w.cell? ⟨b,off + i * 5 + 2,none⟩ = some (.slice a1 n1 c1) ∧ w.cell? ⟨b,off + i * 5 + 3,none⟩ = some (.slice b1 m1 d1) ∧ w.cell? ⟨b,off + i * 5 + 4,none⟩ = some (.bool (t i).ok) ∧
   Raw w (.slice a1 n1 c1) n1 f1 ∧ Raw w (.slice b1 m1 d1) m1 g1 ∧ (t i).sh = mkRat (zof p1 (num f1 (min n1 K))) (num g1 (min m1 K)) ∧ I64 (t i).feat := by
 obtain ⟨el,⟨a,c,h1,h2,h3,h4⟩,h5⟩ := h
 obtain ⟨b,off,e,h6⟩ := h4 (by omega)
 obtain ⟨a0,⟨p,x,n1,dd,y,m,ee,f,g,q1,q2,q3,q4,q5,q6⟩,gg,i64⟩ := h5 i hi
 have k0 := h6 i hi 0 (by omega); have k1 := h6 i hi 1 (by omega); have k2 := h6 i hi 2 (by omega); have k3 := h6 i hi 3 (by omega); have k4 := h6 i hi 4 (by omega)
 rw [a0] at k0; rw [q1] at k1; rw [q2] at k2; rw [q3] at k3; rw [gg] at k4
 exact ⟨b,off,c,p,x,n1,dd,y,m,ee,f,g,by rw [h1,e],h2,k0,k1,k2,k3,k4,q4,q5,q6,i64⟩
end Go.Proofs.YtbbliiafkjipbaaGreatDoor

namespace Go.Proofs.YtbbliiafkjipbaaGreatDoor
open Go.RowKit
set_option linter.unusedVariables false
set_option linter.unusedSimpArgs false
def PtM (b : Bool) (M : Nat) (w : World) (el : Nat → Value) (d : PtZ) : Prop := if b = true then PtR w el d else PtAt M w el d
theorem ptm_true {M : Nat} {w : World} {el : Nat → Value} {d : PtZ} : PtM true M w el d = PtR w el d := by unfold PtM; rw [if_pos rfl]
theorem ptm_false {M : Nat} {w : World} {el : Nat → Value} {d : PtZ} : PtM false M w el d = PtAt M w el d := by unfold PtM; rw [if_neg (by simp)]
theorem PtM.keep {b : Bool} {M : Nat} {w w' : World} {el : Nat → Value} {d : PtZ} (h : PtM b M w el d) (hk : KeepQ IsLimb w w') : PtM b M w' el d := by
 cases b with
 | true => exact ptrEl.keep (show PtR w el d from h) hk
 | false => exact (ptEl M).keep (show PtAt M w el d from h) hk
theorem PtM.base {b : Bool} {M : Nat} {w : World} {el : Nat → Value} {d : PtZ} (h : PtM b M w el d) : el 0 = .int .i64 d.feat ∧ (∃ p a n c b m e,el 1 = .bool p ∧ el 2 = .slice a n c ∧ el 3 = .slice b m e) ∧ el 4 = .bool d.ok ∧ I64 d.feat := by
 cases b with
 | true =>
  obtain ⟨a,⟨p,ao,m,c,bo,k,e,h1,h2,h3,_⟩,g,i⟩ : PtR w el d := h
  exact ⟨a,⟨p,ao,m,c,bo,k,e,h1,h2,h3⟩,g,i⟩
 | false =>
  obtain ⟨a,⟨p,ao,m,c,bo,k,e,h1,h2,h3,_⟩,g,i⟩ : PtAt M w el d := h
  exact ⟨a,⟨p,ao,m,c,bo,k,e,h1,h2,h3⟩,g,i⟩
def PArr (M : Nat) (f : Nat → Bool) (w : World) (g : Nat) (l : List PtZ) : Prop :=
 ∃ el : Nat → Nat → Value,(∀ i,i < l.length → ∀ j,j < 5 → w.cell? ⟨g,i * 5 + j,none⟩ = some (el i j) ∧ w.frozen? ⟨g,i * 5 + j,none⟩ = false) ∧ ∀ i d,l[i]? = some d → PtM (f i) M w (el i) d
theorem PArr.below {M : Nat} {f : Nat → Bool} {w w' : World} {g : Nat} {l : List PtZ} (h : PArr M f w g l) (hb : Below w.heap.size w w') : PArr M f w' g l := by
 obtain ⟨el,h1,h2⟩ := h
 refine ⟨el,fun i hi j hj => ?_,fun i d hd => (h2 i d hd).keep (KeepQ.below hb)⟩
 obtain ⟨c1,c2⟩ := h1 i hi j hj
 have hl := World.block_lt_of_cell? _ _ c1
 exact ⟨(hb.cell (p := ⟨g,i * 5 + j,none⟩) hl).trans c1,(hb.frozen (p := ⟨g,i * 5 + j,none⟩) hl).trans c2⟩
theorem PArr.lt {M : Nat} {f : Nat → Bool} {w : World} {g : Nat} {l : List PtZ} (h : PArr M f w g l) (h0 : 0 < l.length) : g < w.heap.size := by
 obtain ⟨el,h1,_⟩ := h
 exact World.block_lt_of_cell? _ _ (h1 0 h0 0 (by omega)).1
theorem PArr.rowF {M : Nat} {f : Nat → Bool} {w : World} {g c n : Nat} {l : List PtZ} (h : PArr M f w g l) (hf : ∀ i,f i = false) (hn : l.length = n) (hc : n ≤ c) (hc2 : c ≤ 9223372036854775807) : PRw M w (.slice (some ⟨g,0,none⟩) n c) l := by
 subst hn
 obtain ⟨el,h1,h2⟩ := h
 refine ⟨el,⟨_,_,rfl,hc,hc2,fun _ => ⟨g,0,rfl,fun i hi j hj => by rw [Nat.zero_add]; exact (h1 i hi j hj).1⟩⟩,fun i d hd => ?_⟩
 have := h2 i d hd
 rw [hf i] at this
 exact this
theorem PArr.rowT {M : Nat} {f : Nat → Bool} {w : World} {g c n : Nat} {l : List PtZ} (h : PArr M f w g l) (hf : ∀ i,i < l.length → f i = true) (hn : l.length = n) (hc : n ≤ c) (hc2 : c ≤ 9223372036854775807) : PRr w (.slice (some ⟨g,0,none⟩) n c) l := by
 subst hn
 obtain ⟨el,h1,h2⟩ := h
 refine ⟨el,⟨_,_,rfl,hc,hc2,fun _ => ⟨g,0,rfl,fun i hi j hj => by rw [Nat.zero_add]; exact (h1 i hi j hj).1⟩⟩,fun i d hd => ?_⟩
 have := h2 i d hd
 rw [hf i (List.getElem?_eq_some_iff.1 hd).1] at this
 exact this
theorem PArr.at {M : Nat} {f : Nat → Bool} {w : World} {g : Nat} {l : List PtZ} (h : PArr M f w g l) {i : Nat} {d : PtZ} (hd : l[i]? = some d) (hf : f i = false) : ∃ p a1 n1 c1 b1 m1 d1,w.cell? ⟨g,i * 5,none⟩ = some (.int .i64 d.feat) ∧ w.cell? ⟨g,i * 5 + 1,none⟩ = some (.bool p) ∧ w.cell? ⟨g,i * 5 + 2,none⟩ = some (.slice a1 n1 c1) ∧ w.cell? ⟨g,i * 5 + 3,none⟩ = some (.slice b1 m1 d1) ∧ w.cell? ⟨g,i * 5 + 4,none⟩ = some (.bool d.ok) ∧ RatAt w (.agg #[.bool p,.slice a1 n1 c1,.slice b1 m1 d1]) d.sh M ∧ I64 d.feat ∧ (∀ j,j < 5 → w.frozen? ⟨g,i * 5 + j,none⟩ = false) := by
 obtain ⟨el,h1,h2⟩ := h
 have hi := (List.getElem?_eq_some_iff.1 hd).1
 have hm := h2 i d hd
 rw [hf] at hm
 obtain ⟨a,⟨p,ao,m,c,bo,k,e,e1,e2,e3,e4⟩,gg,i64⟩ : PtAt M w (el i) d := hm
 have k0 := (h1 i hi 0 (by omega)).1; have k1 := (h1 i hi 1 (by omega)).1; have k2 := (h1 i hi 2 (by omega)).1; have k3 := (h1 i hi 3 (by omega)).1; have k4 := (h1 i hi 4 (by omega)).1
 rw [a] at k0; rw [e1] at k1; rw [e2] at k2; rw [e3] at k3; rw [gg] at k4
 exact ⟨p,ao,m,c,bo,k,e,k0,k1,k2,k3,k4,e4,i64,fun j hj => (h1 i hi j hj).2⟩
abbrev putS (w : World) (g i : Nat) (x y z : Value) : World := ((w.setCell ⟨g,i * 5 + 1,none⟩ x).setCell ⟨g,i * 5 + 1 + 1,none⟩ y).setCell ⟨g,i * 5 + 1 + 2,none⟩ z
theorem PArr.putS {M : Nat} {f : Nat → Bool} {w : World} {g : Nat} {l : List PtZ} (h : PArr M f w g l) {i : Nat} {d : PtZ} (hd : l[i]? = some d) {p : Bool} {a b : Option Addr} {n c m e : Nat} {q : Rat} (b' : Bool)
  (hr : ∀ w',KeepQ IsLimb w w' → if b' = true then RepQ w' (.agg #[.bool p,.slice a n c,.slice b m e]) q else RatAt w' (.agg #[.bool p,.slice a n c,.slice b m e]) q M) :
  (∃ u1 u2 u3,w.cell? ⟨g,i * 5 + 1,none⟩ = some u1 ∧ w.cell? ⟨g,i * 5 + 1 + 1,none⟩ = some u2 ∧ w.cell? ⟨g,i * 5 + 1 + 2,none⟩ = some u3) ∧ w.frozen? ⟨g,i * 5 + 1,none⟩ = false ∧ w.frozen? ⟨g,i * 5 + 1 + 1,none⟩ = false ∧ w.frozen? ⟨g,i * 5 + 1 + 2,none⟩ = false ∧
  KeepQ IsLimb w (Go.Proofs.YtbbliiafkjipbaaGreatDoor.putS w g i (.bool p) (.slice a n c) (.slice b m e)) ∧
  PArr M (fun j => if j = i then b' else f j) (Go.Proofs.YtbbliiafkjipbaaGreatDoor.putS w g i (.bool p) (.slice a n c) (.slice b m e)) g (l.set i ⟨d.feat,q,d.ok⟩) := by
 obtain ⟨el,h1,h2⟩ := h
 have hi := (List.getElem?_eq_some_iff.1 hd).1
 obtain ⟨b0,⟨p0,a0,n0,c0,bb0,m0,e0,s1,s2,s3⟩,b4,b5⟩ := (h2 i d hd).base
 have k1 := h1 i hi 1 (by omega)
 have k2 := h1 i hi 2 (by omega)
 have k3 := h1 i hi 3 (by omega)
 have k2' : w.cell? ⟨g,i * 5 + 1 + 1,none⟩ = some (el i 2) ∧ w.frozen? ⟨g,i * 5 + 1 + 1,none⟩ = false := by rw [show i * 5 + 1 + 1 = i * 5 + 2 by omega]; exact k2
 have k3' : w.cell? ⟨g,i * 5 + 1 + 2,none⟩ = some (el i 3) ∧ w.frozen? ⟨g,i * 5 + 1 + 2,none⟩ = false := by rw [show i * 5 + 1 + 2 = i * 5 + 3 by omega]; exact k3
 have K : KeepQ IsLimb w (Go.Proofs.YtbbliiafkjipbaaGreatDoor.putS w g i (.bool p) (.slice a n c) (.slice b m e)) :=
  ((keepL_set k1.1 (by rw [s1]; exact limb_bool _) _).trans (keepL_set (cell_set_by (j := i * 5 + 1) k2'.1 (by omega)) (by rw [s2]; exact limb_slice _ _ _) _)).trans (keepL_set (cell_set_by (j := i * 5 + 1 + 1) (cell_set_by (j := i * 5 + 1) k3'.1 (by omega)) (by omega)) (by rw [s3]; exact limb_slice _ _ _) _)
 refine ⟨⟨_,_,_,k1.1,k2'.1,k3'.1⟩,k1.2,k2'.2,k3'.2,K,fun i' j => if i' = i then (if j = 1 then .bool p else if j = 2 then .slice a n c else if j = 3 then .slice b m e else el i j) else el i' j,fun i' hi' j hj => ?_,fun i' d' hd' => ?_⟩
 ·rw [List.length_set] at hi'
  refine ⟨?_,by simp [(h1 i' hi' j hj).2]⟩
  have hc := (h1 i' hi' j hj).1
  dsimp only
  by_cases e1 : i' = i
  ·subst e1
   rw [if_pos rfl]
   by_cases j1 : j = 1
   ·subst j1
    rw [if_pos rfl]
    exact cell_set_by (cell_set_by (World.cell?_setCell_same _ _ _ k1.1) (by omega)) (by omega)
   ·rw [if_neg j1]
    by_cases j2 : j = 2
    ·subst j2
     rw [if_pos rfl]
     refine cell_set_by ?_ (by omega)
     rw [show i' * 5 + 2 = i' * 5 + 1 + 1 by omega]
     exact World.cell?_setCell_same _ _ _ (cell_set_by (j := i' * 5 + 1) k2'.1 (by omega))
    ·rw [if_neg j2]
     by_cases j3 : j = 3
     ·subst j3
      rw [if_pos rfl]
      rw [show i' * 5 + 3 = i' * 5 + 1 + 2 by omega]
      exact World.cell?_setCell_same _ _ _ (cell_set_by (j := i' * 5 + 1 + 1) (cell_set_by (j := i' * 5 + 1) k3'.1 (by omega)) (by omega))
     ·rw [if_neg j3]
      exact cell_set_by (cell_set_by (cell_set_by hc (by omega)) (by omega)) (by omega)
  ·rw [if_neg e1]
   exact cell_set_by (cell_set_by (cell_set_by hc (by omega)) (by omega)) (by omega)
 ·by_cases e1 : i' = i
  ·subst e1
   rw [List.getElem?_set_self hi] at hd'
   cases hd'
   have hrr := hr _ K
   simp only [↓reduceIte]
   cases b' with
   | true =>
    simp only [↓reduceIte] at hrr
    rw [ptm_true]
    exact ⟨by simp [b0],⟨p,a,n,c,b,m,e,by simp,by simp,by simp,hrr⟩,by simp [b4],b5⟩
   | false =>
    simp only [Bool.false_eq_true,↓reduceIte] at hrr
    rw [ptm_false]
    exact ⟨by simp [b0],⟨p,a,n,c,b,m,e,by simp,by simp,by simp,hrr⟩,by simp [b4],b5⟩
  ·rw [List.getElem?_set_ne (fun e => e1 e.symm)] at hd'
   have := (h2 i' d' hd').keep K
   simp only [if_neg e1]
   exact this
theorem PArr.putO {M : Nat} {f : Nat → Bool} {w : World} {g : Nat} {l : List PtZ} (h : PArr M f w g l) {i : Nat} {d : PtZ} (hd : l[i]? = some d) (hf : ∀ j,f j = false) (k : Bool) :
  KeepQ IsLimb w (w.setCell ⟨g,i * 5 + 4,none⟩ (.bool k)) ∧ PArr M f (w.setCell ⟨g,i * 5 + 4,none⟩ (.bool k)) g (l.set i ⟨d.feat,d.sh,k⟩) := by
 obtain ⟨el,h1,h2⟩ := h
 have hi := (List.getElem?_eq_some_iff.1 hd).1
 have hm := h2 i d hd
 rw [hf i] at hm
 obtain ⟨b0,⟨p0,a0,n0,c0,bb0,m0,e0,s1,s2,s3,s4⟩,b4,b5⟩ : PtAt M w (el i) d := hm
 have k4 := h1 i hi 4 (by omega)
 have K : KeepQ IsLimb w (w.setCell ⟨g,i * 5 + 4,none⟩ (.bool k)) := keepL_set k4.1 (by rw [b4]; exact limb_bool _) _
 refine ⟨K,fun i' j => if i' = i then (if j = 4 then .bool k else el i j) else el i' j,fun i' hi' j hj => ?_,fun i' d' hd' => ?_⟩
 ·rw [List.length_set] at hi'
  refine ⟨?_,by simp [(h1 i' hi' j hj).2]⟩
  have hc := (h1 i' hi' j hj).1
  dsimp only
  by_cases e1 : i' = i
  ·subst e1
   rw [if_pos rfl]
   by_cases j1 : j = 4
   ·subst j1
    rw [if_pos rfl]
    exact World.cell?_setCell_same _ _ _ k4.1
   ·rw [if_neg j1]
    exact cell_set_by hc (by omega)
  ·rw [if_neg e1]
   exact cell_set_by hc (by omega)
 ·by_cases e1 : i' = i
  ·subst e1
   rw [List.getElem?_set_self hi] at hd'
   cases hd'
   simp only [↓reduceIte]
   rw [hf i']
   rw [ptm_false]
   exact ⟨by simp [b0],⟨p0,a0,n0,c0,bb0,m0,e0,by simp [s1],by simp [s2],by simp [s3],s4.keepL K⟩,by simp,b5⟩
  ·rw [List.getElem?_set_ne (fun e => e1 e.symm)] at hd'
   have := (h2 i' d' hd').keep K
   simp only [if_neg e1]
   exact this
def flat5 (el : Nat → Nat → Value) (n : Nat) : List Value := (List.range (n * 5)).map fun k => el (k / 5) (k % 5)
theorem flat5_len (el : Nat → Nat → Value) (n : Nat) : (flat5 el n).length = n * 5 := by simp [flat5]
theorem flat5_at (el : Nat → Nat → Value) (n i j : Nat) (hi : i < n) (hj : j < 5) : (flat5 el n)[i * 5 + j]? = some (el i j) := by
 have hlt : i * 5 + j < n * 5 := by omega
 simp only [flat5,List.getElem?_map,List.getElem?_range hlt,Option.map_some]
 rw [show (i * 5 + j) / 5 = i by omega,show (i * 5 + j) % 5 = j by omega]
theorem flat5_mem {el : Nat → Nat → Value} {n : Nat} {u : Value} (h : u ∈ flat5 el n) : ∃ i j,i < n ∧ j < 5 ∧ u = el i j := by
 obtain ⟨k,hk,rfl⟩ := List.mem_map.1 h
 have := List.mem_range.1 hk
 exact ⟨k / 5,k % 5,by omega,by omega,rfl⟩
theorem pt_one_cell {L : Nat} {w : World} {el : Nat → Value} {d : PtZ} (h : PtAt L w el d) {j : Nat} (hj : j < 5) : (el j).oneCell' = true ∧ ¬ IsLimb (el j) := by
 obtain ⟨a,⟨p,ao,m,c,bo,k,e,e1,e2,e3,_⟩,b,_⟩ := h
 rcases (show j = 0 ∨ j = 1 ∨ j = 2 ∨ j = 3 ∨ j = 4 by omega) with rfl | rfl | rfl | rfl | rfl
 ·rw [a]; exact ⟨rfl,limb_int _⟩
 ·rw [e1]; exact ⟨rfl,limb_bool _⟩
 ·rw [e2]; exact ⟨rfl,limb_slice _ _ _⟩
 ·rw [e3]; exact ⟨rfl,limb_slice _ _ _⟩
 ·rw [b]; exact ⟨rfl,limb_bool _⟩
theorem owns_emptyP (w : World) (B : Nat) (e : TypeId) (size : Nat) (hB : B ≤ w.heap.size) : (w.alloc (.cells #[] e)).ownsRow B e size (.slice (some ⟨w.heap.size,0,none⟩) 0 0) 0 [] :=
 ⟨by simp,Or.inr ⟨w.heap.size,0,#[],rfl,hB,heap_alloc_new w _,Nat.le_refl _,by unfold maxLen; omega,by simp,by simp⟩⟩
def ClonP (M B : Nat) (w : World) (v : Value) (l : List PtZ) : Prop := ∃ a c,v = .slice a l.length c ∧ l.length ≤ c ∧ c ≤ 9223372036854775807 ∧ (0 < l.length → ∃ g,a = some ⟨g,0,none⟩ ∧ B ≤ g ∧ PArr M (fun _ => false) w g l)
set_option maxRecDepth 20000 in
set_option maxHeartbeats 2000000 in
theorem clonep_at (v : Value) (l : List PtZ) (M : Nat) (w : World) (hv : PRw M w v l) (hn : l.length ≤ 1000000) :
  Calls Tryz.prog 54 #[v] w fun e w' => ∃ x,e = .returned x ∧ ClonP M w.heap.size w' x l ∧ Below w.heap.size w w' := by
 have q22 : ∀ (w : World) (a : Option Addr) (n c n' c' : Nat),Sem.run Tryz.prog (binOp .eql 43 (.slice a n c) (.slice none n' c')) w = .ok (.bool a.isNone) w := fun w a n c n' c' => Lib.run_eql_slice_nil w _ _ a n c n' c' Tryz.underlying43
 obtain ⟨el,⟨a,c,rfl,hnc,hc63,hcell⟩,hR⟩ := hv
 have BB : Below w.heap.size w w := Below.refl _ _
 obtain ⟨n,hln⟩ : ∃ n,l.length = n := ⟨_,rfl⟩
 have HLN : Hid (l.length = n) := hln
 rw [hln] at hn hnc hcell ⊢
 cases a with
 | none =>
  have h0 : n = 0 := by
   rcases Nat.eq_zero_or_pos n with h | h
   ·exact h
   ·obtain ⟨b,off,e,_⟩ := hcell h; cases e
  subst h0
  clear hln
  go_enter Tryz.func54,Tryz.ntmps54
  go_wp2
  go_ret
  have HC0 : Hid (ClonP M w.heap.size w (.slice none 0 0) l) := ⟨none,0,(by show Value.slice none 0 0 = Value.slice none l.length 0; rw [show l.length = 0 from HLN.out]),by have := HLN.out; omega,by omega,fun h => by have := HLN.out; omega⟩
  exact ⟨_,rfl,HC0.out,BB⟩
 | some ad =>
  obtain ⟨i0,hi,hz0,hz1,hz2⟩ := info_parts info_part
  have hnews : Hid (∀ (W : World),Below w.heap.size w W → ∀ j u,(flat5 el n)[j]? = some u → W.cell? (ad.add j) = some u) := by
   intro W hb j u hu
   have hlt : j < n * 5 := by have := (List.getElem?_eq_some_iff.1 hu).1; rw [flat5_len] at this; exact this
   obtain ⟨b,off,e,hc⟩ := hcell (by omega)
   cases e
   have h1 := hc (j / 5) (by omega) (j % 5) (by omega)
   have h2 := flat5_at el n (j / 5) (j % 5) (by omega) (by omega)
   rw [show j / 5 * 5 + j % 5 = j by omega] at h2
   rw [h2] at hu
   cases hu
   rw [show off + j / 5 * 5 + j % 5 = off + j by omega] at h1
   rw [add_off]
   exact (hb.cell (World.block_lt_of_cell? _ _ h1)).trans h1
  have h1c : Hid (∀ u ∈ flat5 el n,u.oneCell' = true) := fun u hu => by
   obtain ⟨i,j,hi,hj,rfl⟩ := flat5_mem hu
   exact (pt_one_cell (hR i _ (List.getElem?_eq_getElem (by omega))) hj).1
  have HR : Hid (∀ i d,l[i]? = some d → PtAt M w (el i) d) := hR
  clear hR hcell hln
  go_enter Tryz.func54,Tryz.ntmps54
  go_wp2_with (at_builtin; refine wpList_append_own _ rfl _ _ 43 rfl w.heap.size 52 i0 (.agg #[.int .i64 0,.bool false,.slice none 0 0,.slice none 0 0,.bool false]) 5 72 Tryz.underlying43 hi hz0 hz1 hz2 rfl (by omega) _ 0 [] rfl (owns_emptyP _ _ _ _ (Nat.le_refl _)) ad n c (flat5 el n) rfl (flat5_len _ _) (hnews.out _ ((Below.refl _ _).alloc (Nat.le_refl _) _)) h1c.out (by unfold maxLen; omega) (by omega) (by simp) ?_)
  intro v' w' ho hg _
  have b1 : Below w.heap.size w (w.alloc (.cells #[] 52)) := (Below.refl _ _).alloc (Nat.le_refl _) _
  have b2 : Below w.heap.size w w' := b1.grown hg (by simp) (fun k e => by cases e; exact Nat.le_refl _)
  have HM : Hid (ClonP M w.heap.size w' v' l) := by
   rcases ho.2 with ⟨rfl,rfl⟩ | ⟨g,cap,cur,rfl,hb,hgx,hnc2,hcm,rest⟩
   ·exact ⟨none,0,by simp only [HLN.out],by have := HLN.out; omega,by omega,fun h => by have := HLN.out; omega⟩
   ·refine ⟨_,cap,by simp only [HLN.out],by have := HLN.out; omega,by unfold maxLen at hcm; omega,fun _ => ⟨g,rfl,hb,el,fun i hi j hj => ⟨owns_cell ho (flat5_at el n i j (by have := HLN.out; omega) hj),ho.frozenAt _⟩,fun i d hd => ?_⟩⟩
    exact (ptEl M).keep (HR.out i d hd) (KeepQ.below b2)
  clear ho hg hnews h1c HR
  go_wp2
  go_ret
  exact ⟨_,rfl,HM.out,b2⟩

structure PlaceI (q : Nat → Int) (n : Nat) (x : Int) (i : Nat) : Prop where
 le : i ≤ n
 less : ∀ k,k < i → q k < x
 rest : ∀ k,i ≤ k → k < n → x ≤ q k
def ftZ (l : List PtZ) (i : Nat) : Int := (l.getD i ⟨0,0,false⟩).feat
theorem ftZ_at {l : List PtZ} {i : Nat} {d : PtZ} (h : l[i]? = some d) : d.feat = ftZ l i := by
 unfold ftZ
 rw [List.getD_eq_getElem?_getD,h]
 rfl
theorem cmpP_lt (x y : Int) : decide (cmpI x y < 0) = decide (x < y) := by
 unfold cmpI
 by_cases h : x < y
 ·simp [h]
 ·by_cases g : y < x <;> simp [h,g]
theorem cmpP_eq (x y : Int) : decide (cmpI x y = 0) = decide (x = y) := by
 unfold cmpI
 by_cases h : x < y
 ·simp [h]; omega
 ·by_cases g : y < x
  ·simp [h,g]; omega
  ·simp [h,g]; omega
set_option maxRecDepth 20000 in
set_option maxHeartbeats 1000000 in
theorem closp_at (f1 f2 : Int) (p1 p2 k1 k2 : Bool) (a1 b1 a2 b2 : Option Addr) (n1 c1 m1 d1 n2 c2 m2 d2 : Nat) (w : World) :
  Calls Tryz.prog 84 #[.agg #[.int .i64 f1,.bool p1,.slice a1 n1 c1,.slice b1 m1 d1,.bool k1],.agg #[.int .i64 f2,.bool p2,.slice a2 n2 c2,.slice b2 m2 d2,.bool k2]] w fun e w' => e = .returned (.int .i64 (cmpI f1 f2)) ∧ Below w.heap.size w w' := by
 obtain ⟨W1,hW1,hS1,hL1,V1⟩ := V5.lay w 52 (.int .i64 f1) (.bool p1) (.slice a1 n1 c1) (.slice b1 m1 d1) (.bool k1)
 obtain ⟨W2,hW2,hS2,hL2,V2⟩ := V5.lay W1 52 (.int .i64 f2) (.bool p2) (.slice a2 n2 c2) (.slice b2 m2 d2) (.bool k2)
 have V1' := V1.below hL2
 have BB := hL1.trans (hL2.mono hL1.size)
 rw [hS1] at V2
 have x1 := V1'.c0
 have x2 := V2.c0
 rw [hW2,hW1] at x1 x2 BB
 clear V1 V2 V1' hL1 hL2
 go_enter Tryz.func84,Tryz.ntmps84
 go_wp2_with fail
 refine (compare_int f1 f2 _).mono ?_
 rintro e wx ⟨rfl,hwx⟩
 replace hwx := hwx.symm
 subst hwx
 go_wp2
 go_ret
 exact ⟨rfl,BB⟩
set_option maxRecDepth 100000 in
set_option maxHeartbeats 8000000 in
theorem searchp_at (v : Value) (l : List PtZ) (L : Nat) (fx : Int) (px kx : Bool) (ax yx : Option Addr) (nx cx mx dx : Nat) (w : World) (hv : PRw L w v l) (hll : l.length ≤ 1000000) (hs : ∀ i j,i < j → j < l.length → ftZ l i < ftZ l j) :
  Calls Tryz.prog 83 #[v,.agg #[.int .i64 fx,.bool px,.slice ax nx cx,.slice yx mx dx,.bool kx],.func (.func 84) #[] #[]] w fun e w' => ∃ i,PlaceI (ftZ l) l.length fx i ∧ e = .returned (.tuple #[.int .i64 (i : Int),.bool (decide (i < l.length ∧ ftZ l i = fx))]) ∧ Below w.heap.size w w' := by
 obtain ⟨av,cv,rfl,hlc,hl63⟩ := GRow.open hv
 obtain ⟨n,hn⟩ : ∃ n,l.length = n := ⟨_,rfl⟩
 have HN : Hid (l.length = n) := hn
 have HV0 : Hid (PRw L w (.slice av l.length cv) l) := hv
 rw [hn] at hlc hll HV0 ⊢
 obtain ⟨q,hq⟩ : ∃ q,ftZ l = q := ⟨_,rfl⟩
 have HQ : Hid (ftZ l = q) := hq
 rw [hq] at hs ⊢
 have HS : Hid (∀ i j,i < j → j < n → q i < q j) := fun i j h1 h2 => hs i j h1 (by omega)
 clear hv hs hn hq
 have BB : Below w.heap.size w w := Below.refl _ _
 obtain ⟨Wb0,hW0,hS0,hL0,VX⟩ := V5.lay w 52 (.int .i64 fx) (.bool px) (.slice ax nx cx) (.slice yx mx dx) (.bool kx)
 replace BB := BB.xm hL0
 clear hL0
 go_enter Tryz.func83,Tryz.ntmps83
 go_wp2_with fail
 rw [← hW0]
 clear hW0 hS0
 go_wp2
 go_loopw [9,10] (fun vi vj wr => ∃ i j : Nat,i ≤ j ∧ j ≤ n ∧ vi = .int .i64 (i : Int) ∧ vj = .int .i64 (j : Int) ∧ Hid (∀ k,k < i → q k < fx) ∧ Hid (∀ k,j ≤ k → k < n → fx ≤ q k) ∧ V5 wr w.heap.size (.int .i64 fx) (.bool px) (.slice ax nx cx) (.slice yx mx dx) (.bool kx) ∧ Below w.heap.size w wr) (fun vi vj _ => (intOf vj - intOf vi).toNat)
 case atStart => exact ⟨0,n,by omega,by omega,rfl,rfl,(fun k hk => by omega),(fun k h1 h2 => by omega),VX,BB⟩
 case round =>
  clear VX BB
  obtain ⟨i,j,hij,hjn,rfl,rfl,HL1,HR1,VX,BB⟩ := hrel
  by_cases hlt : i < j
  ·have g1 : (i : Int) < (j : Int) := by omega
   obtain ⟨h,hh⟩ : ∃ h,h = (i + j) / 2 := ⟨_,rfl⟩
   have h1 : i ≤ h := by omega
   have h2 : h < j := by omega
   have h3 : h < n := by omega
   have f0 : IntKind.i64.wrap ((i : Int) + (j : Int)) = (i : Int) + (j : Int) := by rw [IntKind.wrap_i64]; omega
   have f1 : IntKind.u64.wrap ((i : Int) + (j : Int)) = (i : Int) + (j : Int) := by rw [IntKind.wrap_u64]; omega
   have f2 : ((i : Int) + (j : Int)) / 2 = (h : Int) := by omega
   have f2b : ((i : Int) + (j : Int)) >>> 1 = (h : Int) := by rw [Int.shiftRight_eq_div_pow]; omega
   have f3 : IntKind.u64.wrap (h : Int) = (h : Int) := by rw [IntKind.wrap_u64]; omega
   have f4 : IntKind.i64.wrap (h : Int) = (h : Int) := by rw [IntKind.wrap_i64]; omega
   have f5 : (0 : Int) ≤ (h : Int) := by omega
   have f6 : (h : Int) < (n : Int) := by omega
   have f7 : IntKind.i64.wrap ((h : Int) + 1) = (h : Int) + 1 := by rw [IntKind.wrap_i64]; omega
   obtain ⟨d,hd⟩ : ∃ d,l[h]? = some d := ⟨_,List.getElem?_eq_getElem (by have := HN.out; omega)⟩
   have HFD : Hid (d.feat = q h) := by show d.feat = q h; rw [ftZ_at hd,HQ.out]
   obtain ⟨b4,o4,c4,p4,a4,m4,d4,y4,k4,e4,hv4,hc4,X0,X1,X2,X3,X4,r4,i4⟩ := (HV0.out).at hd
   rw [HN.out] at hv4
   cases hv4
   rw [HFD.out] at X0
   have K0 : Hid (Cel10 w b4 (o4 + h * 5) (.int .i64 (q h))) := ⟨X0⟩
   have K1 : Hid (Cel10 w b4 (o4 + h * 5 + 1) (.bool p4)) := ⟨X1⟩
   have K2 : Hid (Cel10 w b4 (o4 + h * 5 + 2) (.slice a4 m4 d4)) := ⟨X2⟩
   have K3 : Hid (Cel10 w b4 (o4 + h * 5 + 3) (.slice y4 k4 e4)) := ⟨X3⟩
   have K4 : Hid (Cel10 w b4 (o4 + h * 5 + 4) (.bool d.ok)) := ⟨X4⟩
   clear X0 X1 X2 X3 X4 r4 i4 hd hc4
   clear hh
   go_wp2
   have hDr : Below wr.heap.size wr wr.drew := (Below.refl _ _).drew
   replace VX := VX.below hDr
   replace BB := BB.xm hDr
   clear hDr
   refine wp_region_held_drew (S := (fun w' => w'.cell? ⟨b4,o4 + h * 5,none⟩ = some (.int .i64 (q h)) ∧ w'.cell? ⟨b4,o4 + h * 5 + 1,none⟩ = some (.bool p4) ∧ w'.cell? ⟨b4,o4 + h * 5 + 2,none⟩ = some (.slice a4 m4 d4) ∧ w'.cell? ⟨b4,o4 + h * 5 + 3,none⟩ = some (.slice y4 k4 e4) ∧ w'.cell? ⟨b4,o4 + h * 5 + 4,none⟩ = some (.bool d.ok) ∧ w'.cell? ⟨w.heap.size,0,none⟩ = some (.int .i64 fx) ∧ w'.cell? ⟨w.heap.size,1,none⟩ = some (.bool px) ∧ w'.cell? ⟨w.heap.size,2,none⟩ = some (.slice ax nx cx) ∧ w'.cell? ⟨w.heap.size,3,none⟩ = some (.slice yx mx dx) ∧ w'.cell? ⟨w.heap.size,4,none⟩ = some (.bool kx))) (by kernel_rfl) ?_ (fun hHeld => ?_)
   ·exact ⟨(K0.out.below BB).cell,(K1.out.below BB).cell,(K2.out.below BB).cell,(K3.out.below BB).cell,(K4.out.below BB).cell,VX.c0,VX.c1,VX.c2,VX.c3,VX.c4⟩
   generalize wr.drew = W21 at *
   refine xV 0 (h := ?_)
   refine xV 1 (h := ?_)
   refine xV 2 (h := ?_)
   refine xV 3 (h := ?_)
   refine xV 4 (h := ?_)
   refine xV 5 (h := ?_)
   refine xR [6] (h := ?_)
   refine xN (h := fun K hK => ?_)
   go_simp
   refine (closp_at (q h) fx _ _ _ _ _ _ _ _ _ _ _ _ _ _ _ _ _).mono ?_
   rintro e w21 ⟨rfl,b21⟩
   have HC : Hid (decide (cmpI (q h) fx < 0) = decide (q h < fx)) := cmpP_lt _ _
   obtain ⟨cq,hcq⟩ : ∃ cq,cmpI (q h) fx = cq := ⟨_,rfl⟩
   rw [hcq] at HC ⊢
   clear hcq
   go_wp2_with fail
   replace VX := VX.below b21
   replace BB := BB.xm b21
   clear b21
   refine hK.out _ _ ?_ (fun hH1 => ?_)
   ·exact ⟨(K0.out.below BB).cell,(K1.out.below BB).cell,(K2.out.below BB).cell,(K3.out.below BB).cell,(K4.out.below BB).cell,VX.c0,VX.c1,VX.c2,VX.c3,VX.c4⟩
   clear hK K hHeld
   (try simp only [Act.put,xL4,xL5,xL6])
   refine xV 7 (h := ?_)
   refine wpAnyH_done (by kernel_rfl) ?_ _
   clear hH1
   by_cases hc : cq < 0
   ·have HLT : q h < fx := of_decide_eq_true (by rw [← HC.out]; exact decide_eq_true hc)
    have HL2 : Hid (∀ k,k < h + 1 → q k < fx) := fun k hk => by
     by_cases e9 : k = h
     ·subst e9; exact HLT
     ·have := HS.out k h (by omega) h3
      omega
    have g2 : decide (cq < 0) = true := decide_eq_true hc
    clear HLT HC
    go_wp2
    go_roundw
    case rel => exact ⟨h + 1,j,by omega,hjn,by go_num,rfl,HL2,HR1,VX,BB⟩
    case measure => (simp [intOf] <;> omega)
   ·have HLT : ¬ q h < fx := of_decide_eq_false (by rw [← HC.out]; exact decide_eq_false hc)
    have HR2 : Hid (∀ k,h ≤ k → k < n → fx ≤ q k) := fun k hk hk2 => by
     by_cases e9 : k = h
     ·subst e9; omega
     ·have := HS.out h k (by omega) hk2
      omega
    have g2 : decide (cq < 0) = false := decide_eq_false hc
    clear HLT HC
    go_wp2
    go_roundw
    case rel => exact ⟨i,h,h1,by omega,rfl,rfl,HL1,HR2,VX,BB⟩
    case measure => (simp [intOf] <;> omega)
  ·obtain rfl : i = j := by omega
   have g1 : ¬ (i : Int) < (i : Int) := by omega
   have HP : Hid (PlaceI q n fx i) := ⟨hjn,HL1.out,HR1.out⟩
   by_cases hin : i < n
   ·have f5 : (0 : Int) ≤ (i : Int) := by omega
    have f6 : (i : Int) < (n : Int) := by omega
    obtain ⟨d,hd⟩ : ∃ d,l[i]? = some d := ⟨_,List.getElem?_eq_getElem (by have := HN.out; omega)⟩
    have HFD : Hid (d.feat = q i) := by show d.feat = q i; rw [ftZ_at hd,HQ.out]
    obtain ⟨b4,o4,c4,p4,a4,m4,d4,y4,k4,e4,hv4,hc4,X0,X1,X2,X3,X4,r4,i4⟩ := (HV0.out).at hd
    rw [HN.out] at hv4
    cases hv4
    rw [HFD.out] at X0
    have K0 : Hid (Cel10 w b4 (o4 + i * 5) (.int .i64 (q i))) := ⟨X0⟩
    have K1 : Hid (Cel10 w b4 (o4 + i * 5 + 1) (.bool p4)) := ⟨X1⟩
    have K2 : Hid (Cel10 w b4 (o4 + i * 5 + 2) (.slice a4 m4 d4)) := ⟨X2⟩
    have K3 : Hid (Cel10 w b4 (o4 + i * 5 + 3) (.slice y4 k4 e4)) := ⟨X3⟩
    have K4 : Hid (Cel10 w b4 (o4 + i * 5 + 4) (.bool d.ok)) := ⟨X4⟩
    clear X0 X1 X2 X3 X4 r4 i4 hd hc4
    go_wp2
    have hDr : Below wr.heap.size wr wr.drew := (Below.refl _ _).drew
    replace VX := VX.below hDr
    replace BB := BB.xm hDr
    clear hDr
    refine wp_region_held_drew (S := (fun w' => w'.cell? ⟨b4,o4 + i * 5,none⟩ = some (.int .i64 (q i)) ∧ w'.cell? ⟨b4,o4 + i * 5 + 1,none⟩ = some (.bool p4) ∧ w'.cell? ⟨b4,o4 + i * 5 + 2,none⟩ = some (.slice a4 m4 d4) ∧ w'.cell? ⟨b4,o4 + i * 5 + 3,none⟩ = some (.slice y4 k4 e4) ∧ w'.cell? ⟨b4,o4 + i * 5 + 4,none⟩ = some (.bool d.ok) ∧ w'.cell? ⟨w.heap.size,0,none⟩ = some (.int .i64 fx) ∧ w'.cell? ⟨w.heap.size,1,none⟩ = some (.bool px) ∧ w'.cell? ⟨w.heap.size,2,none⟩ = some (.slice ax nx cx) ∧ w'.cell? ⟨w.heap.size,3,none⟩ = some (.slice yx mx dx) ∧ w'.cell? ⟨w.heap.size,4,none⟩ = some (.bool kx))) (by kernel_rfl) ?_ (fun hHeld => ?_)
    ·exact ⟨(K0.out.below BB).cell,(K1.out.below BB).cell,(K2.out.below BB).cell,(K3.out.below BB).cell,(K4.out.below BB).cell,VX.c0,VX.c1,VX.c2,VX.c3,VX.c4⟩
    generalize wr.drew = W41 at *
    refine xV 0 (h := ?_)
    refine xV 1 (h := ?_)
    refine xV 2 (h := ?_)
    refine xV 3 (h := ?_)
    refine xV 4 (h := ?_)
    refine xV 5 (h := ?_)
    refine xV 6 (h := ?_)
    refine xV 7 (h := ?_)
    refine xV 8 (h := ?_)
    refine xV 9 (h := ?_)
    refine xV 10 (h := ?_)
    refine xR [11] (h := ?_)
    refine xN (h := fun K hK => ?_)
    go_simp
    refine (closp_at (q i) fx _ _ _ _ _ _ _ _ _ _ _ _ _ _ _ _ _).mono ?_
    rintro e w41 ⟨rfl,b41⟩
    have HC : Hid (decide (cmpI (q i) fx = 0) = decide (q i = fx)) := cmpP_eq _ _
    obtain ⟨cq,hcq⟩ : ∃ cq,cmpI (q i) fx = cq := ⟨_,rfl⟩
    rw [hcq] at HC ⊢
    clear hcq
    go_wp2_with fail
    replace VX := VX.below b41
    replace BB := BB.xm b41
    clear b41
    refine hK.out _ _ ?_ (fun hH1 => ?_)
    ·exact ⟨(K0.out.below BB).cell,(K1.out.below BB).cell,(K2.out.below BB).cell,(K3.out.below BB).cell,(K4.out.below BB).cell,VX.c0,VX.c1,VX.c2,VX.c3,VX.c4⟩
    clear hK K hHeld
    (try simp only [Act.put,xL4,xL5,xL6])
    refine xV 12 (h := ?_)
    refine xV 13 (h := ?_)
    refine xV 14 (h := ?_)
    refine xV 15 (h := ?_)
    refine wpAnyH_done (by kernel_rfl) ?_ _
    clear hH1
    have HD : Hid (decide (cq = 0) = decide (i < n ∧ q i = fx)) := by
     show decide _ = decide _
     rw [HC.out]
     simp [hin]
    clear HC
    go_wp2
    go_ret2
    exact ⟨i,HP.out,by rw [← HD.out]; rfl,BB⟩
   ·have f6 : ¬ (i : Int) < (n : Int) := by omega
    have HD : Hid (decide (i < n ∧ q i = fx) = false) := decide_eq_false (fun h => hin h.1)
    go_wp2
    have hDr : Below wr.heap.size wr wr.drew := (Below.refl _ _).drew
    replace VX := VX.below hDr
    replace BB := BB.xm hDr
    clear hDr
    refine wp_region_held_drew (S := (fun w' => True)) (by kernel_rfl) ?_ (fun hHeld => ?_)
    ·trivial
    generalize wr.drew = W41 at *
    refine xV 0 (h := ?_)
    refine xV 1 (h := ?_)
    refine xV 2 (h := ?_)
    refine xV 3 (h := ?_)
    refine xV 4 (h := ?_)
    refine xT 5 (v := undef) (hy := Or.inr ⟨by rfl,rfl⟩) (h := ?_)
    (try simp only [Act.put,xL4,xL5,xL6])
    refine xT 6 (v := undef) (hy := Or.inr ⟨by rfl,rfl⟩) (h := ?_)
    (try simp only [Act.put,xL4,xL5,xL6])
    refine xT 7 (v := undef) (hy := Or.inr ⟨by rfl,rfl⟩) (h := ?_)
    (try simp only [Act.put,xL4,xL5,xL6])
    refine xT 8 (v := undef) (hy := Or.inr ⟨by rfl,rfl⟩) (h := ?_)
    (try simp only [Act.put,xL4,xL5,xL6])
    refine xT 9 (v := undef) (hy := Or.inr ⟨by rfl,rfl⟩) (h := ?_)
    (try simp only [Act.put,xL4,xL5,xL6])
    refine xT 10 (v := undef) (hy := Or.inr ⟨by rfl,rfl⟩) (h := ?_)
    (try simp only [Act.put,xL4,xL5,xL6])
    refine xT 11 (v := undef) (hy := Or.inr ⟨by rfl,rfl⟩) (h := ?_)
    (try simp only [Act.put,xL4,xL5,xL6])
    refine xT 12 (v := undef) (hy := Or.inr ⟨by rfl,rfl⟩) (h := ?_)
    (try simp only [Act.put,xL4,xL5,xL6])
    refine xV 13 (h := ?_)
    refine xV 14 (h := ?_)
    refine xV 15 (h := ?_)
    refine wpAnyH_done (by kernel_rfl) ?_ _
    clear hHeld
    go_wp2
    go_ret2
    exact ⟨i,HP.out,by rw [HD.out]; rfl,BB⟩

theorem ft_map {l : List Pt} {i : Nat} {a : Pt} (h : l[i]? = some a) : ftZ (l.map Pt.z) i = (a.feat : Int) := by
 have : (l.map Pt.z)[i]? = some a.z := by rw [List.getElem?_map,h]; rfl
 exact (ftZ_at this).symm
theorem srt_ft {l : List Pt} (h : SrtP l) : ∀ i j,i < j → j < (l.map Pt.z).length → ftZ (l.map Pt.z) i < ftZ (l.map Pt.z) j := by
 intro i j hij hj
 rw [List.length_map] at hj
 have hi : i < l.length := by omega
 rw [ft_map (List.getElem?_eq_getElem hi),ft_map (List.getElem?_eq_getElem hj)]
 have := List.pairwise_iff_getElem.1 h i j hi hj hij
 omega
theorem insP_has {p a : Pt} : ∀ {l : List Pt} {i : Nat},l[i]? = some a → a.feat = p.feat → (∀ k b,k < i → l[k]? = some b → b.feat < p.feat) → insP l p = l.set i (a.put p)
 | [],i,h,_,_ => by simp at h
 | b :: l,0,h,e,_ => by
  have hb : b = a := by simpa using h
  subst hb
  unfold insP
  rw [if_pos e]
  rfl
 | b :: l,i + 1,h,e,hk => by
  have h1 := hk 0 b (by omega) rfl
  unfold insP
  rw [if_neg (by omega),if_neg (by omega),insP_has (l := l) (i := i) (by simpa using h) e (fun k c hkk hc => hk (k + 1) c (by omega) (by simpa using hc))]
  rfl
theorem insP_new {p : Pt} : ∀ {l : List Pt} {i : Nat},i ≤ l.length → (∀ k b,k < i → l[k]? = some b → b.feat < p.feat) → (∀ k b,i ≤ k → l[k]? = some b → p.feat < b.feat) → insP l p = l.take i ++ p :: l.drop i
 | [],i,h,_,_ => by
  have : i = 0 := by simpa using h
  subst this
  rfl
 | b :: l,0,_,_,hk => by
  have h1 := hk 0 b (by omega) rfl
  unfold insP
  rw [if_neg (by omega),if_pos h1]
  rfl
 | b :: l,i + 1,h,hl,hk => by
  have h1 := hl 0 b (by omega) rfl
  unfold insP
  rw [if_neg (by omega),if_neg (by omega),insP_new (l := l) (i := i) (by simpa using h) (fun k c hkk hc => hl (k + 1) c (by omega) (by simpa using hc)) (fun k c hkk hc => hk (k + 1) c (by omega) (by simpa using hc))]
  rfl
theorem insP_ne (l : List Pt) (p : Pt) : insP l p ≠ [] := by
 cases l with
 | nil => simp [insP]
 | cons a l =>
  unfold insP
  by_cases e : a.feat = p.feat
  ·rw [if_pos e]; simp
  ·rw [if_neg e]
   by_cases e2 : p.feat < a.feat
   ·rw [if_pos e2]; simp
   ·rw [if_neg e2]; simp
structure BwP (B : Nat) (w0 w : World) : Prop where
 out : Below B w0 w
 le : B ≤ w.heap.size
theorem BwP.below {B : Nat} {w0 w w' : World} (h : BwP B w0 w) (hb : Below w.heap.size w w') : BwP B w0 w' := ⟨h.out.trans (hb.mono h.le),Nat.le_trans h.le hb.size⟩
theorem BwP.row {B : Nat} {w0 w : World} {g : Nat} {cs : Array Value} (h : BwP B w0 w) (hg : B ≤ g := by first | exact Nat.le_refl _ | omega) : BwP B w0 (w.setRow g cs) := ⟨below_setRow h.out hg _,by simpa [World.setRow] using h.le⟩
structure RawP (w : World) (g : Nat) (us : List Value) : Prop where
 heap : w.heap[g]? = some (.cells us.toArray 52 (0,0))
 pur : ∀ u ∈ us,¬ IsLimb u
theorem RawP.lt {w : World} {g : Nat} {us : List Value} (h : RawP w g us) : g < w.heap.size := (Array.getElem?_eq_some_iff.1 h.heap).1
theorem RawP.below {w w' : World} {g : Nat} {us : List Value} (h : RawP w g us) (hb : Below w.heap.size w w') : RawP w' g us := ⟨(hb.block g h.lt).trans h.heap,h.pur⟩
theorem RawP.splice {w : World} {g o : Nat} {us cs : List Value} (h : RawP w g us) (hc : ∀ u ∈ cs,¬ IsLimb u) : RawP (w.setRow g (spl10 us o cs).toArray) g (spl10 us o cs) ∧ KeepQ IsLimb w (w.setRow g (spl10 us o cs).toArray) := by
 have hp : PureB IsLimb w g := pure_of_cells h.heap (fun u hu => h.pur u (by simpa using hu))
 refine ⟨⟨setRow_heap w g us.toArray _ _ _ h.heap,fun u hu => ?_⟩,?_⟩
 ·rcases spl10_mem hu with h1 | h1
  ·exact h.pur u h1
  ·exact hc u h1
 ·exact (pure_splice (cur := us.toArray) (o := o) (cs := cs) h.heap hp hc).2
theorem RawP.cell {w : World} {g : Nat} {us : List Value} (h : RawP w g us) {j : Nat} {u : Value} (hj : us[j]? = some u) : w.cell? ⟨g,j,none⟩ = some u := by
 rw [cell_of_row _ _ _ _ _ _ h.heap]
 simpa using hj
theorem laidp_list {us us0 : List Value} {el : Nat → Nat → Value} {n p : Nat} (h0 : us0.length = (n + 1) * 5) (hl : us.length = n * 5) (hp : p ≤ n) (h3 : ∀ i,i < n → ∀ j,j < 5 → us[i * 5 + j]? = some (el i j)) (ys : List Value) (hy : ys.length = 5) :
  ∀ i,i < n + 1 → ∀ j,j < 5 → (spl10 (spl10 (spl10 us0 0 (us.take (p * 5))) (p * 5) ys) ((p + 1) * 5) (us.drop (p * 5)))[i * 5 + j]? = some (if i < p then el i j else if i = p then ys.getD j undef else el (i - 1) j) := by
 intro i hi j hj
 have hA : (us.take (p * 5)).length = p * 5 := by rw [List.length_take,hl]; omega
 have hD : (us.drop (p * 5)).length = (n - p) * 5 := by rw [List.length_drop,hl]; omega
 have h1 : (spl10 us0 0 (us.take (p * 5))).length = (n + 1) * 5 := by rw [spl10_len (by rw [hA,h0]; omega),h0]
 have h2 : (spl10 (spl10 us0 0 (us.take (p * 5))) (p * 5) ys).length = (n + 1) * 5 := by rw [spl10_len (by rw [hy,h1]; omega),h1]
 rw [spl10_at (by rw [hD,h2]; omega)]
 by_cases c1 : i < p
 ·rw [if_pos (by omega),if_pos c1,spl10_at (by rw [hy,h1]; omega),if_pos (by omega),spl10_at (by rw [hA,h0]; omega),if_neg (by omega),if_pos (by rw [hA]; omega),Nat.sub_zero,List.getElem?_take,if_pos (by omega)]
  exact h3 i (by omega) j hj
 ·rw [if_neg c1]
  by_cases c2 : i = p
  ·subst c2
   rw [if_pos (by omega),if_pos rfl,spl10_at (by rw [hy,h1]; omega),if_neg (by omega),if_pos (by rw [hy]; omega),show i * 5 + j - i * 5 = j by omega,List.getD_eq_getElem?_getD,List.getElem?_eq_getElem (by omega)]
   rfl
  ·rw [if_neg (by omega),if_neg c2,if_pos (by rw [hD]; omega),List.getElem?_drop]
   have := h3 (i - 1) (by omega) j hj
   rw [show p * 5 + (i * 5 + j - (p + 1) * 5) = (i - 1) * 5 + j by omega]
   exact this
def NewV (B : Nat) (v : Value) : Prop := ∀ g o n c,v = .slice (some ⟨g,o,none⟩) n c → B ≤ g
theorem made_parts (n : Nat) : ∀ u ∈ (madeCells (Value.agg #[.int .i64 0,.bool false,.slice none 0 0,.slice none 0 0,.bool false]).cells (n * 5)).toList,¬ IsLimb u := by
 intro u hu
 obtain ⟨k,hk⟩ := List.getElem?_of_mem hu
 have hlt : k < n * 5 := by
  have := (List.getElem?_eq_some_iff.1 hk).1
  simpa [madeCells] using this
 simp [madeCells,Value.cells,hlt] at hk
 rcases (show k % 5 = 0 ∨ k % 5 = 1 ∨ k % 5 = 2 ∨ k % 5 = 3 ∨ k % 5 = 4 by omega) with e | e | e | e | e <;> (rw [e] at hk; simp at hk; subst hk; first | exact limb_int _ | exact limb_bool _ | exact limb_slice _ _ _)
theorem rawp_made {w : World} {B g n : Nat} (h : w.ownsRow B 52 5 (.slice (some ⟨g,0,none⟩) n n) n (madeCells (Value.agg #[.int .i64 0,.bool false,.slice none 0 0,.slice none 0 0,.bool false]).cells (n * 5)).toList) : RawP w g (madeCells (Value.agg #[.int .i64 0,.bool false,.slice none 0 0,.slice none 0 0,.bool false]).cells (n * 5)).toList := by
 rcases h.2 with ⟨e,_⟩ | ⟨g2,c2,cur,e,_,hgh,_,_,hcs,ht⟩
 ·cases e
 ·cases e
  have : cur.toList = (madeCells (Value.agg #[.int .i64 0,.bool false,.slice none 0 0,.slice none 0 0,.bool false]).cells (n * 5)).toList := by
   rw [← ht,List.take_of_length_le (by simp [hcs])]
  refine ⟨?_,made_parts n⟩
  rw [← this]
  simpa using hgh
set_option maxRecDepth 100000 in
set_option maxHeartbeats 8000000 in
theorem laidp_at (v : Value) (l : List Pt) (p : Pt) (M : Nat) (px : Bool) (ax yx : Option Addr) (nx cx mx dx : Nat) (w : World) (hv : PRw M w v (l.map Pt.z)) (hnil : l = [] → v = .slice none 0 0) (hs : SrtP l) (hx : RatAt w (.agg #[.bool px,.slice ax nx cx,.slice yx mx dx]) p.sh M) (hq : ∀ d ∈ l,qsz (d.sh * p.sh) ≤ M) (hll : l.length ≤ 1000) (hM1 : 1 ≤ M) (hM : M ≤ 100000) (h64 : I64 (p.feat : Int)) (ht : Tab w) :
  Calls Tryz.prog 52 #[v,.agg #[.int .i64 (p.feat : Int),.bool px,.slice ax nx cx,.slice yx mx dx,.bool p.ok]] w fun e w' => ∃ u,e = .returned u ∧ PRw M w' u ((insP l p).map Pt.z) ∧ NewV w.heap.size u ∧ Below w.heap.size w w' := by
 obtain ⟨av,cv,rfl,hlc,hl63⟩ := GRow.open hv
 obtain ⟨n,hn⟩ : ∃ n,l.length = n := ⟨_,rfl⟩
 have HN : Hid (l.length = n) := hn
 have HMN : Hid ((l.map Pt.z).length = n) := by show (l.map Pt.z).length = n; rw [List.length_map]; exact hn
 rw [HMN.out] at hlc hv hnil ⊢
 have HV0 : Hid (PRw M w (.slice av n cv) (l.map Pt.z)) := hv
 have HX0 : Hid (RatAt w (.agg #[.bool px,.slice ax nx cx,.slice yx mx dx]) p.sh M) := hx
 have HT0 : Hid (Tab w) := ht
 have HNIL : Hid (n = 0 → av = none ∧ cv = 0) := fun h => by
  have h1 := hnil (by rw [← HN.out] at h; exact List.eq_nil_of_length_eq_zero h)
  cases h1
  exact ⟨rfl,rfl⟩
 rw [hn] at hll
 clear hv hx ht hn hnil
 have BB : Below w.heap.size w w := Below.refl _ _
 obtain ⟨W1,hW1,hS1,hL1,VP⟩ := V5.lay w 52 (.int .i64 (p.feat : Int)) (.bool px) (.slice ax nx cx) (.slice yx mx dx) (.bool p.ok)
 replace BB := BB.xm hL1
 clear hL1
 go_enter Tryz.func52,Tryz.ntmps52
 obtain ⟨v0,v1,v2,v3,v4,vs⟩ := id VP
 rw [hW1] at v0 v1 v2 v3 v4
 clear vs
 go_wp2_with fail
 clear v0 v1 v2 v3 v4
 rw [← hW1]
 clear hW1 hS1
 refine (searchp_at _ (l.map Pt.z) M (p.feat : Int) px p.ok ax yx nx cx mx dx _ (HV0.out.below BB) (by have := HMN.out; omega) (srt_ft hs)).mono ?_
 rintro e w1 ⟨i,HP,rfl,b1⟩
 have HPP : Hid (PlaceI (ftZ (l.map Pt.z)) (l.map Pt.z).length (p.feat : Int) i) := HP
 have hin : i ≤ n := by have h1 := HP.le; rw [HMN.out] at h1; exact h1
 have HLS : Hid (∀ k b,k < i → l[k]? = some b → b.feat < p.feat) := fun k b hk hb => by have h1 := HPP.out.less k hk; rw [ft_map hb] at h1; omega
 clear HP
 replace VP := VP.below b1
 replace BB := BB.xm b1
 clear b1
 obtain ⟨bb,hbb⟩ : ∃ bb,decide (i < (l.map Pt.z).length ∧ ftZ (l.map Pt.z) i = (p.feat : Int)) = bb := ⟨_,rfl⟩
 have HBB : Hid (decide (i < (l.map Pt.z).length ∧ ftZ (l.map Pt.z) i = (p.feat : Int)) = bb) := hbb
 rw [hbb]
 clear hbb
 cases bb
 ·have HGT : Hid (∀ k b,i ≤ k → l[k]? = some b → p.feat < b.feat) := fun k b hk hb => by
   have hkl : k < (l.map Pt.z).length := by rw [List.length_map]; exact (List.getElem?_eq_some_iff.1 hb).1
   have h1 := HPP.out.rest k hk hkl
   rw [ft_map hb] at h1
   by_cases e : k = i
   ·subst e
    have h2 := of_decide_eq_false HBB.out
    rw [ft_map hb] at h2
    have : ¬ (b.feat : Int) = (p.feat : Int) := fun e => h2 ⟨hkl,e⟩
    omega
   ·have hil : i < l.length := by have := (List.getElem?_eq_some_iff.1 hb).1; omega
    have h3 := HPP.out.rest i (Nat.le_refl _) (by rw [List.length_map]; exact hil)
    rw [ft_map (List.getElem?_eq_getElem hil)] at h3
    have h4 := List.pairwise_iff_getElem.1 hs i k hil (by exact (List.getElem?_eq_some_iff.1 hb).1) (by omega)
    have h5 := (List.getElem?_eq_some_iff.1 hb).2
    rw [h5] at h4
    omega
  have HINS : Hid (insP l p = l.take i ++ p :: l.drop i) := insP_new (by have := HN.out; omega) HLS.out HGT.out
  clear HGT HBB HPP HLS hq hs
  have hRg0 : w.heap.size ≠ w1.heap.size := fun e => by have := VP.lt; omega
  have hgB : w.heap.size ≤ w1.heap.size := BB.size
  obtain ⟨el,HROW,HEL⟩ := HV0.out.below BB
  have HRO : Hid (0 < n → ∃ b off,av = some ⟨b,off,none⟩ ∧ b < w1.heap.size ∧ ∀ i,i < n → ∀ j,j < 5 → w1.cell? ⟨b,off + i * 5 + j,none⟩ = some (el i j)) := fun h0 => by
   obtain ⟨a9,c9,e9,_,_,h4⟩ := HROW
   cases e9
   obtain ⟨b,off,rfl,hc⟩ := h4 (by have := HMN.out; omega)
   exact ⟨b,off,rfl,World.block_lt_of_cell? _ _ (hc 0 (by have := HMN.out; omega) 0 (by omega)),fun i hi j hj => hc i (by have := HMN.out; omega) j hj⟩
  have HE : Hid (∀ j d,l[j]? = some d → PtAt M w1 (el j) d.z) := fun j d hd => HEL j d.z (by rw [List.getElem?_map,hd]; rfl)
  clear HROW HEL
  obtain ⟨i0,hi,hz0,hz1,hz2⟩ := info_parts info_part
  have HINF : Hid ((Tryz.prog.info? 52).map (·.size) = some 5) := by show _ = _; rw [hi]; simp [hz1]
  have HI0 : Hid (Tryz.prog.info? 52 = some i0 ∧ i0.size = 5) := ⟨hi,hz1⟩
  have wn : IntKind.i64.wrap ((n : Int) + 1) = ((n + 1 : Nat) : Int) := by rw [IntKind.wrap_i64]; omega
  obtain ⟨n1,hn1⟩ : ∃ n1,n + 1 = n1 := ⟨_,rfl⟩
  have HN1 : Hid (n + 1 = n1) := hn1
  rw [hn1] at wn
  clear hn1
  obtain ⟨us0,hus0⟩ : ∃ us0,(madeCells (Value.agg #[.int .i64 0,.bool false,.slice none 0 0,.slice none 0 0,.bool false]).cells (n1 * 5)).toList = us0 := ⟨_,rfl⟩
  have HUS0 : Hid ((madeCells (Value.agg #[.int .i64 0,.bool false,.slice none 0 0,.slice none 0 0,.bool false]).cells (n1 * 5)).toList = us0) := hus0
  have HL0 : Hid (us0.length = n1 * 5) := by rw [← hus0]; show _ = _; simp [madeCells]
  clear hus0
  obtain ⟨us,hus⟩ : ∃ us,flat5 el n = us := ⟨_,rfl⟩
  have HUL : Hid (us.length = n * 5) := by rw [← hus]; exact flat5_len el n
  have HUA : Hid (∀ i,i < n → ∀ j,j < 5 → us[i * 5 + j]? = some (el i j)) := fun i hi j hj => by rw [← hus]; exact flat5_at el n i j hi hj
  have HU1 : Hid (∀ u ∈ us,¬ IsLimb u ∧ u.oneCell' = true) := fun u hu => by
   rw [← hus] at hu
   obtain ⟨k,j,hk,hj,rfl⟩ := flat5_mem hu
   have h1 := pt_one_cell (HE.out k _ (List.getElem?_eq_getElem (by have := HN.out; omega))) hj
   exact ⟨h1.2,h1.1⟩
  clear hus
  have HSRC : Hid (∀ W,Below w1.heap.size w1 W → ∀ k u,us[k]? = some u → ∃ b off,av = some ⟨b,off,none⟩ ∧ W.cell? ⟨b,off + k,none⟩ = some u) := fun W hW k u hu => by
   have hk : k < n * 5 := by have := (List.getElem?_eq_some_iff.1 hu).1; have := HUL.out; omega
   obtain ⟨b,off,e,hlt,hc⟩ := HRO.out (by omega)
   refine ⟨b,off,e,?_⟩
   have h1 := hc (k / 5) (by omega) (k % 5) (by omega)
   have h2 := HUA.out (k / 5) (by omega) (k % 5) (by omega)
   rw [show k / 5 * 5 + k % 5 = k by omega,hu] at h2
   cases h2
   rw [show off + k / 5 * 5 + k % 5 = off + k by omega] at h1
   exact (hW.cell (p := ⟨b,off + k,none⟩) hlt).trans h1
  have HCP1 : Hid (∀ W,Below w1.heap.size w1 W → 0 < (us.take (i * 5)).length → ∃ ad,av = some ad ∧ ∀ j v,(us.take (i * 5))[j]? = some v → W.cell? (ad.add j) = some v) := fun W hW h0 => by
   have hn0 : 0 < us.length := by rw [List.length_take] at h0; omega
   obtain ⟨b,off,e,_⟩ := HSRC.out W hW 0 _ (List.getElem?_eq_getElem hn0)
   refine ⟨_,e,fun j v hv => ?_⟩
   rw [List.getElem?_take] at hv
   split at hv
   ·obtain ⟨b2,off2,e2,hc⟩ := HSRC.out W hW j v hv
    rw [e] at e2
    cases e2
    rw [add_off]
    exact hc
   ·cases hv
  have HLIST : Hid (∀ k,k < n + 1 → ∀ j,j < 5 → (spl10 (spl10 (spl10 us0 0 (us.take (i * 5))) (i * 5) [.int .i64 (p.feat : Int),.bool px,.slice ax nx cx,.slice yx mx dx,.bool p.ok]) ((i + 1) * 5) (us.drop (i * 5)))[k * 5 + j]? = some (if k < i then el k j else if k = i then List.getD [.int .i64 (p.feat : Int),.bool px,.slice ax nx cx,.slice yx mx dx,.bool p.ok] j undef else el (k - 1) j)) := laidp_list (by have := HN1.out; have := HL0.out; omega) HUL.out hin HUA.out _ rfl
  have HL1 : Hid ((spl10 us0 0 (us.take (i * 5))).length = n1 * 5) := by show _ = _; rw [spl10_len (by rw [List.length_take,HUL.out,HL0.out]; have := HN1.out; omega)]; exact HL0.out
  have HL2 : Hid ((spl10 (spl10 us0 0 (us.take (i * 5))) (i * 5) [.int .i64 (p.feat : Int),.bool px,.slice ax nx cx,.slice yx mx dx,.bool p.ok]).length = n1 * 5) := by show _ = _; rw [spl10_len (by rw [HL1.out]; show i * 5 + 5 ≤ _; have := HN1.out; omega)]; exact HL1.out
  have fi0 : (0 : Int) ≤ (i : Int) := by omega
  have fi1 : (i : Int) ≤ (cv : Int) := by omega
  have fi2 : (i : Int) < (n1 : Int) := by have := HN1.out; omega
  have HTK : Hid ((us.take (i * 5)).length = Nat.min i n1 * 5) := by show _ = _; rw [List.length_take,HUL.out]; have := HN1.out; simp only [Nat.min_def]; split <;> split <;> omega
  go_wp2_with (first | (at_make; refine wpList_make_full _ rfl _ _ 43 rfl _ 52 i0 (.agg #[.int .i64 0,.bool false,.slice none 0 0,.slice none 0 0,.bool false]) 5 Tryz.underlying43 hi hz0 hz1 _ _ _ _ n1 rfl rfl (by omega) (by omega) (by rw [hz2]; have := HN1.out; omega) (by unfold maxLen; have := HN1.out; omega) (Nat.le_refl _) ?_; intro w2 hown hgrow; have hb1 := below_grown hgrow; have RP : RawP w2 w1.heap.size us0 := (by rw [← HUS0.out]; exact rawp_made hown); clear hown hgrow; replace VP := VP.below hb1; replace BB := BB.xm hb1; have BX : BwP w1.heap.size w1 w2 := ⟨hb1,hb1.size⟩; clear hb1; obtain ⟨RP_n,KQ⟩ := RP.splice (o := 0) (cs := (us.take (i * 5))) (fun u hu => (HU1.out u (List.mem_of_mem_take hu)).1); clear KQ; have VP_n := VP.block (w' := w2.setRow w1.heap.size (spl10 us0 0 (us.take (i * 5))).toArray) (setRow_other w2 w1.heap.size w.heap.size _ hRg0); have BB_n : Below w.heap.size w (w2.setRow w1.heap.size (spl10 us0 0 (us.take (i * 5))).toArray) := below_setRow BB hgB _; have BX_n : BwP w1.heap.size w1 (w2.setRow w1.heap.size (spl10 us0 0 (us.take (i * 5))).toArray) := BX.row; obtain ⟨W3,hW3⟩ : ∃ W3,w2.setRow w1.heap.size (spl10 us0 0 (us.take (i * 5))).toArray = W3 := ⟨_,rfl⟩; rw [hW3] at RP_n VP_n BB_n BX_n) | (refine wpList_copyK 5 (by omega) rfl _ _ 43 43 rfl 52 Tryz.underlying43 HINF.out _ _ _ _ _ _ rfl rfl w1.heap.size 0 us0.toArray 52 RP.heap (us.take (i * 5)) HTK.out (fun h0 => ⟨rfl,HCP1.out _ BX.out h0⟩) (by rw [List.length_take,HUL.out]; have := HN1.out; have := HL0.out; simp only [List.size_toArray]; omega) (fun u hu => (HU1.out u (List.mem_of_mem_take hu)).2) ?_; rw [show w2.setRow w1.heap.size (spl10 (us0.toArray).toList 0 (us.take (i * 5))).toArray = W3 from hW3]; clear hW3 RP VP BB BX; have RP := RP_n; have VP := VP_n; have BB := BB_n; have BX := BX_n; clear RP_n VP_n BB_n BX_n; obtain ⟨RP_n,KQ⟩ := RP.splice (o := (i * 5)) (cs := [.int .i64 (p.feat : Int),.bool px,.slice ax nx cx,.slice yx mx dx,.bool p.ok]) (by intro u hu; simp at hu; rcases hu with rfl | rfl | rfl | rfl | rfl <;> first | exact limb_int _ | exact limb_bool _ | exact limb_slice _ _ _); clear KQ; have VP_n := VP.block (w' := W3.setRow w1.heap.size (spl10 (spl10 us0 0 (us.take (i * 5))) (i * 5) [.int .i64 (p.feat : Int),.bool px,.slice ax nx cx,.slice yx mx dx,.bool p.ok]).toArray) (setRow_other W3 w1.heap.size w.heap.size _ hRg0); have BB_n : Below w.heap.size w (W3.setRow w1.heap.size (spl10 (spl10 us0 0 (us.take (i * 5))) (i * 5) [.int .i64 (p.feat : Int),.bool px,.slice ax nx cx,.slice yx mx dx,.bool p.ok]).toArray) := below_setRow BB hgB _; have BX_n : BwP w1.heap.size w1 (W3.setRow w1.heap.size (spl10 (spl10 us0 0 (us.take (i * 5))) (i * 5) [.int .i64 (p.feat : Int),.bool px,.slice ax nx cx,.slice yx mx dx,.bool p.ok]).toArray) := BX.row; obtain ⟨W4,hW4⟩ : ∃ W4,W3.setRow w1.heap.size (spl10 (spl10 us0 0 (us.take (i * 5))) (i * 5) [.int .i64 (p.feat : Int),.bool px,.slice ax nx cx,.slice yx mx dx,.bool p.ok]).toArray = W4 := ⟨_,rfl⟩; rw [hW4] at RP_n VP_n BB_n BX_n; obtain ⟨v0,v1,v2,v3,v4,vs⟩ := id VP; clear vs) | (refine wpList_store_in rfl 52 _ _ rfl i0 HI0.out.1 w1.heap.size (i * 5) rfl #[.int .i64 (p.feat : Int),.bool px,.slice ax nx cx,.slice yx mx dx,.bool p.ok] rfl ((spl10 us0 0 (us.take (i * 5))).toArray) 52 RP.heap (by have := HL1.out; have := HN1.out; simp only [List.size_toArray]; rw [HL1.out]; show i * 5 + 5 ≤ _; omega) HI0.out.2 (by simp [Value.oneCell']) ?_; rw [show W3.setRow w1.heap.size (spl10 ((spl10 us0 0 (us.take (i * 5))).toArray).toList (i * 5) (#[.int .i64 (p.feat : Int),.bool px,.slice ax nx cx,.slice yx mx dx,.bool p.ok] : Array Value).toList).toArray = W4 from hW4]; clear hW4 v0 v1 v2 v3 v4 RP VP BB BX; have RP := RP_n; have VP := VP_n; have BB := BB_n; have BX := BX_n; clear RP_n VP_n BB_n BX_n))
  clear HUS0
  obtain ⟨i1,hi1⟩ : ∃ i1,i + 1 = i1 := ⟨_,rfl⟩
  have HI1 : Hid (i + 1 = i1) := hi1
  have wi : IntKind.i64.wrap ((i : Int) + 1) = ((i1 : Nat) : Int) := by rw [IntKind.wrap_i64]; omega
  rw [hi1] at HLIST
  clear hi1
  have fj0 : (0 : Int) ≤ (i1 : Int) := by omega
  have fj1 : (i1 : Int) ≤ (n1 : Int) := by have := HN1.out; have := HI1.out; omega
  have fj2 : (i : Int) ≤ (n : Int) := by omega
  have fj3 : (n : Int) ≤ (cv : Int) := by omega
  have HDL : Hid ((us.drop (i * 5)).length = Nat.min (n - i) (n1 - i1) * 5) := by show _ = _; rw [List.length_drop,HUL.out]; have := HN1.out; have := HI1.out; simp only [Nat.min_def]; split <;> omega
  have HCP2 : Hid (∀ W,Below w1.heap.size w1 W → 0 < (us.drop (i * 5)).length → (if n1 = i1 then some (⟨w1.heap.size,0,none⟩ : Addr) else some ⟨w1.heap.size,i1 * 5,none⟩) = some ⟨w1.heap.size,i1 * 5,none⟩ ∧ ∃ ad,(if cv = i then av else Option.map (fun x => x.add (i * 5)) av) = some ad ∧ ∀ j v,(us.drop (i * 5))[j]? = some v → W.cell? (ad.add j) = some v) := fun W hW h0 => by
   have h1 : i < n := by rw [List.length_drop,HUL.out] at h0; omega
   have hn0 : 0 < us.length := by rw [HUL.out]; omega
   obtain ⟨b,off,e,_⟩ := HSRC.out W hW 0 _ (List.getElem?_eq_getElem hn0)
   rw [if_neg (by have := HN1.out; have := HI1.out; omega),if_neg (by omega),e]
   refine ⟨rfl,_,rfl,fun j v hv => ?_⟩
   rw [List.getElem?_drop] at hv
   obtain ⟨b2,off2,e2,hc⟩ := HSRC.out W hW _ v hv
   rw [e] at e2
   cases e2
   dsimp only
   rw [add_off,add_off,Nat.add_assoc]
   exact hc
  have hDr : Below W4.heap.size W4 W4.drew := (Below.refl _ _).drew
  replace RP := RP.below hDr
  replace BX := BX.below hDr
  replace BB := BB.xm hDr
  clear hDr
  refine wp_region_held_drew (S := (fun w' => True)) (by kernel_rfl) ?_ (fun hHeld => ?_)
  ·trivial
  generalize W4.drew = W21 at *
  refine xV 0 (h := ?_)
  refine xV 1 (h := ?_)
  refine xV 2 (h := ?_)
  refine xV 3 (h := ?_)
  refine xV 4 (h := ?_)
  refine xV 5 (h := ?_)
  refine xV 6 (h := ?_)
  refine xR [7] (h := ?_)
  refine xN (h := fun K hK => ?_)
  obtain ⟨RP_n,KQ⟩ := RP.splice (o := i1 * 5) (cs := us.drop (i * 5)) (fun u hu => (HU1.out u (List.mem_of_mem_drop hu)).1)
  clear KQ
  have BB_n : Below w.heap.size w (W21.setRow w1.heap.size (spl10 (spl10 (spl10 us0 0 (us.take (i * 5))) (i * 5) [.int .i64 (p.feat : Int),.bool px,.slice ax nx cx,.slice yx mx dx,.bool p.ok]) (i1 * 5) (us.drop (i * 5))).toArray) := below_setRow BB hgB _
  have BX_n : BwP w1.heap.size w1 (W21.setRow w1.heap.size (spl10 (spl10 (spl10 us0 0 (us.take (i * 5))) (i * 5) [.int .i64 (p.feat : Int),.bool px,.slice ax nx cx,.slice yx mx dx,.bool p.ok]) (i1 * 5) (us.drop (i * 5))).toArray) := BX.row
  obtain ⟨W7,hW7⟩ : ∃ W7,W21.setRow w1.heap.size (spl10 (spl10 (spl10 us0 0 (us.take (i * 5))) (i * 5) [.int .i64 (p.feat : Int),.bool px,.slice ax nx cx,.slice yx mx dx,.bool p.ok]) (i1 * 5) (us.drop (i * 5))).toArray = W7 := ⟨_,rfl⟩
  rw [hW7] at RP_n BB_n BX_n
  refine step_copyK 5 (by omega) rfl (.tmp 60) (.tmp 63) 43 43 rfl 52 Tryz.underlying43 HINF.out _ _ _ _ _ _ rfl rfl w1.heap.size (i1 * 5) ((spl10 (spl10 us0 0 (us.take (i * 5))) (i * 5) [.int .i64 (p.feat : Int),.bool px,.slice ax nx cx,.slice yx mx dx,.bool p.ok]).toArray) 52 RP.heap (us.drop (i * 5)) HDL.out (HCP2.out _ BX.out) (by have := HL2.out; have := HN1.out; have := HI1.out; simp only [List.size_toArray]; rw [HL2.out,List.length_drop,HUL.out]; omega) (fun u hu => (HU1.out u (List.mem_of_mem_drop hu)).2) ?_
  rw [show W21.setRow w1.heap.size (spl10 ((spl10 (spl10 us0 0 (us.take (i * 5))) (i * 5) [.int .i64 (p.feat : Int),.bool px,.slice ax nx cx,.slice yx mx dx,.bool p.ok]).toArray).toList (i1 * 5) (us.drop (i * 5))).toArray = W7 from hW7]
  clear hW7 RP BB BX
  have RP := RP_n
  have BB := BB_n
  have BX := BX_n
  clear RP_n BB_n BX_n
  refine hK.out _ _ ?_ (fun hH1 => ?_)
  ·trivial
  clear hK K hHeld
  (try simp only [Act.put,xL4,xL5,xL6])
  refine wpAnyH_done (by kernel_rfl) ?_ _
  clear hH1
  have HRW : Hid (PRw M W7 (.slice (some ⟨w1.heap.size,0,none⟩) n1 n1) ((insP l p).map Pt.z)) := by
   have hlen : ((insP l p).map Pt.z).length = n1 := by rw [HINS.out,List.length_map,List.length_append,List.length_cons,List.length_take,List.length_drop]; have := HN.out; have := HN1.out; omega
   refine ⟨fun k j => if k < i then el k j else if k = i then List.getD [.int .i64 (p.feat : Int),.bool px,.slice ax nx cx,.slice yx mx dx,.bool p.ok] j undef else el (k - 1) j,⟨some ⟨w1.heap.size,0,none⟩,n1,by rw [hlen],by rw [hlen]; exact Nat.le_refl _,by have := HN1.out; omega,fun _ => ⟨w1.heap.size,0,rfl,fun k hk j hj => ?_⟩⟩,fun k d hd => ?_⟩
   ·rw [hlen] at hk; rw [Nat.zero_add]; exact RP.cell (HLIST.out k (by have := HN1.out; omega) j hj)
   ·rw [HINS.out,List.getElem?_map] at hd
    obtain ⟨x,hx,rfl⟩ := Option.map_eq_some_iff.1 hd
    have hlt : (l.take i).length = i := by rw [List.length_take]; have := HN.out; omega
    by_cases c1 : k < i
    ·simp only [if_pos c1]
     rw [List.getElem?_append_left (by omega),List.getElem?_take,if_pos c1] at hx
     exact (ptEl M).keep (HE.out k x hx) (KeepQ.below BX.out)
    ·by_cases c2 : k = i
     ·subst c2
      rw [List.getElem?_append_right (by omega),hlt,Nat.sub_self] at hx
      cases hx
      simp only [Nat.lt_irrefl,if_false,if_true]
      exact ⟨rfl,⟨px,ax,nx,cx,yx,mx,dx,rfl,rfl,rfl,HX0.out.below BB⟩,rfl,h64⟩
     ·simp only [if_neg c1,if_neg c2]
      rw [List.getElem?_append_right (by omega),hlt,show k - i = (k - i - 1) + 1 by omega,List.getElem?_cons_succ,List.getElem?_drop,show i + (k - i - 1) = k - 1 by omega] at hx
      exact (ptEl M).keep (HE.out (k - 1) x hx) (KeepQ.below BX.out)
  clear HLIST RP BX HSRC HCP1 HCP2 HE HUA HU1
  generalize (if n1 = i1 then some (⟨w1.heap.size,0,none⟩ : Addr) else some ⟨w1.heap.size,i1 * 5,none⟩) = dp9 at *
  generalize (if cv = i then av else Option.map (fun x => x.add (i * 5)) av) = sp9 at *
  go_wp2
  go_ret
  exact ⟨_,rfl,HRW.out,fun g9 o9 n9 c9 e9 => by cases e9; exact hgB,BB⟩
 ·obtain ⟨h1,h2⟩ := of_decide_eq_true HBB.out
  rw [HMN.out] at h1
  have hlt : i < n := h1
  obtain ⟨d,hd⟩ : ∃ d,l[i]? = some d := ⟨_,List.getElem?_eq_getElem (by have := HN.out; omega)⟩
  have hdf : d.feat = p.feat := by rw [ft_map hd] at h2; omega
  have HINS : Hid (insP l p = l.set i (d.put p)) := insP_has hd hdf HLS.out
  have HDZ : Hid ((l.map Pt.z)[i]? = some d.z) := by show (l.map Pt.z)[i]? = some d.z; rw [List.getElem?_map,hd]; rfl
  have hsz2 : qsz (d.sh * p.sh) ≤ M := hq d (List.mem_of_getElem? hd)
  clear h1 h2 hd hdf HBB hq hs
  have f0 : (0 : Int) ≤ (i : Int) := by omega
  have f1 : (i : Int) < (n : Int) := by omega
  go_wp2_with fail
  refine (clonep_at _ (l.map Pt.z) M _ (HV0.out.below BB) (by have := HMN.out; omega)).mono ?_
  rintro e w2 ⟨x2,rfl,⟨a2,c2,rfl,hc2,hc63,hPA⟩,b2⟩
  obtain ⟨g,rfl,hgB,PA⟩ := hPA (by have := HMN.out; omega)
  rw [HMN.out] at hc2 ⊢
  have hgw : w.heap.size ≤ g := Nat.le_trans BB.size hgB
  have hRg : w.heap.size ≠ g := fun e => by have := VP.lt; omega
  replace VP := VP.below b2
  replace BB := BB.xm b2
  clear b2 hgB hPA
  go_wp2
  have hDr : Below w2.heap.size w2 w2.drew := (Below.refl _ _).drew
  replace PA := PA.below hDr
  replace VP := VP.below hDr
  replace BB := BB.xm hDr
  clear hDr
  refine wp_region_held_drew (S := (fun w' => w'.cell? ⟨w.heap.size,1,none⟩ = some (.bool px) ∧ w'.cell? ⟨w.heap.size,1 + 1,none⟩ = some (.slice ax nx cx) ∧ w'.cell? ⟨w.heap.size,1 + 2,none⟩ = some (.slice yx mx dx))) (by kernel_rfl) ?_ (fun hHeld => ?_)
  ·exact ⟨VP.c1,VP.c2,VP.c3⟩
  generalize w2.drew = W21 at *
  refine xV 0 (h := ?_)
  refine xV 1 (h := ?_)
  refine xV 2 (h := ?_)
  refine xV 3 (h := ?_)
  refine xV 4 (h := ?_)
  refine xV 5 (h := ?_)
  refine xV 7 (h := ?_)
  refine xV 8 (h := ?_)
  refine xR [6] (h := ?_)
  refine xN (h := fun K hK => ?_)
  obtain ⟨p5,a5,n5,c5,y5,m5,d5,C0,C1,C2,C3,C4,HSH,i64,hsf⟩ := PA.at HDZ.out rfl
  have C2b : W21.cell? ⟨g,i * 5 + 1 + 1,none⟩ = some (.slice a5 n5 c5) := C2
  have C3b : W21.cell? ⟨g,i * 5 + 1 + 2,none⟩ = some (.slice y5 m5 d5) := C3
  go_simp
  clear C0 C1 C2 C3 C4 C2b C3b i64 hsf
  refine hK.out _ _ ?_ (fun hH1 => ?_)
  ·exact ⟨VP.c1,VP.c2,VP.c3⟩
  clear hK K hHeld
  (try simp only [Act.put,xL4,xL5,xL6])
  refine xR [9] (h := ?_)
  refine xN (h := fun K hK => ?_)
  go_simp
  refine (qmul_at _ _ d.sh p.sh M _ HSH (HX0.out.below BB) hM1 hM (HT0.out.below BB)).mono ?_
  rintro e w21 ⟨v9,rfl,h9,b21⟩
  obtain ⟨p9,a9,n9,c9,y9,m9,d9,rfl⟩ := h9.open
  go_wp2_with fail
  replace PA := PA.below b21
  replace VP := VP.below b21
  replace HSH := HSH.below b21
  replace BB := BB.xm b21
  clear b21
  refine hK.out _ _ ?_ (fun hH2 => ?_)
  ·exact ⟨VP.c1,VP.c2,VP.c3⟩
  clear hK K hH1
  (try simp only [Act.put,xL4,xL5,xL6])
  refine xV 10 (h := ?_)
  refine xV 11 (h := ?_)
  refine xR [12] (h := ?_)
  refine xN (h := fun K hK => ?_)
  obtain ⟨⟨u1,u2,u3,C1,C2,C3⟩,s1,s2,s3,KQ,PA1⟩ := PA.putS HDZ.out (p := p9) (a := a9) (n := n9) (c := c9) (b := y9) (m := m9) (e := d9) (q := d.sh * p.sh) false (fun w8 hk => by show RatAt w8 _ _ M; exact (h9.keepL hk).at M hsz2)
  have PA2 : PArr M (fun j => if j = i then false else false) (((w21.setCell ⟨g,i * 5 + 1,none⟩ (.bool p9)).setCell ⟨g,i * 5 + 1 + 1,none⟩ (.slice a9 n9 c9)).setCell ⟨g,i * 5 + 1 + 2,none⟩ (.slice y9 m9 d9)) g ((l.map Pt.z).set i ⟨d.z.feat,d.sh * p.sh,d.z.ok⟩) := PA1
  clear PA1
  have VP2 := VP.block (w' := (((w21.setCell ⟨g,i * 5 + 1,none⟩ (.bool p9)).setCell ⟨g,i * 5 + 1 + 1,none⟩ (.slice a9 n9 c9)).setCell ⟨g,i * 5 + 1 + 2,none⟩ (.slice y9 m9 d9))) ((by rw [Below.heap_setCell _ _ _ _ hRg,Below.heap_setCell _ _ _ _ hRg,Below.heap_setCell _ _ _ _ hRg]))
  have BB2 : Below w.heap.size w (((w21.setCell ⟨g,i * 5 + 1,none⟩ (.bool p9)).setCell ⟨g,i * 5 + 1 + 1,none⟩ (.slice a9 n9 c9)).setCell ⟨g,i * 5 + 1 + 2,none⟩ (.slice y9 m9 d9)) := ((BB.setCell (p := ⟨g,i * 5 + 1,none⟩) hgw _).setCell (p := ⟨g,i * 5 + 1 + 1,none⟩) hgw _).setCell (p := ⟨g,i * 5 + 1 + 2,none⟩) hgw _
  go_simp
  clear C1 C2 C3 s1 s2 s3 KQ PA VP BB HSH h9
  generalize (((w21.setCell ⟨g,i * 5 + 1,none⟩ (.bool p9)).setCell ⟨g,i * 5 + 1 + 1,none⟩ (.slice a9 n9 c9)).setCell ⟨g,i * 5 + 1 + 2,none⟩ (.slice y9 m9 d9)) = W9 at *
  have PA := PA2
  have VP := VP2
  have BB := BB2
  clear PA2 VP2 BB2
  refine hK.out _ _ ?_ (fun hH3 => ?_)
  ·exact ⟨VP.c1,VP.c2,VP.c3⟩
  clear hK K hH2
  (try simp only [Act.put,xL4,xL5,xL6])
  refine wpAnyH_done (by kernel_rfl) ?_ _
  clear hH3
  replace PA : PArr M (fun _ => false) W9 g ((l.map Pt.z).set i ⟨d.z.feat,d.sh * p.sh,d.z.ok⟩) := by
   obtain ⟨el,h1,h2⟩ := PA
   refine ⟨el,h1,fun j x hx => ?_⟩
   have := h2 j x hx
   simp only [ite_self] at this
   exact this
  have HD2 : Hid (((l.map Pt.z).set i ⟨d.z.feat,d.sh * p.sh,d.z.ok⟩)[i]? = some ⟨d.z.feat,d.sh * p.sh,d.z.ok⟩) := by show _ = _; rw [List.getElem?_set_self (by have := HMN.out; omega)]
  obtain ⟨p5,a5,n5,c5,y5,m5,d5,C0,C1,C2,C3,C4,HSH,i64,hsf⟩ := PA.at HD2.out rfl
  have s4 := hsf 4 (by omega)
  clear C0 C1 C2 C3 HSH i64 hsf
  obtain ⟨KQ,PA2⟩ := PA.putO HD2.out (fun _ => rfl) (d.ok && p.ok)
  have HFIN : Hid (((l.map Pt.z).set i ⟨d.z.feat,d.sh * p.sh,d.z.ok⟩).set i ⟨d.z.feat,d.sh * p.sh,d.ok && p.ok⟩ = (insP l p).map Pt.z) := by
   show _ = _
   rw [HINS.out,List.set_set,List.map_set]
   rfl
  have PA3 : PArr M (fun _ => false) (W9.setCell ⟨g,i * 5 + 4,none⟩ (.bool (d.ok && p.ok))) g ((insP l p).map Pt.z) := by
   rw [← HFIN.out]
   exact PA2
  have hlen : ((insP l p).map Pt.z).length = n := by rw [← HFIN.out,List.length_set,List.length_set]; exact HMN.out
  have HRW : Hid (PRw M (W9.setCell ⟨g,i * 5 + 4,none⟩ (.bool (d.ok && p.ok))) (.slice (some ⟨g,0,none⟩) n c2) ((insP l p).map Pt.z)) := PA3.rowF (fun _ => rfl) hlen hc2 hc63
  have BB2 : Below w.heap.size w (W9.setCell ⟨g,i * 5 + 4,none⟩ (.bool (d.ok && p.ok))) := BB.setCell (p := ⟨g,i * 5 + 4,none⟩) hgw _
  have v4 := VP.c4
  replace C4 : W9.cell? ⟨g,i * 5 + 4,none⟩ = some (.bool d.ok) := C4
  clear KQ PA PA2 PA3 hlen HFIN VP BB
  generalize d.ok = ok at HRW BB2 C4
  cases ok
  ·go_wp2
   go_ret
   exact ⟨_,rfl,HRW.out,fun g9 o9 n9 c9 e9 => by cases e9; exact hgw,BB2⟩
  ·go_wp2
   go_ret
   exact ⟨_,rfl,HRW.out,fun g9 o9 n9 c9 e9 => by cases e9; exact hgw,BB2⟩

theorem PArr.flags {M : Nat} {f f' : Nat → Bool} {w : World} {g : Nat} {l : List PtZ} (h : PArr M f w g l) (e : ∀ i,i < l.length → f i = f' i) : PArr M f' w g l := by
 obtain ⟨el,h1,h2⟩ := h
 refine ⟨el,h1,fun i d hd => ?_⟩
 have := h2 i d hd
 rw [e i (List.getElem?_eq_some_iff.1 hd).1] at this
 exact this
def NewP (B : Nat) (u : Value) (n : Nat) : Prop := 0 < n → ∃ g c2,u = .slice (some ⟨g,0,none⟩) n c2 ∧ B ≤ g
theorem set_same {l : List PtZ} {i : Nat} {d : PtZ} (h : l[i]? = some d) : l.set i ⟨d.feat,d.sh,d.ok⟩ = l := by
 obtain ⟨hi,rfl⟩ := List.getElem?_eq_some_iff.1 h
 exact List.set_getElem_self hi
set_option maxRecDepth 100000 in
set_option maxHeartbeats 8000000 in
theorem own_at (v : Value) (l : List PtZ) (M : Nat) (w : World) (hv : PRw M w v l) (hll : l.length ≤ 1000) (hL : 1 ≤ M) (hM : M ≤ 100000) (ht : Tab w) :
  Calls Tryz.prog 27 #[v] w fun e w' => ∃ u,e = .returned u ∧ PRr w' u l ∧ NewP w.heap.size u l.length ∧ Below w.heap.size w w' := by
 obtain ⟨av,cv,rfl,hlc,hl63⟩ := GRow.open hv
 have BB : Below w.heap.size w w := Below.refl _ _
 have HT0 : Hid (Tab w) := ht
 obtain ⟨n,hn⟩ : ∃ n,l.length = n := ⟨_,rfl⟩
 have HN : Hid (l.length = n) := hn
 have HV0 : Hid (PRw M w (.slice av n cv) l) := by rw [← hn]; exact hv
 rw [hn] at hlc hll ⊢
 clear hv ht hn
 go_enter Tryz.func27,Tryz.ntmps27
 go_wp2_with fail
 refine (clonep_at _ l M _ HV0.out (by have := HN.out; omega)).mono ?_
 rintro e w1 ⟨x1,rfl,⟨a,c,rfl,hc,hc63,hPA⟩,b1⟩
 rw [HN.out] at hc hPA ⊢
 have HP : Hid (0 < n → ∃ g,a = some ⟨g,0,none⟩ ∧ w.heap.size ≤ g ∧ PArr M (fun j => decide (j < 0)) w1 g l) := fun h => by
  obtain ⟨g,e,hg,PA⟩ := hPA h
  exact ⟨g,e,hg,PA.flags (fun i _ => by simp)⟩
 replace BB := BB.xm b1
 clear b1 hPA
 go_wp2
 go_loopw [10] (fun vi wr => ∃ i : Nat,i ≤ n ∧ vi = .int .i64 (i : Int) ∧ Hid (0 < n → ∃ g,a = some ⟨g,0,none⟩ ∧ w.heap.size ≤ g ∧ PArr M (fun j => decide (j < i)) wr g l) ∧ Below w.heap.size w wr) (fun vi _ => n - (intOf vi).toNat)
 case atStart => exact ⟨0,by omega,rfl,HP,BB⟩
 case round =>
  clear HP BB
  obtain ⟨i,hi,rfl,HP,BB⟩ := hrel
  by_cases hlt : i < n
  ·have g1 : (i : Int) < (n : Int) := by omega
   have g0 : (0 : Int) ≤ (i : Int) := by omega
   have wi : IntKind.i64.wrap ((i : Int) + 1) = (i : Int) + 1 := by rw [IntKind.wrap_i64]; omega
   obtain ⟨d,hd⟩ : ∃ d,l[i]? = some d := ⟨_,List.getElem?_eq_getElem (by have := HN.out; omega)⟩
   have HD : Hid (l[i]? = some d) := hd
   clear hd
   obtain ⟨g,rfl,hgB,PA⟩ := HP.out (by omega)
   clear HP
   obtain ⟨p5,a5,n5,c5,y5,m5,d5,C0,C1,C2,C3,C4,HSH,i64,hsf⟩ := PA.at HD.out (by simp)
   clear hsf
   obtain ⟨W3,hW3,hS3,hL3,VP⟩ := V5.lay wr 52 (.int .i64 d.feat) (.bool p5) (.slice a5 n5 c5) (.slice y5 m5 d5) (.bool d.ok)
   have PA3 := PA.below hL3
   have HSH3 := HSH.below hL3
   have BB3 := BB.trans (hL3.mono BB.size)
   clear hL3 PA BB HSH
   obtain ⟨v0,v1,v2,v3,v4,vs⟩ := id VP
   rw [hW3] at v0 v1 v2 v3 v4
   clear vs VP
   go_wp2_with fail
   clear v0 v1 v2 v3 v4 C0 C1 C2 C3 C4
   rw [← hW3]
   clear hW3 hS3
   generalize wr.heap.size = R3 at *
   refine (qclean_at _ d.sh M _ HSH3 hL (by omega) (HT0.out.below BB3)).mono ?_
   rintro e w4 ⟨x4,rfl,h4,b4⟩
   obtain ⟨p9,a9,n9,c9,y9,m9,d9,rfl⟩ := h4.open
   replace PA3 := PA3.below b4
   replace BB3 := BB3.trans (b4.mono BB3.size)
   clear b4 HSH3
   obtain ⟨⟨u1,u2,u3,C1,C2,C3⟩,s1,s2,s3,KQ,PA1⟩ := PA3.putS HD.out (p := p9) (a := a9) (n := n9) (c := c9) (b := y9) (m := m9) (e := d9) (q := d.sh) true (fun w8 hk => by rw [if_pos rfl]; exact h4.keepL hk)
   rw [set_same HD.out] at PA1
   have HP2 : Hid (0 < n → ∃ g2,(some ⟨g,0,none⟩ : Option Addr) = some ⟨g2,0,none⟩ ∧ w.heap.size ≤ g2 ∧ PArr M (fun j => decide (j < i + 1)) (((w4.setCell ⟨g,i * 5 + 1,none⟩ (.bool p9)).setCell ⟨g,i * 5 + 1 + 1,none⟩ (.slice a9 n9 c9)).setCell ⟨g,i * 5 + 1 + 2,none⟩ (.slice y9 m9 d9)) g2 l) := fun _ => ⟨g,rfl,hgB,PA1.flags (fun k _ => by
    by_cases e1 : k = i
    ·rw [if_pos e1,e1]; simp
    ·rw [if_neg e1]
     by_cases e2 : k < i
     ·rw [decide_eq_true e2,decide_eq_true (by omega)]
     ·rw [decide_eq_false e2,decide_eq_false (by omega)])⟩
   have BB2 : Below w.heap.size w (((w4.setCell ⟨g,i * 5 + 1,none⟩ (.bool p9)).setCell ⟨g,i * 5 + 1 + 1,none⟩ (.slice a9 n9 c9)).setCell ⟨g,i * 5 + 1 + 2,none⟩ (.slice y9 m9 d9)) := ((BB3.setCell (p := ⟨g,i * 5 + 1,none⟩) hgB _).setCell (p := ⟨g,i * 5 + 1 + 1,none⟩) hgB _).setCell (p := ⟨g,i * 5 + 1 + 2,none⟩) hgB _
   clear KQ PA1 PA3 BB3 h4
   go_wp2
   go_roundw
   case rel => exact ⟨i + 1,by omega,by go_num,HP2,BB2⟩
   case measure => simp [intOf]; omega
  ·obtain rfl : i = n := by omega
   have g1 : ¬ (i : Int) < (i : Int) := by omega
   have HR : Hid (PRr wr (.slice a i c) l ∧ NewP w.heap.size (.slice a i c) i) := by
    have hl := HN.out
    rcases Nat.eq_zero_or_pos i with e | e
    ·refine ⟨⟨fun _ _ => undef,⟨a,c,by rw [hl],by omega,hc63,fun h => by omega⟩,fun k d hd => ?_⟩,fun h => by omega⟩
     have := (List.getElem?_eq_some_iff.1 hd).1
     omega
    ·obtain ⟨g,e1,hg,PA⟩ := HP.out e
     subst e1
     exact ⟨PA.rowT (fun k hk => decide_eq_true (by omega)) hl hc hc63,fun _ => ⟨g,c,rfl,hg⟩⟩
   clear HP
   go_wp2
   go_ret
   exact ⟨_,rfl,HR.out.1,HR.out.2,BB⟩

theorem lvs_take {t : Nat → Nd} {zs : List Nat} {j x : Nat} (hj : zs[j]? = some x) : (zs.take (j + 1)).filter (fun y => (t y).leaf) = (zs.take j).filter (fun y => (t y).leaf) ++ (if (t x).leaf = true then [x] else []) := by
 rw [List.take_add_one,hj,List.filter_append]
 congr 1
 cases h : (t x).leaf <;> simp [h]
set_option maxRecDepth 100000 in
set_option maxHeartbeats 8000000 in
theorem leaves8_yes (F : Int) (vt : Value) (n : Nat) (t : Nat → Nd) (L : Nat) (w : World) (ht : TRow w vt n t L) (hT : Tab w) (hL : 1 ≤ L) (hM : L ≤ 30000) (hB : mayB F 1 (fun _ => n) (fun _ => t) = true) (hm : MayT F t n) :
  Calls Tryz.prog 25 #[vt,.int .i64 F] w fun e w' => ∃ u,e = .returned u ∧ IntOwn w.heap.size w' u (lvs t n 0) ∧ Below w.heap.size w w' := by
 obtain ⟨ao,ct,rfl,htc,ht63⟩ := ht.open
 have hn255 := hm.few
 have hn0 := hm.pos
 have HMT : Hid (MayT F t n) := hm
 go_enter Tryz.func25,Tryz.ntmps25
 go_wp2_with fail
 refine (tree_may F _ n t L _ ht hT hL hM).mono ?_
 rintro e w1 ⟨rfl,b1⟩
 rw [hB]
 have ht1 := ht.below b1
 clear hB hm
 go_wp2_with fail
 refine (reached2_at _ n t L _ ht1 HMT.out.named HMT.out.once (by omega) hn255 ⟨F,HMT.out⟩).mono ?_
 rintro e W0 ⟨r,zs,rfl,hz,hR,b2⟩
 have HRS : Hid (∀ x,x ∈ zs → x < n) := fun x hx => hR.small x (by simpa using hx)
 have HZE : Hid (zs = pre t n 0) := hR.all
 have hzn : zs.length = n := hR.count
 obtain ⟨gz,cz,rfl,hzc⟩ := hz.open (by omega)
 have HZN : Hid (zs.length = n) := hzn
 have HZ0 : Hid (IntOwn w1.heap.size W0 (.slice (some ⟨gz,0,none⟩) zs.length cz) zs) := hz
 have HT0 : Hid (TRow W0 (.slice ao n ct) n t L) := ht1.below b2
 have HB0 : Hid (Below w.heap.size w W0) := b1.trans (b2.mono b1.size)
 rw [hzn] at hzc ⊢
 clear hR hz ht ht1 b1 b2 hT hzn
 go_wp2
 go_loopw [5,15] (fun vo vi wr => ∃ j : Nat,j ≤ n ∧ vi = .int .i64 (j : Int) ∧ IntOwn W0.heap.size wr vo ((zs.take j).filter (fun y => (t y).leaf)) ∧ Below W0.heap.size W0 wr) (fun _ vi _ => n - (intOf vi).toNat)
 case atStart => exact ⟨0,by omega,rfl,World.ownsRow_nil _ _ _ _,Below.refl _ _⟩
 case round =>
  obtain ⟨j,hj,rfl,hO,BL⟩ := hrel
  by_cases hlt : j < n
  ·obtain ⟨x,hx⟩ : ∃ x,zs[j]? = some x := ⟨_,List.getElem?_eq_getElem (by have := HZN.out; omega)⟩
   have hxn : x < n := HRS.out x (List.mem_of_getElem? hx)
   have hzc2 := (HZ0.out.later BL).cell rfl hx
   have HTK : Hid ((zs.take (j + 1)).filter (fun y => (t y).leaf) = (zs.take j).filter (fun y => (t y).leaf) ++ (if (t x).leaf = true then [x] else [])) := lvs_take hx
   have hlf : ((zs.take j).filter (fun y => (t y).leaf)).length ≤ 255 := by
    have h1 := List.length_filter_le (fun y => (t y).leaf) (zs.take j)
    rw [List.length_take] at h1
    omega
   clear hx
   obtain ⟨ol,hol⟩ : ∃ l,(zs.take j).filter (fun y => (t y).leaf) = l := ⟨_,rfl⟩
   rw [hol] at hO HTK hlf
   clear hol
   obtain ⟨oa,oc,rfl,hoc⟩ := hO.form
   obtain ⟨k,hk⟩ : ∃ k,ol.length = k := ⟨_,rfl⟩
   rw [hk] at hO hlf hoc ⊢
   have f0 : (0 : Int) ≤ (j : Int) := by omega
   have f1 : (j : Int) < (n : Int) := by omega
   have wj : IntKind.i64.wrap ((j : Int) + 1) = (j : Int) + 1 := by rw [IntKind.wrap_i64]; omega
   have g0 : (0 : Int) ≤ (x : Int) := by omega
   have g1 : (x : Int) < (n : Int) := by omega
   obtain ⟨b,off,cc,p1,a1,n1,c1,b1,m1,d1,p2,a2,n2,c2,b2,m2,d2,p3,a3,n3,c3,b3,m3,d3,hvv,hcc,hc6,NN,r1,r2,r3,i1,i2,i3⟩ := (HT0.out.below BL).at hxn
   cases hvv
   obtain ⟨lf,hlf2⟩ : ∃ z,(t x).leaf = z := ⟨_,rfl⟩
   have N_0 := NN.c0
   rw [hlf2] at N_0 HTK
   clear NN r1 r2 r3 i1 i2 i3 hlf2
   cases lf
   ·rw [if_neg (by simp),List.append_nil] at HTK
    go_wp2
    go_roundw
    case rel => exact ⟨j + 1,by omega,by go_num,by rw [HTK.out]; exact hO,BL⟩
    case measure => simp [intOf]; omega
   ·rw [if_pos rfl] at HTK
    have hA3 : Below wr.heap.size wr (wr.alloc (.cells #[.int .i64 (x : Int)] 3)) := (Below.refl _ _).alloc (Nat.le_refl _) _
    have hO3 := hO.later hA3
    have BB3 := BL.trans (hA3.mono BL.size)
    have hsz3 := BB3.size
    have hO4 := int_len hk hO3
    have HK : Hid (ol.length = k) := hk
    clear hk hA3
    go_wp2_with (at_builtin; refine wpList_append_pureM (Q' := fun _ => False) rfl _ _ _ rfl W0.heap.size 3 (.int .i64 0) 1 8 Tryz.underlying35 info_int rfl (by omega) (.slice oa k oc) rfl k (ol.map (fun x : Nat => Value.int .i64 (x : Int))) hO4 (fun _ _ _ _ _ h => h) ⟨wr.heap.size,0,none⟩ 1 1 (by omega) (by omega) rfl [.int .i64 (x : Int)] rfl (news_block (heap_alloc_new _ _)) (by simp [Value.oneCell']) (by simp) (by simp) (by omega) (by omega) hsz3 ?_; intro gn cn w3 hO5 hg5 hat5 _ _; have BB5 : Below W0.heap.size W0 w3 := below_grownB BB3 hg5 BB3.size (fun g h => (hO3.both g h).1); clear hg5 hat5 hO3 hO4 BB3 hO)
    go_roundw
    case rel => exact ⟨j + 1,by omega,by go_num,by rw [HTK.out]; exact int_app (ys := [x]) HK.out rfl hO5,BB5⟩
    case measure => simp [intOf]; omega
  ·obtain rfl : j = n := by omega
   have f1 : ¬ (j : Int) < (j : Int) := by omega
   have h1 : (zs.take j).filter (fun y => (t y).leaf) = lvs t j 0 := by
    rw [List.take_of_length_le (by have := HZN.out; omega),HZE.out]
    rfl
   rw [h1] at hO
   have hO2 := hO.le HB0.out.size
   obtain ⟨oa,oc,rfl,hoc⟩ := hO2.form
   have HOL : Hid (IntOwn w.heap.size wr (.slice oa (lvs t j 0).length oc) (lvs t j 0)) := hO2
   clear h1 hO2
   clear hO
   go_wp2
   go_ret
   exact ⟨_,rfl,HOL.out,HB0.out.trans (BL.mono HB0.out.size)⟩
end Go.Proofs.YtbbliiafkjipbaaGreatDoor
