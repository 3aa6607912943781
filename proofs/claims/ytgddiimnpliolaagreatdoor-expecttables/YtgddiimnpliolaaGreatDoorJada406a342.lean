/-
  Texts of mine, joined: what lies beneath the statement.
-/
import Derived.Test.YtgddiimnpliolaaGreatDoorJ7d96a1daa2
import Derived.Test.YtgddiimnpliolaaGreatDoorJ2a46badc0a
import Derived.Laws.Bits64b
import Derived.Test.YtgddiimnpliolaaGreatDoorJb82b0d9242
namespace Go.Proofs.YtgddiimnpliolaaGreatDoor
open Go.RowKit
set_option linter.unusedVariables false
set_option linter.unusedSimpArgs false
theorem and_i64 (a b : Nat) (ha : a < 9223372036854775808) (hb : b < 9223372036854775808) : bits .and .i64 (a : Int) (b : Int) = ((a &&& b : Nat) : Int) := by
 have hx : a &&& b < 2 ^ 63 := Nat.and_lt_two_pow _ (by omega)
 have h1 : (BitVec.ofInt 64 (a : Int)).toNat = a := by
  rw [BitVec.ofInt_natCast,BitVec.toNat_ofNat]; exact Nat.mod_eq_of_lt (by omega)
 have h2 : (BitVec.ofInt 64 (b : Int)).toNat = b := by
  rw [BitVec.ofInt_natCast,BitVec.toNat_ofNat]; exact Nat.mod_eq_of_lt (by omega)
 show IntKind.i64.wrap ((BitVec.ofInt 64 (a : Int) &&& BitVec.ofInt 64 (b : Int)).toNat : Int) = _
 rw [BitVec.toNat_and,h1,h2,IntKind.wrap_i64]
 omega
theorem two_pow_small {f m : Nat} (h : f ≤ m) (hm : m ≤ 63) : 2 ^ f ≤ 9223372036854775808 := Nat.le_trans (Nat.pow_le_pow_right (by omega) (Nat.le_trans h hm)) (by decide)
set_option maxRecDepth 100000 in
set_option maxHeartbeats 4000000 in
theorem asked_at (F : Int) (v : Value) (a1 a2 : Option Addr) (n1 c1 n2 c2 n : Nat) (t : Nat → Nd) (L : Nat) (w : World) (hT : TRow w v n t L) (hm : MayT F t n) (hF : F ≤ 64) :
  Calls Tryz.prog 95 #[.agg #[v,.slice a1 n1 c1,.slice a2 n2 c2]] w fun e w' => e = .returned (.int .u64 ((askN t n : Nat) : Int)) ∧ Below w.heap.size w w' := by
 obtain ⟨at_,ct,rfl,htc,ht63⟩ := hT.open
 have HT0 : Hid (TRow w (.slice at_ n ct) n t L) := hT
 have HM : Hid (MayT F t n) := hm
 have hn255 := hm.few
 have HAL : Hid (∀ i,i ≤ n → askN t i < 18446744073709551616) := fun i hi => askN_lt (m := 64) (fun x hx hl => by have := hm.feat x hx hl; omega) i hi
 clear hT hm
 have BB : Below w.heap.size w w := Below.refl _ _
 obtain ⟨Wb0,hW0,hS0,hL0,VV⟩ := V3.lay w 101 (.slice at_ n ct) (.slice a1 n1 c1) (.slice a2 n2 c2)
 replace BB := BB.trans (hL0.mono BB.size)
 clear hL0
 go_enter Tryz.func95,Tryz.ntmps95
 obtain ⟨v0,v1,v2,v3,v4,v5⟩ := id VV
 rw [hW0] at v0
 clear v1 v2 v3 v4 v5
 go_wp2_with fail
 clear v0
 rw [← hW0]
 clear hW0 hS0 VV
 go_loopw [3,9] (fun va vi wr => ∃ i : Nat,i ≤ n ∧ vi = .int .i64 (i : Int) ∧ va = .int .u64 ((askN t i : Nat) : Int) ∧ Below w.heap.size w wr) (fun _ vi _ => n - (intOf vi).toNat)
 case atStart => exact ⟨0,by omega,rfl,rfl,BB⟩
 case round =>
  clear BB
  obtain ⟨i,hi,rfl,rfl,BB⟩ := hrel
  by_cases hlt : i < n
  ·have g0 : (0 : Int) ≤ (i : Int) := by omega
   have g1 : (i : Int) < (n : Int) := by omega
   have wi : IntKind.i64.wrap ((i : Int) + 1) = (i : Int) + 1 := by rw [IntKind.wrap_i64]; omega
   have hA := HAL.out i hi
   have HNX : Hid (askN t (i + 1) = if (t i).leaf = true then askN t i else askN t i ||| 2 ^ (t i).feat.toNat) := rfl
   obtain ⟨b,off,cc,p1,a1,n1,c1,b1,m1,d1,p2,a2,n2,c2,b2,m2,d2,p3,a3,n3,c3,b3,m3,d3,hvv,hcc,hc6,NN0,r1,r2,r3,i1_,i2_,i3_⟩ := HT0.out.at hlt
   cases hvv
   have NN := NN0.below BB
   clear r1 r2 r3 i1_ i2_ i3_ NN0
   obtain ⟨A,hAe⟩ : ∃ A,askN t i = A := ⟨_,rfl⟩
   rw [hAe] at hA HNX ⊢
   clear hAe
   cases hlf : (t i).leaf
   ·have HFT := HM.out.feat i hlt hlf
    obtain ⟨fn,hfn⟩ : ∃ fn : Nat,(t i).feat = (fn : Int) := ⟨(t i).feat.toNat,by omega⟩
    have hf64 : (fn : Int) ≤ 64 := by omega
    have hf0 : (0 : Int) ≤ (fn : Int) := by omega
    obtain ⟨P,hP⟩ : ∃ P,2 ^ fn = P := ⟨_,rfl⟩
    have hPl : P ≤ 9223372036854775808 := by rw [← hP]; exact two_pow_small (m := 63) (by omega) (by omega)
    have hsh : IntKind.u64.wrap ((2 : Int) ^ fn) = (P : Int) := by
     have e1 : ((2 : Int) ^ fn) = (P : Int) := by rw [← hP]; simp
     rw [e1,IntKind.wrap_u64]
     omega
    have HN2 : Hid (askN t (i + 1) = A ||| P) := by show askN t (i + 1) = A ||| P; rw [HNX.out,hlf,hfn,Int.toNat_natCast,hP]; rfl
    have hor : bits .or .u64 (A : Int) (P : Int) = ((A ||| P : Nat) : Int) := bits_or_u64_nat A P hA (by omega)
    obtain ⟨Q,hQ⟩ : ∃ Q,A ||| P = Q := ⟨_,rfl⟩
    rw [hQ] at hor HN2
    rw [hlf,hfn] at NN
    clear hlf hfn HFT hP hQ HNX
    obtain ⟨N_0,N_1,N_2,N_3,N_4,N_5,N_6,N_7,N_8,N_9,N_10,N_11,N_12,N_13⟩ := id NN
    obtain ⟨W7,hW7,hS7,hL7,VN,FN⟩ := V14.lay wr 57 (.bool false) (.int .i64 (fn : Int)) (.bool p1) (.slice a1 n1 c1) (.slice b1 m1 d1) (.int .i64 (t i).left) (.int .i64 (t i).right) (.bool (t i).miss) (.bool p2) (.slice a2 n2 c2) (.slice b2 m2 d2) (.bool p3) (.slice a3 n3 c3) (.slice b3 m3 d3)
    replace BB := BB.trans (hL7.mono BB.size)
    clear hL7
    obtain ⟨V_0,V_1,V_2,V_3,V_4,V_5,V_6,V_7,V_8,V_9,V_10,V_11,V_12,V_13⟩ := id VN
    rw [hW7] at V_0 V_1 V_2 V_3 V_4 V_5 V_6 V_7 V_8 V_9 V_10 V_11 V_12 V_13
    go_wp2
    rw [← hW7]
    go_roundw
    case rel => exact ⟨i + 1,by omega,by go_num,by rw [HN2.out],BB⟩
    case measure => simp [intOf]; omega
   ·have HN2 : Hid (askN t (i + 1) = A) := by show askN t (i + 1) = A; rw [HNX.out,hlf]; rfl
    rw [hlf] at NN
    clear hlf
    obtain ⟨N_0,N_1,N_2,N_3,N_4,N_5,N_6,N_7,N_8,N_9,N_10,N_11,N_12,N_13⟩ := id NN
    obtain ⟨W7,hW7,hS7,hL7,VN,FN⟩ := V14.lay wr 57 (.bool true) (.int .i64 (t i).feat) (.bool p1) (.slice a1 n1 c1) (.slice b1 m1 d1) (.int .i64 (t i).left) (.int .i64 (t i).right) (.bool (t i).miss) (.bool p2) (.slice a2 n2 c2) (.slice b2 m2 d2) (.bool p3) (.slice a3 n3 c3) (.slice b3 m3 d3)
    replace BB := BB.trans (hL7.mono BB.size)
    clear hL7
    obtain ⟨V_0,V_1,V_2,V_3,V_4,V_5,V_6,V_7,V_8,V_9,V_10,V_11,V_12,V_13⟩ := id VN
    rw [hW7] at V_0 V_1 V_2 V_3 V_4 V_5 V_6 V_7 V_8 V_9 V_10 V_11 V_12 V_13
    go_wp2
    rw [← hW7]
    go_roundw
    case rel => exact ⟨i + 1,by omega,by go_num,by rw [HN2.out],BB⟩
    case measure => simp [intOf]; omega
  ·obtain rfl : i = n := by omega
   have g1 : ¬ (i : Int) < (i : Int) := by omega
   go_wp2
   go_ret
   exact ⟨rfl,BB⟩
set_option maxRecDepth 100000 in
set_option maxHeartbeats 8000000 in
theorem table_at (F : Int) (v : Value) (go gs n : Nat) (t : Nat → Nd) (r : Nat → Cl) (sh : Nat → Rat) (S L C : Nat) (w : World) (hT : TRow w v n t L) (hO : ∀ x,x < n → (t x).leaf = false → w.cell? ⟨go,x,none⟩ = some (.int .i64 (nxt (t x) r : Int))) (hSh : GArr w gs n sh (2 * L)) (hse : ∀ x,x < n → (t x).leaf = false → sh (kl t x) = (t (kl t x)).cov / (t x).cov ∧ sh (kr t x) = (t (kr t x)).cov / (t x).cov) (hm : MayT F t n) (hF : F ≤ 64) (hA : askN t n < S) (hS : S ≤ 4096) (ht : Tab w) (hL : 1 ≤ L) (hC : 4 * L + 2 ≤ C) (hCn : n * C ≤ 20000) :
  Calls Tryz.prog 54 #[.agg #[v,.slice (some ⟨go,0,none⟩) n n,.slice (some ⟨gs,0,none⟩) n n],.int .i64 (S : Int)] w fun e w' => ∃ g,e = .returned (.slice (some ⟨g,0,none⟩) S S) ∧ w.heap.size ≤ g ∧ GArr w' g S (fun s => say t n r s 0) (n * C) ∧ Below w.heap.size w w' := by
 obtain ⟨at_,ct,rfl,htc,ht63⟩ := hT.open
 obtain ⟨i0,hi,hz0,hz1,hz2⟩ := info_parts info_wrat
 have HT0 : Hid (TRow w (.slice at_ n ct) n t L) := hT
 have HTB : Hid (Tab w) := ht
 have HM : Hid (MayT F t n) := hm
 have HO : Hid (∀ x,x < n → (t x).leaf = false → w.cell? ⟨go,x,none⟩ = some (.int .i64 (nxt (t x) r : Int))) := hO
 have HSH : Hid (GArr w gs n sh (2 * L)) := hSh
 have HSE : Hid (∀ x,x < n → (t x).leaf = false → sh (kl t x) = (t (kl t x)).cov / (t x).cov ∧ sh (kr t x) = (t (kr t x)).cov / (t x).cov) := hse
 have hn0 : 0 < n := hm.pos
 have hgw : gs < w.heap.size := hSh.lt hn0
 have HAN : Hid (askN t n < S) := hA
 have HSA : Hid (∀ s,say t n r (s &&& askN t n) 0 = say t n r s 0) := fun s => hm.say_asked r s
 clear hT ht hm hO hSh hse hA
 have BB : Below w.heap.size w w := Below.refl _ _
 obtain ⟨Wb0,hW0,hS0,hL0,VV⟩ := V3.lay w 101 (.slice at_ n ct) (.slice (some ⟨go,0,none⟩) n n) (.slice (some ⟨gs,0,none⟩) n n)
 replace BB := BB.trans (hL0.mono BB.size)
 clear hL0
 go_enter Tryz.func54,Tryz.ntmps54
 obtain ⟨v0,v1,v2,v3,v4,v5⟩ := id VV
 rw [hW0] at v0 v1 v2
 clear v3 v4 v5
 go_wp2_with fail
 clear v0 v1 v2
 rw [← hW0]
 clear hW0 hS0
 refine (asked_at F _ _ _ _ _ _ _ n t L _ (HT0.out.below BB) HM.out hF).mono ?_
 rintro e w1 ⟨rfl,b1⟩
 replace VV := VV.below b1
 replace BB := BB.trans (b1.mono BB.size)
 clear b1
 obtain ⟨A,hAe⟩ : ∃ A,askN t n = A := ⟨_,rfl⟩
 rw [hAe] at HAN HSA ⊢
 clear hAe
 go_wp2_with (at_make; refine wpList_make_full _ rfl _ _ 31 rfl _ 40 i0 (.agg #[.bool false,.slice none 0 0,.slice none 0 0]) 3 Tryz.underlying31 hi hz0 hz1 _ _ _ _ S rfl rfl (by omega) (by omega) (by rw [hz2]; omega) (by unfold maxLen; omega) (Nat.le_refl _) ?_; intro w2 hown hgrow)
 have hb1 := below_grown hgrow
 have GA0 := GArr.made hown (n * C)
 have hSp : 0 < S := by have := HAN.out; omega
 have hGl : w1.heap.size < w2.heap.size := GA0.lt hSp
 have GA : GArr w2 w1.heap.size S (fun j => if j < 0 then say t n r j 0 else 0) (n * C) := GA0.congr (fun j _ => by rw [if_neg (by omega)])
 have hGV : w1.heap.size ≠ w.heap.size := fun e => by have := VV.lt; omega
 have hGB : w.heap.size ≤ w1.heap.size := BB.size
 replace VV := VV.below hb1
 replace BB := BB.trans (hb1.mono BB.size)
 clear hown hgrow hb1 GA0 hGl hi hz0 hz1 hz2
 generalize w1.heap.size = G at *
 go_loopw [15] (fun vi wr => ∃ i : Nat,i ≤ S ∧ vi = .int .i64 (i : Int) ∧ GArr wr G S (fun j => if j < i then say t n r j 0 else 0) (n * C) ∧ V3 wr w.heap.size (.slice at_ n ct) (.slice (some ⟨go,0,none⟩) n n) (.slice (some ⟨gs,0,none⟩) n n) ∧ Below w.heap.size w wr) (fun vi _ => S - (intOf vi).toNat)
 case atStart => exact ⟨0,by omega,rfl,GA,VV,BB⟩
 case round =>
  clear GA VV BB
  obtain ⟨i,hi,rfl,GA,VV,BB⟩ := hrel
  by_cases hlt : i < S
  ·have g0 : (0 : Int) ≤ (i : Int) := by omega
   have g1 : (i : Int) < (S : Int) := by omega
   have wi : IntKind.i64.wrap ((i : Int) + 1) = (i : Int) + 1 := by rw [IntKind.wrap_i64]; omega
   have hA := HAN.out
   have wa : IntKind.i64.wrap (A : Int) = (A : Int) := by rw [IntKind.wrap_i64]; omega
   have wu : IntKind.u64.wrap (i : Int) = (i : Int) := by rw [IntKind.wrap_u64]; omega
   have hand : bits .and .i64 (i : Int) (A : Int) = ((i &&& A : Nat) : Int) := and_i64 i A (by omega) (by omega)
   have hle : i &&& A ≤ i := Nat.and_le_left
   have HSI := HSA.out i
   obtain ⟨q,hq⟩ : ∃ q,i &&& A = q := ⟨_,rfl⟩
   rw [hq] at hand hle HSI
   clear hq
   obtain ⟨v0,v1,v2,v3,v4,v5⟩ := id VV
   clear v3 v4 v5
   by_cases heq : q = i
   ·obtain ⟨i2,hi2⟩ : ∃ i2,i2 = i := ⟨i,rfl⟩
    subst heq
    have e9 : ((q : Int) == (q : Int)) = true := by simp
    clear hi2 i2
    go_wp2_with fail
    clear v0 v1 v2
    refine (said_at F _ go gs n t r sh q L C _ (HT0.out.below BB) (fun x hx hl => (BB.cell (p := ⟨go,x,none⟩) (World.block_lt_of_cell? _ _ (HO.out x hx hl))).trans (HO.out x hx hl)) (HSH.out.below BB) HSE.out HM.out hF (by omega) (HTB.out.below BB) hL hC (by omega)).mono ?_
    rintro e w4 ⟨x4,rfl,h4,b4⟩
    replace GA := GA.below b4
    replace VV := VV.below b4
    replace BB := BB.trans (b4.mono BB.size)
    obtain ⟨p6,a6,n6,c6,y6,m6,d6,rfl⟩ := h4.open
    clear b4
    obtain ⟨u0,u1,u2,x0,x1,x2,y0,y1,y2,GA2,KQ⟩ := GA.put hlt h4
    replace GA2 := GA2.congr (q' := fun j => if j < q + 1 then say t n r j 0 else 0) (fun j _ => by
     by_cases e : j = q
     ·rw [if_pos e,if_pos (by omega),e]
     ·rw [if_neg e]
      by_cases e2 : j < q
      ·rw [if_pos e2,if_pos (by omega)]
      ·rw [if_neg e2,if_neg (by omega)])
    have BB2 : Below w.heap.size w (((w4.setCell ⟨G,q * 3,none⟩ (.bool p6)).setCell ⟨G,q * 3 + 1,none⟩ (.slice a6 n6 c6)).setCell ⟨G,q * 3 + 2,none⟩ (.slice y6 m6 d6)) := ((BB.setCell hGB _).setCell hGB _).setCell hGB _
    have VV2 : V3 (((w4.setCell ⟨G,q * 3,none⟩ (.bool p6)).setCell ⟨G,q * 3 + 1,none⟩ (.slice a6 n6 c6)).setCell ⟨G,q * 3 + 2,none⟩ (.slice y6 m6 d6)) w.heap.size (.slice at_ n ct) (.slice (some ⟨go,0,none⟩) n n) (.slice (some ⟨gs,0,none⟩) n n) := VV.block11 (put3_block _ _ _ _ _ _ _ (fun e => hGV e.symm))
    clear KQ GA VV BB
    go_wp2
    go_roundw
    case rel => exact ⟨q + 1,by omega,by go_num,GA2,VV2,BB2⟩
    case measure => simp [intOf]; omega
   ·have hq2 : q < i := by omega
    have hqS : q < S := by omega
    have e9 : ((q : Int) == (i : Int)) = false := by simp; omega
    have e9b : decide ((q : Int) = (i : Int)) = false := decide_eq_false (by omega)
    have e9c : decide (q = i) = false := decide_eq_false heq
    have k0 : (0 : Int) ≤ (q : Int) := by omega
    have k1 : (q : Int) < (S : Int) := by omega
    obtain ⟨p6,a6,n6,c6,y6,m6,d6,z0,z1,z2,hr6⟩ := GA.at hqS
    have hr7 : RatAt wr (.agg #[.bool p6,.slice a6 n6 c6,.slice y6 m6 d6]) (say t n r i 0) (n * C) := by
     have h9 := hr6
     simp only [if_pos hq2] at h9
     rw [HSI] at h9
     exact h9
    clear hr6 heq HSI
    obtain ⟨u0,u1,u2,x0,x1,x2,y0,y1,y2,GA2,KQ⟩ := GA.put hlt hr7
    replace GA2 := GA2.congr (q' := fun j => if j < i + 1 then say t n r j 0 else 0) (fun j _ => by
     by_cases e : j = i
     ·rw [if_pos e,if_pos (by omega),e]
     ·rw [if_neg e]
      by_cases e2 : j < i
      ·rw [if_pos e2,if_pos (by omega)]
      ·rw [if_neg e2,if_neg (by omega)])
    have BB2 : Below w.heap.size w (((wr.setCell ⟨G,i * 3,none⟩ (.bool p6)).setCell ⟨G,i * 3 + 1,none⟩ (.slice a6 n6 c6)).setCell ⟨G,i * 3 + 2,none⟩ (.slice y6 m6 d6)) := ((BB.setCell hGB _).setCell hGB _).setCell hGB _
    have VV2 : V3 (((wr.setCell ⟨G,i * 3,none⟩ (.bool p6)).setCell ⟨G,i * 3 + 1,none⟩ (.slice a6 n6 c6)).setCell ⟨G,i * 3 + 2,none⟩ (.slice y6 m6 d6)) w.heap.size (.slice at_ n ct) (.slice (some ⟨go,0,none⟩) n n) (.slice (some ⟨gs,0,none⟩) n n) := VV.block11 (put3_block _ _ _ _ _ _ _ (fun e => hGV e.symm))
    clear KQ GA VV BB
    go_wp2
    go_roundw
    case rel => exact ⟨i + 1,by omega,by go_num,GA2,VV2,BB2⟩
    case measure => simp [intOf]; omega
  ·obtain rfl : i = S := by omega
   have g1 : ¬ (i : Int) < (i : Int) := by omega
   have GF := GA.congr (q' := fun j => say t n r j 0) (fun j hj => by rw [if_pos hj])
   go_wp2
   go_ret
   exact ⟨_,rfl,hGB,GF,BB⟩

theorem info_rats11 : (Tryz.prog.info? 31).map (fun i => (i.zero,i.size,i.bytes)) = some (some (.slice none 0 0),1,24) := by kernel_rfl
theorem made_nil11 (n i : Nat) (h : i < n) : (madeCells (Value.slice none 0 0).cells (n * 1)).toList[i]? = some (.slice none 0 0) := by
 simp [madeCells,Value.cells,h,Nat.mod_one]
def TabI (w : World) (G k j S : Nat) (q : Nat → Nat → Rat) (B : Nat) : Prop :=
 (∀ i,i < k → w.frozen? ⟨G,i,none⟩ = false ∧ ∃ a n c,w.cell? ⟨G,i,none⟩ = some (.slice a n c)) ∧ ∀ i,i < j → ∃ g,G < g ∧ w.cell? ⟨G,i,none⟩ = some (.slice (some ⟨g,0,none⟩) S S) ∧ GArr w g S (q i) B
theorem TabI.below {w w' : World} {G k j S : Nat} {q : Nat → Nat → Rat} {B : Nat} (h : TabI w G k j S q B) (hb : Below w.heap.size w w') : TabI w' G k j S q B := by
 refine ⟨fun i hi => ?_,fun i hi => ?_⟩
 ·obtain ⟨h1,a,n,c,h2⟩ := h.1 i hi
  have hl := World.block_lt_of_cell? _ _ h2
  exact ⟨(hb.frozen (p := ⟨G,i,none⟩) hl).trans h1,a,n,c,(hb.cell (p := ⟨G,i,none⟩) hl).trans h2⟩
 ·obtain ⟨g,h1,h2,h3⟩ := h.2 i hi
  exact ⟨g,h1,(hb.cell (p := ⟨G,i,none⟩) (World.block_lt_of_cell? _ _ h2)).trans h2,h3.below hb⟩
theorem TabI.put {w : World} {G k j S g : Nat} {q : Nat → Nat → Rat} {B : Nat} (h : TabI w G k j S q B) (hj : j < k) (hg : G < g) (hG : GArr w g S (q j) B) :
  w.frozen? ⟨G,j,none⟩ = false ∧ (∃ a n c,w.cell? ⟨G,j,none⟩ = some (.slice a n c)) ∧ TabI (w.setCell ⟨G,j,none⟩ (.slice (some ⟨g,0,none⟩) S S)) G k (j + 1) S q B := by
 obtain ⟨h1,a,n,c,h2⟩ := h.1 j hj
 have K := keepL_set h2 (limb_slice _ _ _) (.slice (some ⟨g,0,none⟩) S S)
 refine ⟨h1,⟨a,n,c,h2⟩,fun i hi => ?_,fun i hi => ?_⟩
 ·obtain ⟨f1,a',n',c',f2⟩ := h.1 i hi
  refine ⟨by simp [f1],?_⟩
  by_cases e : i = j
  ·subst e
   exact ⟨_,_,_,World.cell?_setCell_same _ _ _ h2⟩
  ·exact ⟨a',n',c',cell_set_by f2 e⟩
 ·by_cases e : i = j
  ·subst e
   exact ⟨g,hg,World.cell?_setCell_same _ _ _ h2,hG.block11 (Below.heap_setCell _ _ _ _ (by show g ≠ G; omega)) K⟩
  ·obtain ⟨g',f1,f2,f3⟩ := h.2 i (by omega)
   exact ⟨g',f1,cell_set_by f2 e,f3.block11 (Below.heap_setCell _ _ _ _ (by show g' ≠ G; omega)) K⟩
structure OnC (w : World) (go n : Nat) (t : Nat → Nd) (r : Nat → Cl) : Prop where
 out : ∀ x,x < n → (t x).leaf = false → w.cell? ⟨go,x,none⟩ = some (.int .i64 (nxt (t x) r : Int))
theorem OnC.below {w w' : World} {go n : Nat} {t : Nat → Nd} {r : Nat → Cl} (h : OnC w go n t r) (hb : Below w.heap.size w w') : OnC w' go n t r :=
 ⟨fun x hx hl => (hb.cell (p := ⟨go,x,none⟩) (World.block_lt_of_cell? _ _ (h.out x hx hl))).trans (h.out x hx hl)⟩
theorem V2.blk {W W' : World} {R : Nat} {x y : Value} (h : V2 W R x y) (hb : W'.heap[R]? = W.heap[R]?) : V2 W' R x y :=
 ⟨(World.cell?_of_block (a := ⟨R,0,none⟩) hb).trans h.1,(World.cell?_of_block (a := ⟨R,1,none⟩) hb).trans h.2.1,(World.frozen?_of_block (a := ⟨R,0,none⟩) hb).trans h.2.2.1,(World.frozen?_of_block (a := ⟨R,1,none⟩) hb).trans h.2.2.2⟩
set_option maxRecDepth 100000 in
set_option maxHeartbeats 4000000 in
theorem table_no (F : Int) (vm vr : Value) (k nr : Nat) (N : Nat → Nat) (T : Nat → Nat → Nd) (r : Nat → Cl) (L C : Nat) (w : World) (hM : MRow w vm k N T L) (hR : CRow w vr nr r L) (hT : Tab w) (hL : 1 ≤ L) (hC : 4 * L + 2 ≤ C) (hCn : 255 * C ≤ 10000) (hw : whyI F k N T nr ≠ 0) :
  Calls Tryz.prog 16 #[.agg #[.int .i64 F,vm],vr] w fun e w' => e = .returned (.tuple #[.slice none 0 0,.int .i64 (whyI F k N T nr)]) ∧ Below w.heap.size w w' := by
 obtain ⟨ao,c,rfl,hnc,hc63⟩ := hM.open
 obtain ⟨ar,cr,rfl,hrc,hr63⟩ := hR.open
 obtain ⟨W0,hW0,hS0,hL0,VM⟩ := V2.lay w 24 (.int .i64 F) (.slice ao k c)
 have BB : Below w.heap.size w W0 := hL0
 clear hL0
 have HM0 : Hid (MRow w (.slice ao k c) k N T L) := hM
 have HR0 : Hid (CRow w (.slice ar nr cr) nr r L) := hR
 have HT0 : Hid (Tab w) := hT
 clear hM hR hT
 go_enter Tryz.func16,Tryz.ntmps16
 obtain ⟨VM_0,VM_1,VM_2,VM_3⟩ := id VM
 rw [hW0] at VM_0 VM_1 VM_2 VM_3
 go_wp2_with fail
 clear VM_0 VM_1 VM_2 VM_3
 rw [← hW0]
 clear hW0 hS0
 refine (rfits_at F _ _ k nr N T r L _ (HM0.out.below BB) (HR0.out.below BB) (HT0.out.below BB) hL (by omega)).mono ?_
 rintro e w1 ⟨rfl,b1⟩
 replace VM := VM.below b1
 replace BB := BB.trans (b1.mono BB.size)
 clear b1
 obtain ⟨e1,he1⟩ : ∃ e1,whyI F k N T nr = e1 := ⟨_,rfl⟩
 have HE : Hid (whyI F k N T nr = e1) := he1
 rw [he1] at hw
 rw [he1]
 clear he1
 have g2 : (e1 != 0) = true := by simpa using hw
 have g3 : decide (e1 = 0) = false := decide_eq_false hw
 go_wp2
 go_ret2
 exact ⟨by rw [HE.out]; rfl,BB⟩
set_option maxRecDepth 100000 in
set_option maxHeartbeats 4000000 in
theorem table_limit (vm vr : Value) (k nr : Nat) (N : Nat → Nat) (T : Nat → Nat → Nd) (r : Nat → Cl) (L C : Nat) (w : World) (hM : MRow w vm k N T L) (hR : CRow w vr nr r L) (hT : Tab w) (hL : 1 ≤ L) (hC : 4 * L + 2 ≤ C) (hCn : 255 * C ≤ 10000) (hw : whyI (nr : Int) k N T nr = 0) (h12 : 12 < nr) :
  Calls Tryz.prog 16 #[.agg #[.int .i64 (nr : Int),vm],vr] w fun e w' => e = .returned (.tuple #[.slice none 0 0,.int .i64 16]) ∧ Below w.heap.size w w' := by
 obtain ⟨ao,c,rfl,hnc,hc63⟩ := hM.open
 obtain ⟨ar,cr,rfl,hrc,hr63⟩ := hR.open
 obtain ⟨W0,hW0,hS0,hL0,VM⟩ := V2.lay w 24 (.int .i64 (nr : Int)) (.slice ao k c)
 have BB : Below w.heap.size w W0 := hL0
 clear hL0
 have HM0 : Hid (MRow w (.slice ao k c) k N T L) := hM
 have HR0 : Hid (CRow w (.slice ar nr cr) nr r L) := hR
 have HT0 : Hid (Tab w) := hT
 clear hM hR hT
 go_enter Tryz.func16,Tryz.ntmps16
 obtain ⟨VM_0,VM_1,VM_2,VM_3⟩ := id VM
 rw [hW0] at VM_0 VM_1 VM_2 VM_3
 go_wp2_with fail
 clear VM_0 VM_1 VM_2 VM_3
 rw [← hW0]
 clear hW0 hS0
 refine (rfits_at (nr : Int) _ _ k nr N T r L _ (HM0.out.below BB) (HR0.out.below BB) (HT0.out.below BB) hL (by omega)).mono ?_
 rintro e w1 ⟨rfl,b1⟩
 replace VM := VM.below b1
 replace BB := BB.trans (b1.mono BB.size)
 clear b1
 rw [hw]
 clear hw
 obtain ⟨VM_0,VM_1,VM_2,VM_3⟩ := id VM
 have j1 : (12 : Int) < (nr : Int) := by omega
 go_wp2
 go_ret2
 exact ⟨rfl,BB⟩
set_option maxRecDepth 100000 in
set_option maxHeartbeats 16000000 in
theorem table_yes (vm vr : Value) (k nr : Nat) (N : Nat → Nat) (T : Nat → Nat → Nd) (r : Nat → Cl) (L C : Nat) (w : World) (hM : MRow w vm k N T L) (hR : CRow w vr nr r L) (hT : Tab w) (hL : 1 ≤ L) (hC : 4 * L + 2 ≤ C) (hCn : 255 * C ≤ 10000) (S : Nat) (hS : S = 2 ^ nr) (hw : whyI (nr : Int) k N T nr = 0) (h12 : nr ≤ 12) (hk : k ≤ 6) (hm : ∀ i,i < k → MayT (nr : Int) (T i) (N i)) :
  Calls Tryz.prog 16 #[.agg #[.int .i64 (nr : Int),vm],vr] w fun e w' => ∃ u,e = .returned (.tuple #[u,.int .i64 0]) ∧ FRow w' u S (fun s => sumq (sayV T N r s) k) ∧ Below w.heap.size w w' := by
 obtain ⟨ao,c,rfl,hnc,hc63⟩ := hM.open
 obtain ⟨ar,cr,rfl,hrc,hr63⟩ := hR.open
 obtain ⟨W0,hW0,hS0,hL0,VM⟩ := V2.lay w 24 (.int .i64 (nr : Int)) (.slice ao k c)
 have BB : Below w.heap.size w W0 := hL0
 clear hL0
 have HM0 : Hid (MRow w (.slice ao k c) k N T L) := hM
 have HR0 : Hid (CRow w (.slice ar nr cr) nr r L) := hR
 have HT0 : Hid (Tab w) := hT
 clear hM hR hT
 go_enter Tryz.func16,Tryz.ntmps16
 obtain ⟨VM_0,VM_1,VM_2,VM_3⟩ := id VM
 rw [hW0] at VM_0 VM_1 VM_2 VM_3
 go_wp2_with fail
 clear VM_0 VM_1 VM_2 VM_3
 rw [← hW0]
 clear hW0 hS0
 refine (rfits_at (nr : Int) _ _ k nr N T r L _ (HM0.out.below BB) (HR0.out.below BB) (HT0.out.below BB) hL (by omega)).mono ?_
 rintro e w1 ⟨rfl,b1⟩
 replace VM := VM.below b1
 replace BB := BB.trans (b1.mono BB.size)
 clear b1
 rw [hw]
 have HMY : Hid (∀ i,i < k → MayT (nr : Int) (T i) (N i)) := hm
 clear hw hm
 have j1 : ¬ (12 : Int) < (nr : Int) := by omega
 have j2 : (nr : Int) ≤ 64 := by omega
 have j3 : (0 : Int) ≤ (nr : Int) := by omega
 have hS4 : S ≤ 4096 := by rw [hS]; exact Nat.le_trans (Nat.pow_le_pow_right (by omega) h12) (by decide)
 have hS1 : 1 ≤ S := by rw [hS]; exact Nat.two_pow_pos nr
 have HSP : Hid (S = 2 ^ nr) := hS
 have hsh : IntKind.i64.wrap ((2 : Int) ^ nr) = (S : Int) := by
  have e1 : ((2 : Int) ^ nr) = (S : Int) := by rw [hS]; simp
  rw [e1,IntKind.wrap_i64]
  omega
 have hAS : Hid (∀ i,i < k → askN (T i) (N i) < S) := fun i hi => by
  show _ < S
  rw [HSP.out]
  exact askN_lt (m := nr) (n := N i) (fun x hx hl => by have := (HMY.out i hi).feat x hx hl; omega) (N i) (Nat.le_refl _)
 clear hS
 obtain ⟨i0,hi,hz0,hz1,hz2⟩ := info_parts info_wrat
 obtain ⟨i1,hj,hy0,hy1,hy2⟩ := info_parts info_rats11
 obtain ⟨VM_0,VM_1,VM_2,VM_3⟩ := id VM
 go_wp2_with (at_make; refine wpList_make_full _ rfl _ _ 99 rfl _ 31 i1 (.slice none 0 0) 1 Tryz.underlying99 hj hy0 hy1 _ _ _ _ k rfl rfl (by omega) (by omega) (by rw [hy2]; omega) (by unfold maxLen; omega) (Nat.le_refl _) ?_; intro w2 hown hgrow; have hb1 := below_grown hgrow; have BB1 := BB.trans (hb1.mono BB.size); have VM1 := VM.below hb1; obtain ⟨q1,q2,q3,q4⟩ := id VM1; clear VM_0 VM_1 VM_2 VM_3)
 have TI : TabI w2 w1.heap.size k 0 S (fun j s => say (T j) (N j) r s 0) 10000 := ⟨fun i hi => ⟨hown.frozenAt _,_,_,_,owns_cell hown (made_nil11 k i hi)⟩,fun i hi => by omega⟩
 have hGB : w.heap.size ≤ w1.heap.size := BB.size
 have hGw : w1.heap.size < w2.heap.size := (owns_cap hown).2.2
 have hGV : w1.heap.size ≠ w.heap.size := fun e => by have := VM.lt; omega
 clear q1 q2 q3 q4 hown hgrow hb1 VM BB hj hy0 hy1 hy2
 have VM := VM1
 have BB := BB1
 clear VM1 BB1
 generalize w1.heap.size = G at *
 go_loopw [31] (fun vi wr => ∃ i : Nat,i ≤ k ∧ vi = .int .i64 (i : Int) ∧ TabI wr G k i S (fun j s => say (T j) (N j) r s 0) 10000 ∧ V2 wr w.heap.size (.int .i64 (nr : Int)) (.slice ao k c) ∧ G < wr.heap.size ∧ Below w.heap.size w wr) (fun vi _ => k - (intOf vi).toNat)
 case atStart => exact ⟨0,by omega,rfl,TI,VM,hGw,BB⟩
 case round =>
  clear TI VM BB hGw
  obtain ⟨i,hi_,rfl,TI,VM,hGw,BB⟩ := hrel
  obtain ⟨q1,q2,q3,q4⟩ := id VM
  by_cases hlt : i < k
  ·have g1 : (i : Int) < (k : Int) := by omega
   have g0 : (0 : Int) ≤ (i : Int) := by omega
   have wi : IntKind.i64.wrap ((i : Int) + 1) = (i : Int) + 1 := by rw [IntKind.wrap_i64]; omega
   obtain ⟨b,off,cc,a,d,hvv,hcc,XC0,TR0⟩ := HM0.out.at hlt
   cases hvv
   have XC : wr.cell? ⟨b,off + i,none⟩ = some (.slice a (N i) d) := (BB.cell (p := ⟨b,off + i,none⟩) (World.block_lt_of_cell? _ _ XC0)).trans XC0
   have HMT : Hid (MayT (nr : Int) (T i) (N i)) := HMY.out i hlt
   have HTR : Hid (TRow w (.slice a (N i) d) (N i) (T i) L) := TR0
   have HNC : Hid (N i * C ≤ 10000) := Nat.le_trans (Nat.mul_le_mul_right C HMT.out.few) hCn
   clear XC0 TR0
   go_wp2
   clear XC q1 q2 q3 q4
   have hDr : Below wr.heap.size wr wr.drew := (Below.refl _ _).drew
   replace TI := TI.below hDr
   replace VM := VM.below hDr
   replace BB := BB.trans (hDr.mono BB.size)
   clear hDr
   refine wp_region_held_drew (S := (fun w' => w'.cell? ⟨w.heap.size,0,none⟩ = some (.int .i64 (nr : Int)))) (by kernel_rfl) ?_ (fun hHeld => ?_)
   ·exact VM.1
   generalize wr.drew = W41 at *
   refine xT 0 (v := ?_) (hy := Or.inl ⟨by rfl,?_⟩) (h := ?_)
   rotate_left
   ·(intro w hSw; (try dsimp only at hSw); go_simp; (try with_reducible rfl))
   (try simp only [Act.put,xL4,xL5,xL6])
   refine xT 1 (v := ?_) (hy := Or.inl ⟨by rfl,?_⟩) (h := ?_)
   rotate_left
   ·(intro w hSw; (try dsimp only at hSw); go_simp; (try with_reducible rfl))
   (try simp only [Act.put,xL4,xL5,xL6])
   refine xT 2 (v := ?_) (hy := Or.inl ⟨by rfl,?_⟩) (h := ?_)
   rotate_left
   ·(intro w hSw; (try dsimp only at hSw); go_simp; (try with_reducible rfl))
   (try simp only [Act.put,xL4,xL5,xL6])
   refine xT 3 (v := ?_) (hy := Or.inl ⟨by rfl,?_⟩) (h := ?_)
   rotate_left
   ·(intro w hSw; (try dsimp only at hSw); go_simp; (try with_reducible rfl))
   (try simp only [Act.put,xL4,xL5,xL6])
   refine xT 5 (v := ?_) (hy := Or.inl ⟨by rfl,?_⟩) (h := ?_)
   rotate_left
   ·(intro w hSw; (try dsimp only at hSw); go_simp; (try with_reducible rfl))
   (try simp only [Act.put,xL4,xL5,xL6])
   refine xT 6 (v := ?_) (hy := Or.inl ⟨by rfl,?_⟩) (h := ?_)
   rotate_left
   ·(intro w hSw; (try dsimp only at hSw); go_simp; (try with_reducible rfl))
   (try simp only [Act.put,xL4,xL5,xL6])
   refine xT 7 (v := ?_) (hy := Or.inl ⟨by rfl,?_⟩) (h := ?_)
   rotate_left
   ·(intro w hSw; (try dsimp only at hSw); go_simp; (try with_reducible rfl))
   (try simp only [Act.put,xL4,xL5,xL6])
   refine xR [4] (h := ?_)
   refine xN (h := fun K hK => ?_)
   go_simp
   refine (look_at _ _ (N i) nr (T i) r L _ (HTR.out.below BB) (HR0.out.below BB) HMT.out (HT0.out.below BB) hL (by omega)).mono ?_
   rintro e w21 ⟨go,gs,sh,rfl,hgo,hgs,hO,hSh,hse,b21⟩
   have HOC : OnC w21 go (N i) (T i) r := ⟨hO⟩
   have HSE : Hid (∀ x,x < N i → (T i x).leaf = false → sh (kl (T i) x) = (T i (kl (T i) x)).cov / (T i x).cov ∧ sh (kr (T i) x) = (T i (kr (T i) x)).cov / (T i x).cov) := hse
   clear hO hse
   go_wp2_with fail
   replace TI := TI.below b21
   replace VM := VM.below b21
   replace BB := BB.trans (b21.mono BB.size)
   clear b21
   refine hK.out _ _ ?_ (fun hH1 => ?_)
   ·exact VM.1
   clear hK K hHeld
   (try simp only [Act.put,xL4,xL5,xL6])
   refine xR [8] (h := ?_)
   refine xN (h := fun K hK => ?_)
   go_simp
   refine (table_at (nr : Int) _ go gs (N i) (T i) r sh S L C _ (HTR.out.below BB) HOC.out hSh HSE.out HMT.out j2 (hAS.out i hlt) hS4 (HT0.out.below BB) hL hC (by have := HNC.out; omega)).mono ?_
   rintro e w22 ⟨g8,rfl,hg8_,hG8,b22⟩
   have hg8 : G < g8 := by obtain ⟨_,_,_,_,h9⟩ := TI.1 i hlt; exact Nat.lt_of_lt_of_le (World.block_lt_of_cell? _ _ h9) hg8_
   go_wp2_with fail
   replace TI := TI.below b22
   replace VM := VM.below b22
   replace hSh := hSh.below b22
   replace HOC := HOC.below b22
   replace BB := BB.trans (b22.mono BB.size)
   clear b22
   refine hK.out _ _ ?_ (fun hH2 => ?_)
   ·exact VM.1
   clear hK K hH1
   (try simp only [Act.put,xL4,xL5,xL6])
   refine xT 9 (v := ?_) (hy := Or.inl ⟨by rfl,?_⟩) (h := ?_)
   rotate_left
   ·(intro w hSw; (try dsimp only at hSw); go_simp; (try with_reducible rfl))
   (try simp only [Act.put,xL4,xL5,xL6])
   refine xR [10] (h := ?_)
   refine xN (h := fun K hK => ?_)
   have hGl : G < g8 := by have := hg8; omega
   obtain ⟨x5,⟨a5,n5,c5,y5⟩,TI2⟩ := TI.put hlt hGl (hG8.grow HNC.out)
   have BB2 : Below w.heap.size w (w22.setCell ⟨G,i,none⟩ (.slice (some ⟨g8,0,none⟩) S S)) := BB.setCell (p := ⟨G,i,none⟩) hGB _
   have VM2 := VM.blk (W' := w22.setCell ⟨G,i,none⟩ (.slice (some ⟨g8,0,none⟩) S S)) (Below.heap_setCell _ _ _ _ (fun e => hGV e.symm))
   have hGw2 : G < (w22.setCell ⟨G,i,none⟩ (.slice (some ⟨g8,0,none⟩) S S)).heap.size := by simp; have := World.block_lt_of_cell? _ _ y5; exact this
   go_simp
   clear x5 y5 TI VM BB hG8 hSh HOC
   generalize w22.setCell ⟨G,i,none⟩ (.slice (some ⟨g8,0,none⟩) S S) = W9 at *
   have TI := TI2
   have VM := VM2
   have BB := BB2
   clear TI2 VM2 BB2
   refine hK.out _ _ ?_ (fun hH3 => ?_)
   ·exact VM.1
   clear hK K hH2
   (try simp only [Act.put,xL4,xL5,xL6])
   refine wpAnyH_done (by kernel_rfl) ?_ _
   clear hH3
   go_wp2
   go_roundw
   case rel => exact ⟨i + 1,by omega,by go_num,TI,VM,hGw2,BB⟩
   case measure => simp [intOf]; omega
  ·obtain rfl : i = k := by omega
   have g1 : ¬ (i : Int) < (i : Int) := by omega
   have HTI : Hid (TabI wr G i i S (fun j s => say (T j) (N j) r s 0) 10000) := TI
   have HBB : Hid (Below w.heap.size w wr) := BB
   have BO := Below.refl wr.heap.size wr
   clear TI BB
   go_wp2_with (at_make; refine wpList_make_full _ rfl _ _ 31 rfl _ 40 i0 (.agg #[.bool false,.slice none 0 0,.slice none 0 0]) 3 Tryz.underlying31 hi hz0 hz1 _ _ _ _ S rfl rfl (by omega) (by omega) (by rw [hz2]; omega) (by unfold maxLen; omega) (Nat.le_refl _) ?_; intro w2 hown hgrow)
   have VA0 : VArr w2 wr.heap.size S 0 (fun s => sumq (sayV T N r s) i) := by
    obtain ⟨el,A,_⟩ := GArr.made hown 10
    exact ⟨el,A,fun j hj => by omega⟩
   have BB : Below wr.heap.size wr w2 := BO.grown hgrow (Nat.le_refl _) (fun k e => by cases e)
   clear hown hgrow BO q1 q2 q3 q4 VM
   obtain ⟨w1_,hw1_⟩ : ∃ w1_,w1_ = wr := ⟨_,rfl⟩
   rw [← hw1_] at HTI HBB VA0 BB ⊢
   clear hw1_ hGw
   go_loopw [53] (fun vi wr => ∃ s : Nat,s ≤ S ∧ vi = .int .i64 (s : Int) ∧ VArr wr w1_.heap.size S s (fun s => sumq (sayV T N r s) i) ∧ Below w1_.heap.size w1_ wr) (fun vi _ => S - (intOf vi).toNat)
   case atStart => exact ⟨0,by omega,rfl,VA0,BB⟩
   case round =>
    clear VA0 BB
    obtain ⟨s,hs,rfl,VA,BB⟩ := hrel
    by_cases hls : s < S
    ·have f1 : (s : Int) < (S : Int) := by omega
     have f0 : (0 : Int) ≤ (s : Int) := by omega
     have ws : IntKind.i64.wrap ((s : Int) + 1) = (s : Int) + 1 := by rw [IntKind.wrap_i64]; omega
     go_wp2_with (at_make; refine wpList_make_full _ rfl _ _ 31 rfl _ 40 i0 (.agg #[.bool false,.slice none 0 0,.slice none 0 0]) 3 Tryz.underlying31 hi hz0 hz1 _ _ _ _ i rfl rfl (by omega) (by omega) (by rw [hz2]; omega) (by unfold maxLen; omega) (Nat.le_refl _) ?_; intro w2 hown hgrow)
     obtain ⟨w3,hw3⟩ : ∃ w3,w3 = wr := ⟨_,rfl⟩
     have BG : Below wr.heap.size wr w2 := (Below.refl _ _).grown hgrow (Nat.le_refl _) (fun k e => by cases e)
     have GA : GArr w2 wr.heap.size i (fun j => if j < 0 then sayV T N r s j else 0) 10000 := (GArr.made hown 10000).congr (fun j _ => by rw [if_neg (by omega)])
     clear hown hgrow
     rw [← hw3] at GA BG VA BB ⊢
     clear hw3
     have HVA : Hid (VArr w3 w1_.heap.size S s (fun s => sumq (sayV T N r s) i)) := VA
     have HB3 : Hid (Below w1_.heap.size w1_ w3) := BB
     clear VA BB
     go_loopw [61] (fun vj wr => ∃ j : Nat,j ≤ i ∧ vj = .int .i64 (j : Int) ∧ GArr wr w3.heap.size i (fun jj => if jj < j then sayV T N r s jj else 0) 10000 ∧ Below w3.heap.size w3 wr) (fun vj _ => i - (intOf vj).toNat)
     case atStart => exact ⟨0,by omega,rfl,GA,BG⟩
     case round =>
      clear GA BG
      obtain ⟨j,hj,rfl,GA,BG⟩ := hrel
      by_cases hjl : j < i
      ·have k1 : (j : Int) < (i : Int) := by omega
       have k0 : (0 : Int) ≤ (j : Int) := by omega
       have wj : IntKind.i64.wrap ((j : Int) + 1) = (j : Int) + 1 := by rw [IntKind.wrap_i64]; omega
       obtain ⟨g7,hg7,X7,G7⟩ := (HTI.out.below (HB3.out.trans (BG.mono HB3.out.size))).2 j hjl
       obtain ⟨p6,a6,n6,c6,y6,m6,d6,z0,z1,z2,hr6⟩ := G7.at hls
       have hr7 : RatAt wr (.agg #[.bool p6,.slice a6 n6 c6,.slice y6 m6 d6]) (sayV T N r s j) 10000 := hr6
       clear hr6 G7
       obtain ⟨u0,u1,u2,x0,x1,x2,y0,y1,y2,GA2,KQ⟩ := GA.put hjl hr7
       replace GA2 := GA2.congr (q' := fun jj => if jj < j + 1 then sayV T N r s jj else 0) (fun jj _ => by
        by_cases e : jj = j
        ·rw [if_pos e,if_pos (by omega),e]
        ·rw [if_neg e]
         by_cases e2 : jj < j
         ·rw [if_pos e2,if_pos (by omega)]
         ·rw [if_neg e2,if_neg (by omega)])
       have BG2 : Below w3.heap.size w3 (((wr.setCell ⟨w3.heap.size,j * 3,none⟩ (.bool p6)).setCell ⟨w3.heap.size,j * 3 + 1,none⟩ (.slice a6 n6 c6)).setCell ⟨w3.heap.size,j * 3 + 2,none⟩ (.slice y6 m6 d6)) := ((BG.setCell (Nat.le_refl _) _).setCell (Nat.le_refl _) _).setCell (Nat.le_refl _) _
       clear KQ GA BG hr7
       go_wp2
       go_roundw
       case rel => exact ⟨j + 1,by omega,by go_num,GA2,BG2⟩
       case measure => simp [intOf]; omega
      ·obtain rfl : j = i := by omega
       have k1 : ¬ (j : Int) < (j : Int) := by omega
       have hv := GA.row (by omega)
       have HSU : Hid (sumq (fun jj => if jj < j then sayV T N r s jj else 0) j = sumq (sayV T N r s) j) := sumq_upto _ j j (Nat.le_refl _)
       have VA := HVA.out.below BG
       have BB := HB3.out.trans (BG.mono HB3.out.size)
       have ht := HT0.out.below (HBB.out.trans (BB.mono HBB.out.size))
       clear BG GA
       go_wp2_with fail
       refine (qsum_any 10000 100000 (by omega) (by omega) (by omega) j _ _ _ hv ht (by have := Nat.mul_le_mul_right (10000 + 1) hk; omega)).mono ?_
       rintro e w7 ⟨x7,rfl,h7,b7⟩
       rw [HSU.out] at h7
       replace VA := VA.below b7
       replace BB := BB.trans (b7.mono BB.size)
       obtain ⟨p7,a7,n7,c7,y7,m7,d7,rfl⟩ := h7.open
       obtain ⟨u0,u1,u2,x0,x1,x2,y0,y1,y2,VA2⟩ := VA.put hls h7
       have BB2 : Below w1_.heap.size w1_ (((w7.setCell ⟨w1_.heap.size,s * 3,none⟩ (.bool p7)).setCell ⟨w1_.heap.size,s * 3 + 1,none⟩ (.slice a7 n7 c7)).setCell ⟨w1_.heap.size,s * 3 + 2,none⟩ (.slice y7 m7 d7)) := ((BB.setCell (Nat.le_refl _) _).setCell (Nat.le_refl _) _).setCell (Nat.le_refl _) _
       clear hv h7 b7 VA BB ht
       go_wp2
       go_roundw
       case rel => exact ⟨s + 1,by omega,by go_num,VA2,BB2⟩
       case measure => simp [intOf]; omega
    ·obtain rfl : s = S := by omega
     have f1 : ¬ (s : Int) < (s : Int) := by omega
     have FR := VA.row (by omega)
     go_wp2
     go_ret2
     exact ⟨_,rfl,FR,HBB.out.trans (BB.mono HBB.out.size)⟩
end Go.Proofs.YtgddiimnpliolaaGreatDoor
