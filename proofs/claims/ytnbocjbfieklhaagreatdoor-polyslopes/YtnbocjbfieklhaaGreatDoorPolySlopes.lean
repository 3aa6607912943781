/-
 Proves that Derive,Area and Between answer slope and area of any polynomial of up to 7 coefficients of up to 2 limbs,coefficient by coefficient,and the area between two numbers,whatever comes in (the statement PolySlopes,its tied card); the table of math/bits lies as the program's text lays it; no other condition.
-/
import Derived.Test.YtnbocjbfieklhaaGreatDoorJb016ad185a
import Derived.Test.YtnbocjbfieklhaaGreatDoorRows
import Derived.Test.YtnbocjbfieklhaaGreatDoorJ1f50b5c41f
import Derived.Test.YtnbocjbfieklhaaGreatDoorJ7c3c27c2cf
import Derived.Test.YtnbocjbfieklhaaGreatDoorJ2a251491fe
import Derived.WalkKit
import Derived.ProofKit
import Derived.OpenShut
import Derived.ShutString
import Derived.ChangeOld
import Derived.Below
import Derived.Test.YtnbocjbfieklhaaGreatDoorTie
import Derived.Test.YtnbocjbfieklhaaGreatDoorCards
import Derived.LaidByTextLater
import Derived.LaidHandle
import Derived.Lib.LaidTab
import Derived.SevenTiedAt
namespace Go.Proofs.YtnbocjbfieklhaaGreatDoor.polySlopes
open Go.ChangeShapes Go.WideShapes Go.ChangeAt Go.RowKit
open Go.ChangeMaps (open_string shut_string)
set_option linter.unusedVariables false
set_option linter.unusedSimpArgs false

def KLIST : Nat := 2
theorem area_sz (q : Nat → Rat) (n i : Nat) (hi : i < n + 1) (h : ∀ i,i < n → qsz (q i) ≤ 2) (hn : n ≤ 1000 := by omega) : qsz (areaQ q i) ≤ 6 := by
 unfold areaQ
 split
 ·exact Nat.le_trans (show qsz 0 ≤ 1 by decide +kernel) (by omega)
 ·exact qsz_mul _ _ (h _ (by omega)) (qsz_one_over i (by omega))
theorem area_back (q : Nat → Rat) (i : Nat) : areaQ q (i + 1) * (((i + 1 : Nat) : Int) : Rat) = q i := by
 show (if i + 1 = 0 then 0 else q (i + 1 - 1) * (((1 : Int) : Rat) / (((i + 1 : Nat) : Int) : Rat))) * (((i + 1 : Nat) : Int) : Rat) = q i
 rw [if_neg (by omega),Nat.add_sub_cancel]
 have h0 : (((i + 1 : Nat) : Int) : Rat) ≠ 0 := by
  intro h
  have : ((i + 1 : Nat) : Int) = 0 := by exact_mod_cast h
  omega
 rw [Rat.mul_assoc,Rat.div_mul_cancel h0]
 show q i * 1 = q i
 rw [Rat.mul_one]
/-- The slope of the area is the polynomial. -/
theorem deriv_area (q : Nat → Rat) (n i : Nat) : co (trimN (fun i => areaQ q (i + 1) * (((i + 1 : Nat) : Int) : Rat)) (trimN (areaQ q) (n + 1) - 1)) (fun i => areaQ q (i + 1) * (((i + 1 : Nat) : Int) : Rat)) i = co n q i := by
 rw [co_trim]
 have hl := trimN_le (areaQ q) (n + 1)
 by_cases h : i < trimN (areaQ q) (n + 1) - 1
 ·rw [co_lt h,co_lt (by omega)]; exact area_back q i
 ·rw [co_ge h]
  by_cases h2 : i < n
  ·rw [co_lt h2]
   have hz := trimN_zero (areaQ q) (n + 1) (i + 1) (by omega) (by omega)
   rw [← area_back q i,hz,Rat.zero_mul]
  ·rw [co_ge h2]

set_option maxRecDepth 100000 in
set_option maxHeartbeats 32000000 in
theorem walk (v1 : Value) (n1 : Nat) (q : Nat → Rat) (px : Bool) (ax : Option Addr) (lx cx : Nat) (bx : Option Addr) (kx dx : Nat) (fx gx : Nat → Int) (py : Bool) (ay : Option Addr) (ly cy : Nat) (by_ : Option Addr) (ky dy : Nat) (fy gy : Nat → Int) (w : World) (h1 : RawQ w v1 n1 q KLIST) (h3 : Raw w (.slice ax lx cx) lx fx) (h4 : Raw w (.slice bx kx dx) kx gx) (h5 : Raw w (.slice ay ly cy) ly fy) (h6 : Raw w (.slice by_ ky dy) ky gy) (ht : Tab w) :
  Calls Tryz.prog 7 #[v1,.agg #[.bool px,.slice ax lx cx,.slice bx kx dx],.agg #[.bool py,.slice ay ly cy,.slice by_ ky dy]] w fun e w' => e = .returned (.bool true) ∧ Below w.heap.size w w' := by
 unfold KLIST at h1
 have BB : Below w.heap.size w w := Below.refl _ _
 obtain ⟨Wb0,hW0,hS0,hL0,VX⟩ := V3.lay w 35 (.bool px) (.slice ax lx cx) (.slice bx kx dx)
 replace h1 := h1.below hL0
 replace h3 := h3.below hL0
 replace h4 := h4.below hL0
 replace h5 := h5.below hL0
 replace h6 := h6.below hL0
 replace ht := ht.below hL0
 replace BB := BB.trans (hL0.mono BB.size)
 clear hL0
 obtain ⟨Wb1,hW1,hS1,hL1,VY⟩ := V3.lay Wb0 35 (.bool py) (.slice ay ly cy) (.slice by_ ky dy)
 rw [hS0] at VY hS1
 replace h1 := h1.below hL1
 replace h3 := h3.below hL1
 replace h4 := h4.below hL1
 replace h5 := h5.below hL1
 replace h6 := h6.below hL1
 replace ht := ht.below hL1
 replace VX := VX.below hL1
 replace BB := BB.trans (hL1.mono BB.size)
 clear hL1
 go_enter Tryz.func7,Tryz.ntmps7
 go_wp2_with fail
 rw [← hW0]
 rw [← hW1]
 clear hW0 hW1 hS0 hS1
 have hB0 := VX.lt
 have hB1 := VY.lt
 refine (few4_at _ n1 7 q _ h1 (by omega)).mono ?_
 rintro e w1 ⟨ra,rfl,QA,b1⟩
 replace h1 := h1.below b1
 replace h3 := h3.below b1
 replace h4 := h4.below b1
 replace h5 := h5.below b1
 replace h6 := h6.below b1
 replace ht := ht.below b1
 replace VX := VX.below b1
 replace VY := VY.below b1
 replace BB := BB.trans (b1.mono BB.size)
 clear b1
 clear h1
 obtain ⟨n,hn⟩ : ∃ n,n = min n1 7 := ⟨_,rfl⟩
 rw [← hn] at QA
 have hn7 : n ≤ 7 := by omega
 clear hn
 obtain ⟨aa,ca,rfl,hac,hac63,_⟩ := QA.row.open
 obtain ⟨VX_0,VX_1,VX_2,VX_3,VX_4,VX_5⟩ := id VX
 go_wp2_with fail
 clear VX_0 VX_1 VX_2 VX_3 VX_4 VX_5
 refine (number4_at _ _ _ _ _ _ _ _ h3 h4).mono ?_
 rintro e w2 ⟨aox,cox,box,dox,rfl,hu4,uf4,hv4,vf4,b2⟩
 replace h3 := h3.below b2
 replace h4 := h4.below b2
 replace h5 := h5.below b2
 replace h6 := h6.below b2
 replace ht := ht.below b2
 replace QA := QA.below b2
 replace VX := VX.below b2
 replace VY := VY.below b2
 replace BB := BB.trans (b2.mono BB.size)
 clear b2
 clear h3 h4
 obtain ⟨x,hs⟩ : ∃ s,s = mkRat (zof px (num fx (min lx 2))) (num gx (min kx 2)) := ⟨_,rfl⟩
 have Xx : RatAt w2 (.agg #[.bool px,.slice aox (min lx 2) cox,.slice box (min kx 2) dox]) x 2 := by rw [hs]; exact RatAt.raw hu4 uf4 hv4 vf4 (Nat.min_le_right _ _) (Nat.min_le_right _ _)
 clear hu4 uf4 hv4 vf4 hs
 generalize min lx 2 = l4x at Xx ⊢
 generalize min kx 2 = k4x at Xx ⊢
 have hKp := VX.keepJ (.bool px) (.slice aox l4x cox) (.slice box k4x dox)
 have VY_n := VY.other3 (R := w.heap.size) (by omega) (.bool px) (.slice aox l4x cox) (.slice box k4x dox)
 have VX_n := VX.same (.bool px) (.slice aox l4x cox) (.slice box k4x dox)
 have h5_n := h5.keep hKp
 have h6_n := h6.keep hKp
 have ht_n := ht.keep hKp
 have QA_n := QA.other (grown_set3 w2 (w.heap.size) (.bool px) (.slice aox l4x cox) (.slice box k4x dox)) hKp (fun g hg => by cases hg; omega)
 have Xx_n := Xx.keep hKp
 have BB_n := below_store3 (R := w.heap.size) BB (by omega) (.bool px) (.slice aox l4x cox) (.slice box k4x dox)
 clear hKp
 obtain ⟨VX_0,VX_1,VX_2,VX_3,VX_4,VX_5⟩ := id VX
 obtain ⟨VY_n0,VY_n1,VY_n2,VY_n3,VY_n4,VY_n5⟩ := id VY_n
 go_wp2_with fail
 clear VX_0 VX_1 VX_2 VX_3 VX_4 VX_5 VY_n0 VY_n1 VY_n2 VY_n3 VY_n4 VY_n5
 clear BB h5 h6 ht QA Xx VX VY
 generalize ((w2.setCell ⟨w.heap.size,0,none⟩ (.bool px)).setCell ⟨w.heap.size,1,none⟩ (.slice aox l4x cox)).setCell ⟨w.heap.size,2,none⟩ (.slice box k4x dox) = W1 at *
 have BB := BB_n
 have h5 := h5_n
 have h6 := h6_n
 have ht := ht_n
 have QA := QA_n
 have Xx := Xx_n
 have VX := VX_n
 have VY := VY_n
 clear BB_n h5_n h6_n ht_n QA_n Xx_n VX_n VY_n
 refine (number4_at _ _ _ _ _ _ _ _ h5 h6).mono ?_
 rintro e w3 ⟨aoy,coy,boy,doy,rfl,hu4,uf4,hv4,vf4,b3⟩
 replace h5 := h5.below b3
 replace h6 := h6.below b3
 replace ht := ht.below b3
 replace QA := QA.below b3
 replace Xx := Xx.below b3
 replace VX := VX.below b3
 replace VY := VY.below b3
 replace BB := BB.trans (b3.mono BB.size)
 clear b3
 clear h5 h6
 obtain ⟨y,hs⟩ : ∃ s,s = mkRat (zof py (num fy (min ly 2))) (num gy (min ky 2)) := ⟨_,rfl⟩
 have Xy : RatAt w3 (.agg #[.bool py,.slice aoy (min ly 2) coy,.slice boy (min ky 2) doy]) y 2 := by rw [hs]; exact RatAt.raw hu4 uf4 hv4 vf4 (Nat.min_le_right _ _) (Nat.min_le_right _ _)
 clear hu4 uf4 hv4 vf4 hs
 generalize min ly 2 = l4y at Xy ⊢
 generalize min ky 2 = k4y at Xy ⊢
 have hKp := VY.keepJ (.bool py) (.slice aoy l4y coy) (.slice boy k4y doy)
 have VX_n := VX.other3 (R := w.heap.size + 1) (by omega) (.bool py) (.slice aoy l4y coy) (.slice boy k4y doy)
 have VY_n := VY.same (.bool py) (.slice aoy l4y coy) (.slice boy k4y doy)
 have ht_n := ht.keep hKp
 have QA_n := QA.other (grown_set3 w3 (w.heap.size + 1) (.bool py) (.slice aoy l4y coy) (.slice boy k4y doy)) hKp (fun g hg => by cases hg; omega)
 have Xx_n := Xx.keep hKp
 have Xy_n := Xy.keep hKp
 have BB_n := below_store3 (R := w.heap.size + 1) BB (by omega) (.bool py) (.slice aoy l4y coy) (.slice boy k4y doy)
 clear hKp
 obtain ⟨VY_0,VY_1,VY_2,VY_3,VY_4,VY_5⟩ := id VY
 go_wp2_with fail
 clear VY_0 VY_1 VY_2 VY_3 VY_4 VY_5
 clear BB ht QA Xx Xy VX VY
 generalize ((w3.setCell ⟨w.heap.size + 1,0,none⟩ (.bool py)).setCell ⟨w.heap.size + 1,1,none⟩ (.slice aoy l4y coy)).setCell ⟨w.heap.size + 1,2,none⟩ (.slice boy k4y doy) = W2 at *
 have BB := BB_n
 have ht := ht_n
 have QA := QA_n
 have Xx := Xx_n
 have Xy := Xy_n
 have VX := VX_n
 have VY := VY_n
 clear BB_n ht_n QA_n Xx_n Xy_n VX_n VY_n
 have QA0 := QA.row
 clear QA
 have HBB : Hid (Below w.heap.size w W2) := BB
 clear BB
 have BB : Below W2.heap.size W2 W2 := Below.refl _ _
 have VX0 := VX
 have VY0 := VY
 have Xx0 := Xx
 have Xy0 := Xy
 have ht0 := ht
 clear VX VY Xx Xy ht
 have OA : FOwn W2.heap.size W2 (.slice none 0 0) 0 (areaQ q) := FOwn.nil _ _ _
 refine (qzero_at _).mono ?_
 rintro e w4 ⟨r0,rfl,hr,b4⟩
 replace OA := OA.below b4
 replace BB := BB.trans (b4.mono BB.size)
 clear b4
 obtain ⟨p3,a3,n3,c3,bo3,m3,d3,rfl⟩ := hr.open
 obtain ⟨us,el',o1,o2,o3,o4⟩ := id OA
 have hul : us.length = (0) * 3 := o1.1
 have HO3 : Hid (∀ i',i' < 0 → ∀ j,j < 3 → us[i' * 3 + j]? = some (el' i' j)) := o3
 have HO4 : Hid (∀ i',i' < 0 → RepQ w4 (.agg #[el' i' 0,el' i' 1,el' i' 2]) ((areaQ q) i')) := o4
 have hPO : Hid (∀ g0,Value.ownBlock (.slice none 0 0) = some g0 → PureB IsNum w4 g0) := o2
 have hOb : Hid (∀ g0,Value.ownBlock (.slice none 0 0) = some g0 → W2.heap.size ≤ g0) := fun g0 hg0 => (o1.lt g0 hg0).1
 clear o2 o3 o4
 have A9 : Below w4.heap.size w4 (w4.alloc (.cells #[.bool p3,.slice a3 n3 c3,.slice bo3 m3 d3] 35)) := (Below.refl _ _).alloc (Nat.le_refl _) _
 go_wp2_with (at_builtin; refine wpList_append_pure (Q' := IsNum) rfl _ _ _ rfl W2.heap.size 35 (.agg #[.bool false,.slice none 0 0,.slice none 0 0]) 3 56 Tryz.underlying22 info_wrat rfl (by omega) (.slice none 0 0) rfl (0) us (o1.alloc _) (fun g0 hg0 => (hPO.out g0 hg0).below A9 (o1.lt g0 hg0).2) ⟨w4.heap.size,0,none⟩ 1 rfl [.bool p3,.slice a3 n3 c3,.slice bo3 m3 d3] rfl (news_block (heap_alloc_new _ _)) (by simp [Value.oneCell']) (by simp [num_slice,num_bool]) (by simp [Value.cells,num_slice,num_bool]) (by omega) (by omega) (by have := BB.size; simp; omega) ?_)
 intro gz capz wz ho5 hg5 hat5 hp5 hk5
 replace hat5 : Value.ownBlock (.slice none 0 0) = some gz ∨ gz = (w4.alloc (.cells #[.bool p3,.slice a3 n3 c3,.slice bo3 m3 d3] 35)).heap.size := by rw [World.size_alloc]; exact hat5
 have X_n : FOwn W2.heap.size wz (.slice (some ⟨gz,0,none⟩) (0 + 1) capz) (0 + 1) (areaQ q) := FOwn.more ho5 hp5 hul HO3.out (fun i' hi' => (HO4.out i' hi').below A9) (hr.below A9) hk5
 have BB_n : Below W2.heap.size W2 wz := below_grownB (BB.trans (A9.mono BB.size)) hg5 (by have := BB.size; have := A9.size; omega) (fun g0 hg0 => hOb.out g0 hg0)
 clear OA
 have OA := X_n
 clear BB
 have BB := BB_n
 clear X_n BB_n A9 o1 hPO HO3 HO4 hOb hul ho5 hg5 hat5 hp5 hk5 hr
 go_wp2
 go_loopw [7,8,9] (fun vd va vi wr => ∃ (k kd ka : Nat),k ≤ n ∧ vi = .int .i64 (k : Int) ∧ Hid (kd = k - 1 ∧ ka = k + 1) ∧ FOwn W2.heap.size wr vd kd (fun i => q (i + 1) * (((i + 1 : Nat) : Int) : Rat)) ∧ FOwn W2.heap.size wr va ka (areaQ q) ∧ Aside vd va ∧ Below W2.heap.size W2 wr) (fun _ _ vi _ => n - (intOf vi).toNat)
 case atStart => exact ⟨0,0,1,by omega,rfl,⟨rfl,rfl⟩,FOwn.nil _ _ _,OA,aside_nil _,BB⟩
 case round =>
  clear OA BB
  obtain ⟨k,kd,ka,hk,rfl,HKK,OD,OA,A1,BB⟩ := hrel
  obtain ⟨ad_,cd_,rfl⟩ := OD.row.open
  obtain ⟨aa_,ca_,rfl⟩ := OA.row.open
  by_cases hlt : k < n
  ·by_cases hkz : k = 0
   ·subst hkz
    rw [show ((0 : Nat) : Int) = (0 : Int) from rfl]
    have hki : (0 : Int) < (n : Int) := by omega
    have hka0 : ka = 1 := HKK.out.2
    have hkd0 : kd = 0 := HKK.out.1
    have HAR : Hid (((1 : Int) : Rat) / ((1 : Int) : Rat) * q 0 = areaQ q ka) := by
     rw [Hid,hka0]
     show _ = (if 1 = 0 then 0 else q (1 - 1) * (((1 : Int) : Rat) / (((1 : Nat) : Int) : Rat)))
     rw [if_neg (by omega),Rat.mul_comm]; rfl
    have s1 : qsz (((1 : Int) : Rat) / ((1 : Int) : Rat)) ≤ 4 := qsz_one_over 1 (by omega)
    have HKA : Hid (ka = 1 ∧ kd = 0) := ⟨hka0,hkd0⟩
    have dd4 : IntKind.i64.wrap 1 = 1 := by decide
    have hka8 : ka ≤ 8 := by omega
    have hkd8 : kd ≤ 8 := by omega
    clear hka0 hkd0
    obtain ⟨b,off,cc,p1,ao1,m1,d1,bo1,k9,e1,hvv,hcc,XC0,Hi0⟩ := QA0.at 0 hlt
    cases hvv
    simp only [Nat.zero_mul,Nat.add_zero] at XC0
    go_wp2
    have XC := XC0.below BB
    have Hi := Hi0.below BB
    have ht := ht0.below BB
    refine wp_region_until 10 #[true,true,true,true,true,true,true,true,true,true,false,false] (fun aF lsd a' w' => ∃ vu0 vu1 vu2 vu3 vu4 vu5 vu6 vu7 vu8 vu9 : Value,a' = (((((((((aF.put (some 38) vu0).put (some 39) vu1).put (some 40) vu2).put (some 41) vu3).put (some 42) vu4).put (some 43) vu5).put (some 44) vu6).put (some 45) vu7).put (some 46) vu8).put (some 47) vu9 ∧ Below wr.heap.size wr w' ∧ (lsd.getD 0 false = true → vu0 = .slice aa_ ka ca_) ∧ (lsd.getD 1 false = true → vu1 = .int .i64 0) ∧ (lsd.getD 2 false = true → vu2 = .int .i64 1) ∧ (lsd.getD 3 false = true → RepQ w' vu3 (((1 : Int) : Rat) / ((1 : Int) : Rat))) ∧ (lsd.getD 4 false = true → vu4 = .slice (some ⟨b,off,none⟩) n ca) ∧ (lsd.getD 5 false = true → vu5 = .int .i64 0) ∧ (lsd.getD 6 false = true → vu6 = .pointer (some ⟨b,off,none⟩)) ∧ (lsd.getD 7 false = true → vu7 = .agg #[.bool p1,.slice ao1 m1 d1,.slice bo1 k9 e1]) ∧ (lsd.getD 8 false = true → RepQ w' vu8 (((1 : Int) : Rat) / ((1 : Int) : Rat) * (q 0))) ∧ (lsd.getD 9 false = true → BuiltQ wr.heap.size w' vu9 (((1 : Int) : Rat) / ((1 : Int) : Rat) * (q 0)))) (by kernel_rfl) (by decide) (by kernel_rfl) (by rfl) (by kernel_rfl) ?_ ?_ ?_
    ·exact ⟨_,_,_,_,_,_,_,_,_,_,by simp only [Act.put,xL4,xL5,xL6]; rfl,(Below.refl _ _).drew,fun h => absurd h (fun h => mark_none h),fun h => absurd h (fun h => mark_none h),fun h => absurd h (fun h => mark_none h),fun h => absurd h (fun h => mark_none h),fun h => absurd h (fun h => mark_none h),fun h => absurd h (fun h => mark_none h),fun h => absurd h (fun h => mark_none h),fun h => absurd h (fun h => mark_none h),fun h => absurd h (fun h => mark_none h),fun h => absurd h (fun h => mark_none h)⟩
    ·rintro lsd au wn iu hszu ⟨vu0,vu1,vu2,vu3,vu4,vu5,vu6,vu7,vu8,vu9,rfl,hbu,fu0,fu1,fu2,fu3,fu4,fu5,fu6,fu7,fu8,fu9⟩ himu hru
     rcases (show iu = 0 ∨ iu = 1 ∨ iu = 2 ∨ iu = 3 ∨ iu = 4 ∨ iu = 5 ∨ iu = 6 ∨ iu = 7 ∨ iu = 8 ∨ iu = 9 by omega) with rfl | rfl | rfl | rfl | rfl | rfl | rfl | rfl | rfl | rfl
     ·refine wpOp_shut (by rfl) (fun K hK => ?_)
      simp only [Act.put,xL4,xL5,xL6]
      go_simp
      exact hK.out _ _ ⟨(.slice aa_ ka ca_),vu1,vu2,vu3,vu4,vu5,vu6,vu7,vu8,vu9,by simp only [Act.put,xL4,xL5,xL6],hbu,fun _ => rfl,fun h => fu1 (mark_of (by decide) h),fun h => fu2 (mark_of (by decide) h),fun h => fu3 (mark_of (by decide) h),fun h => fu4 (mark_of (by decide) h),fun h => fu5 (mark_of (by decide) h),fun h => fu6 (mark_of (by decide) h),fun h => fu7 (mark_of (by decide) h),fun h => fu8 (mark_of (by decide) h),fun h => fu9 (mark_of (by decide) h)⟩
     ·refine wpOp_shut (by rfl) (fun K hK => ?_)
      simp only [Act.put,xL4,xL5,xL6]
      go_simp
      exact hK.out _ _ ⟨vu0,(.int .i64 0),vu2,vu3,vu4,vu5,vu6,vu7,vu8,vu9,by simp only [Act.put,xL4,xL5,xL6],hbu,fun h => fu0 (mark_of (by decide) h),fun _ => rfl,fun h => fu2 (mark_of (by decide) h),fun h => fu3 (mark_of (by decide) h),fun h => fu4 (mark_of (by decide) h),fun h => fu5 (mark_of (by decide) h),fun h => fu6 (mark_of (by decide) h),fun h => fu7 (mark_of (by decide) h),fun h => fu8 (mark_of (by decide) h),fun h => fu9 (mark_of (by decide) h)⟩
     ·have eu1 := fu1 (dep_of 1 hru rfl (by kernel_rfl))
      replace eu1 := eu1.symm
      subst eu1
      refine wpOp_shut (by rfl) (fun K hK => ?_)
      simp only [Act.put,xL4,xL5,xL6]
      go_simp
      exact hK.out _ _ ⟨vu0,(.int .i64 0),(.int .i64 1),vu3,vu4,vu5,vu6,vu7,vu8,vu9,by simp only [Act.put,xL4,xL5,xL6],hbu,fun h => fu0 (mark_of (by decide) h),fun _ => rfl,fun _ => rfl,fun h => fu3 (mark_of (by decide) h),fun h => fu4 (mark_of (by decide) h),fun h => fu5 (mark_of (by decide) h),fun h => fu6 (mark_of (by decide) h),fun h => fu7 (mark_of (by decide) h),fun h => fu8 (mark_of (by decide) h),fun h => fu9 (mark_of (by decide) h)⟩
     ·have eu2 := fu2 (dep_of 2 hru rfl (by kernel_rfl))
      replace eu2 := eu2.symm
      subst eu2
      refine wpOp_shut (by rfl) (fun K hK => ?_)
      simp only [Act.put,xL4,xL5,xL6]
      have ht := ht.below hbu
      go_simp
      refine (qfrac_at 1 1 _ (by omega) (by omega) (by omega) (by omega) ht).mono ?_
      rintro eu wx ⟨r1,rfl,h3,bu⟩
      go_wp2_with fail
      have hbu2 := hbu.trans (bu.mono hbu.size)
      exact hK.out _ _ ⟨vu0,vu1,(.int .i64 1),_,vu4,vu5,vu6,vu7,vu8,vu9,by simp only [Act.put,xL4,xL5,xL6],hbu2,fun h => fu0 (mark_of (by decide) h),fun h => fu1 (mark_of (by decide) h),fun _ => rfl,fun _ => h3,fun h => fu4 (mark_of (by decide) h),fun h => fu5 (mark_of (by decide) h),fun h => fu6 (mark_of (by decide) h),fun h => fu7 (mark_of (by decide) h),fun h => (fu8 (mark_of (by decide) h)).below bu,fun h => (fu9 (mark_of (by decide) h)).below bu⟩
     ·refine wpOp_shut (by rfl) (fun K hK => ?_)
      simp only [Act.put,xL4,xL5,xL6]
      go_simp
      exact hK.out _ _ ⟨vu0,vu1,vu2,vu3,(.slice (some ⟨b,off,none⟩) n ca),vu5,vu6,vu7,vu8,vu9,by simp only [Act.put,xL4,xL5,xL6],hbu,fun h => fu0 (mark_of (by decide) h),fun h => fu1 (mark_of (by decide) h),fun h => fu2 (mark_of (by decide) h),fun h => fu3 (mark_of (by decide) h),fun _ => rfl,fun h => fu5 (mark_of (by decide) h),fun h => fu6 (mark_of (by decide) h),fun h => fu7 (mark_of (by decide) h),fun h => fu8 (mark_of (by decide) h),fun h => fu9 (mark_of (by decide) h)⟩
     ·refine wpOp_shut (by rfl) (fun K hK => ?_)
      simp only [Act.put,xL4,xL5,xL6]
      go_simp
      exact hK.out _ _ ⟨vu0,vu1,vu2,vu3,vu4,(.int .i64 0),vu6,vu7,vu8,vu9,by simp only [Act.put,xL4,xL5,xL6],hbu,fun h => fu0 (mark_of (by decide) h),fun h => fu1 (mark_of (by decide) h),fun h => fu2 (mark_of (by decide) h),fun h => fu3 (mark_of (by decide) h),fun h => fu4 (mark_of (by decide) h),fun _ => rfl,fun h => fu6 (mark_of (by decide) h),fun h => fu7 (mark_of (by decide) h),fun h => fu8 (mark_of (by decide) h),fun h => fu9 (mark_of (by decide) h)⟩
     ·have eu4 := fu4 (dep_of 4 hru rfl (by kernel_rfl))
      have eu5 := fu5 (dep_of 5 hru rfl (by kernel_rfl))
      replace eu4 := eu4.symm
      subst eu4
      replace eu5 := eu5.symm
      subst eu5
      refine wpOp_shut (by rfl) (fun K hK => ?_)
      simp only [Act.put,xL4,xL5,xL6]
      go_simp
      exact hK.out _ _ ⟨vu0,vu1,vu2,vu3,(.slice (some ⟨b,off,none⟩) n ca),(.int .i64 0),(.pointer (some ⟨b,off,none⟩)),vu7,vu8,vu9,by simp only [Act.put,xL4,xL5,xL6],hbu,fun h => fu0 (mark_of (by decide) h),fun h => fu1 (mark_of (by decide) h),fun h => fu2 (mark_of (by decide) h),fun h => fu3 (mark_of (by decide) h),fun _ => rfl,fun _ => rfl,fun _ => rfl,fun h => fu7 (mark_of (by decide) h),fun h => fu8 (mark_of (by decide) h),fun h => fu9 (mark_of (by decide) h)⟩
     ·have eu6 := fu6 (dep_of 6 hru rfl (by kernel_rfl))
      replace eu6 := eu6.symm
      subst eu6
      refine wpOp_shut (by rfl) (fun K hK => ?_)
      simp only [Act.put,xL4,xL5,xL6]
      obtain ⟨XC_0,XC_1,XC_2⟩ := XC.below hbu
      go_simp
      exact hK.out _ _ ⟨vu0,vu1,vu2,vu3,vu4,vu5,(.pointer (some ⟨b,off,none⟩)),(.agg #[.bool p1,.slice ao1 m1 d1,.slice bo1 k9 e1]),vu8,vu9,by simp only [Act.put,xL4,xL5,xL6],hbu,fun h => fu0 (mark_of (by decide) h),fun h => fu1 (mark_of (by decide) h),fun h => fu2 (mark_of (by decide) h),fun h => fu3 (mark_of (by decide) h),fun h => fu4 (mark_of (by decide) h),fun h => fu5 (mark_of (by decide) h),fun _ => rfl,fun _ => rfl,fun h => fu8 (mark_of (by decide) h),fun h => fu9 (mark_of (by decide) h)⟩
     ·have eu7 := fu7 (dep_of 7 hru rfl (by kernel_rfl))
      replace eu7 := eu7.symm
      subst eu7
      have h3 := fu3 (dep_of 3 hru rfl (by kernel_rfl))
      refine wpOp_shut (by rfl) (fun K hK => ?_)
      simp only [Act.put,xL4,xL5,xL6]
      have Hi := Hi.below hbu
      have ht := ht.below hbu
      go_simp
      refine (qmul_at _ _ (((1 : Int) : Rat) / ((1 : Int) : Rat)) (q 0) 4 _ (h3.at _ s1) (Hi.le (by omega)) (by omega) (by omega) ht).mono ?_
      rintro eu wx ⟨r3,rfl,h8,bu⟩
      go_wp2_with fail
      have hbu2 := hbu.trans (bu.mono hbu.size)
      exact hK.out _ _ ⟨vu0,vu1,vu2,vu3,vu4,vu5,vu6,(.agg #[.bool p1,.slice ao1 m1 d1,.slice bo1 k9 e1]),_,vu9,by simp only [Act.put,xL4,xL5,xL6],hbu2,fun h => fu0 (mark_of (by decide) h),fun h => fu1 (mark_of (by decide) h),fun h => fu2 (mark_of (by decide) h),fun h => (fu3 (mark_of (by decide) h)).below bu,fun h => fu4 (mark_of (by decide) h),fun h => fu5 (mark_of (by decide) h),fun h => fu6 (mark_of (by decide) h),fun _ => rfl,fun _ => h8,fun h => (fu9 (mark_of (by decide) h)).below bu⟩
     ·have h8 := fu8 (dep_of 8 hru rfl (by kernel_rfl))
      obtain ⟨pB,aB,nB,cB,bB,mB,dB,rfl⟩ := h8.open
      refine wpOp_shut (by rfl) (fun K hK => ?_)
      simp only [Act.put,xL4,xL5,xL6]
      go_simp
      obtain ⟨wx,hWx,hSx,bu,VXu⟩ := V3.lay wn 35 (.bool pB) (.slice aB nB cB) (.slice bB mB dB)
      rw [← hWx]
      have hbu2 := hbu.trans (bu.mono hbu.size)
      exact hK.out _ _ ⟨vu0,vu1,vu2,vu3,vu4,vu5,vu6,vu7,(.agg #[.bool pB,.slice aB nB cB,.slice bB mB dB]),_,by simp only [Act.put,xL4,xL5,xL6],hbu2,fun h => fu0 (mark_of (by decide) h),fun h => fu1 (mark_of (by decide) h),fun h => fu2 (mark_of (by decide) h),fun h => (fu3 (mark_of (by decide) h)).below bu,fun h => fu4 (mark_of (by decide) h),fun h => fu5 (mark_of (by decide) h),fun h => fu6 (mark_of (by decide) h),fun h => fu7 (mark_of (by decide) h),fun h => (fu8 (mark_of (by decide) h)).below bu,fun _ => ⟨_,pB,aB,nB,cB,bB,mB,dB,rfl,hbu.size,VXu,h8.below bu⟩⟩
    rintro au Wu1 ⟨vu0,vu1,vu2,vu3,vu4,vu5,vu6,vu7,vu8,vu9,rfl,hbu,fu0,fu1,fu2,fu3,fu4,fu5,fu6,fu7,fu8,fu9⟩
    have eu0 := (fu0 rfl).symm
    subst eu0
    have eu1 := (fu1 rfl).symm
    subst eu1
    have eu2 := (fu2 rfl).symm
    subst eu2
    have h3 := fu3 rfl
    have eu4 := (fu4 rfl).symm
    subst eu4
    have eu5 := (fu5 rfl).symm
    subst eu5
    have eu6 := (fu6 rfl).symm
    subst eu6
    have eu7 := (fu7 rfl).symm
    subst eu7
    have h8 := fu8 rfl
    obtain ⟨RB9,p3,a3,n3,c3,bo3,m3,d3,rfl,hRB9,VB9,hbq⟩ := fu9 rfl
    clear fu0 fu1 fu2 fu3 fu4 fu5 fu6 fu7 fu8 fu9
    have hlXC : b < wr.heap.size := XC.lt
    replace OD := OD.below hbu
    replace OA := OA.below hbu
    replace Hi := Hi.below hbu
    replace ht := ht.below hbu
    replace XC := XC.below hbu
    replace BB := BB.trans (hbu.mono BB.size)
    clear hbu
    simp only [Act.put,xL4,xL5,xL6]
    refine xR [10] (h := ?_)
    refine AllReadyH.cons (by rfl) (fun K hK => ?_) AllReadyH.nil
    rw [HAR.out] at hbq
    obtain ⟨us,el',o1,o2,o3,o4⟩ := id OA
    have hul : us.length = (ka) * 3 := o1.1
    have HO3 : Hid (∀ i',i' < ka → ∀ j,j < 3 → us[i' * 3 + j]? = some (el' i' j)) := o3
    have HO4 : Hid (∀ i',i' < ka → RepQ Wu1 (.agg #[el' i' 0,el' i' 1,el' i' 2]) ((areaQ q) i')) := o4
    have hPO : Hid (∀ g0,Value.ownBlock (.slice aa_ ka ca_) = some g0 → PureB IsNum Wu1 g0) := o2
    have hOb : Hid (∀ g0,Value.ownBlock (.slice aa_ ka ca_) = some g0 → W2.heap.size ≤ g0) := fun g0 hg0 => (o1.lt g0 hg0).1
    clear o2 o3 o4
    have hWb9 : W2.heap.size ≤ Wu1.heap.size := BB.size
    refine step_append_pure (Q' := IsNum) (by rfl) _ _ _ (by rfl) W2.heap.size 35 (.agg #[.bool false,.slice none 0 0,.slice none 0 0]) 3 56 Tryz.underlying22 info_wrat (by rfl) (by omega) (.slice aa_ ka ca_) (by rfl) (ka) us o1 hPO.out ⟨RB9,0,none⟩ 1 (by rfl) [.bool p3,.slice a3 n3 c3,.slice bo3 m3 d3] rfl (news_v3 VB9) (by simp [Value.oneCell']) (by simp [num_slice,num_bool]) (by simp [Value.cells,num_slice,num_bool]) (by omega) (by omega) hWb9 ?_
    intro gb capb wb ho5 hg5 hat5 hp5 hk5
    have X_n : FOwn W2.heap.size wb (.slice (some ⟨gb,0,none⟩) (ka + 1) capb) (ka + 1) (areaQ q) := FOwn.more ho5 hp5 hul HO3.out HO4.out hbq hk5
    have BB_n : Below W2.heap.size W2 wb := below_grownB BB hg5 hWb9 (fun g0 hg0 => hOb.out g0 hg0)
    have OD_n := OD.stay (x := .slice aa_ ka ca_) hg5 hk5 A1
    have NOD := aside_new (m := ka + 1) (c := capb) OD A1 hat5
    clear OA OD
    have OD := OD_n
    clear OD_n
    replace A1 := NOD
    clear NOD
    have OA := X_n
    clear BB
    have BB := BB_n
    clear X_n BB_n o1 hPO HO3 HO4 hOb hul ho5 hg5 hat5 hp5 hk5 hbq VB9 hWb9 XC Hi ht h3 h8
    refine hK.out _ _ trivial (fun _ => ?_)
    clear hK K
    simp only [Act.put,xL4,xL5,xL6]
    refine xR [11] (h := ?_)
    refine AllReadyH.cons (by rfl) (fun K hK => ?_) AllReadyH.nil
    go_simp
    refine hK.out _ _ trivial (fun _ => ?_)
    clear hK K
    simp only [Act.put,xL4,xL5,xL6]
    refine wpAnyH_done (by kernel_rfl) ?_ _
    go_wp2
    go_roundw
    case rel => exact ⟨1,kd,ka + 1,by omega,by go_num,⟨HKA.out.2,by rw [HKA.out.1]⟩,OD,OA,A1,BB⟩
    case measure => simp [intOf]; omega
   ·have hki : (k : Int) < (n : Int) := by omega
    have hl0 : (0 : Int) ≤ (k : Int) := by omega
    have hk0 : (0 : Int) < (k : Int) := by omega
    have hka_ : ka = k + 1 := HKK.out.2
    have hkd_ : kd = k - 1 := HKK.out.1
    have dd1 : 1 + (k : Int) = (ka : Int) := by omega
    have dd4 : IntKind.i64.wrap (ka : Int) = (ka : Int) := by rw [IntKind.wrap_i64]; omega
    have hka8 : ka ≤ 8 := by omega
    have hkd8 : kd ≤ 8 := by omega
    have HAR : Hid (((1 : Int) : Rat) / ((ka : Int) : Rat) * q k = areaQ q ka) := by
     rw [Hid,hka_]
     show _ = (if k + 1 = 0 then 0 else q (k + 1 - 1) * (((1 : Int) : Rat) / (((k + 1 : Nat) : Int) : Rat)))
     rw [if_neg (by omega),Nat.add_sub_cancel,Rat.mul_comm]
    have s1 := qsz_one_over ka (by omega)
    have sq : qsz (q k) ≤ 2 := QA0.sz (by omega) k hlt
    have sk : qsz ((k : Int) : Rat) ≤ 2 := qsz_int _ (Nat.le_trans ((nl_two _).2 (by omega)) (by omega)) (by omega)
    have HDR : Hid (((k : Int) : Rat) * q k = q (kd + 1) * (((kd + 1 : Nat) : Int) : Rat)) := by rw [Hid,show kd + 1 = k by omega,Rat.mul_comm]
    have HK2 : Hid (kd + 1 = k ∧ ka = k + 1) := ⟨by omega,hka_⟩
    have hk0n : 0 < k := by omega
    clear hka_ hkd_ HKK
    obtain ⟨b,off,cc,p1,ao1,m1,d1,bo1,k9,e1,hvv,hcc,XC0,Hi0⟩ := QA0.at k hlt
    cases hvv
    go_wp2
    (try rw [show decide (0 < k) = true from decide_eq_true hk0n])
    have XC := XC0.below BB
    have Hi := Hi0.below BB
    have ht := ht0.below BB
    refine wp_region_until 9 #[true,true,true,true,true,true,true,true,true,false,false] (fun aF lsd a' w' => ∃ vu0 vu1 vu2 vu3 vu4 vu5 vu6 vu7 vu8 : Value,a' = ((((((((aF.put (some 28) vu0).put (some 29) vu1).put (some 30) vu2).put (some 31) vu3).put (some 32) vu4).put (some 33) vu5).put (some 34) vu6).put (some 35) vu7).put (some 36) vu8 ∧ Below wr.heap.size wr w' ∧ (lsd.getD 0 false = true → vu0 = .slice ad_ kd cd_) ∧ (lsd.getD 1 false = true → vu1 = .int .i64 (k : Int)) ∧ (lsd.getD 2 false = true → RepQ w' vu2 ((k : Int) : Rat)) ∧ (lsd.getD 3 false = true → vu3 = .slice (some ⟨b,off,none⟩) n ca) ∧ (lsd.getD 4 false = true → vu4 = .int .i64 (k : Int)) ∧ (lsd.getD 5 false = true → vu5 = .pointer (some ⟨b,off + k * 3,none⟩)) ∧ (lsd.getD 6 false = true → vu6 = .agg #[.bool p1,.slice ao1 m1 d1,.slice bo1 k9 e1]) ∧ (lsd.getD 7 false = true → RepQ w' vu7 (((k : Int) : Rat) * q k)) ∧ (lsd.getD 8 false = true → BuiltQ wr.heap.size w' vu8 (((k : Int) : Rat) * q k))) (by kernel_rfl) (by decide) (by kernel_rfl) (by rfl) (by kernel_rfl) ?_ ?_ ?_
    ·exact ⟨_,_,_,_,_,_,_,_,_,by simp only [Act.put,xL4,xL5,xL6]; rfl,(Below.refl _ _).drew,fun h => absurd h (fun h => mark_none h),fun h => absurd h (fun h => mark_none h),fun h => absurd h (fun h => mark_none h),fun h => absurd h (fun h => mark_none h),fun h => absurd h (fun h => mark_none h),fun h => absurd h (fun h => mark_none h),fun h => absurd h (fun h => mark_none h),fun h => absurd h (fun h => mark_none h),fun h => absurd h (fun h => mark_none h)⟩
    ·rintro lsd au wn iu hszu ⟨vu0,vu1,vu2,vu3,vu4,vu5,vu6,vu7,vu8,rfl,hbu,fu0,fu1,fu2,fu3,fu4,fu5,fu6,fu7,fu8⟩ himu hru
     rcases (show iu = 0 ∨ iu = 1 ∨ iu = 2 ∨ iu = 3 ∨ iu = 4 ∨ iu = 5 ∨ iu = 6 ∨ iu = 7 ∨ iu = 8 by omega) with rfl | rfl | rfl | rfl | rfl | rfl | rfl | rfl | rfl
     ·refine wpOp_shut (by rfl) (fun K hK => ?_)
      simp only [Act.put,xL4,xL5,xL6]
      go_simp
      exact hK.out _ _ ⟨(.slice ad_ kd cd_),vu1,vu2,vu3,vu4,vu5,vu6,vu7,vu8,by simp only [Act.put,xL4,xL5,xL6],hbu,fun _ => rfl,fun h => fu1 (mark_of (by decide) h),fun h => fu2 (mark_of (by decide) h),fun h => fu3 (mark_of (by decide) h),fun h => fu4 (mark_of (by decide) h),fun h => fu5 (mark_of (by decide) h),fun h => fu6 (mark_of (by decide) h),fun h => fu7 (mark_of (by decide) h),fun h => fu8 (mark_of (by decide) h)⟩
     ·refine wpOp_shut (by rfl) (fun K hK => ?_)
      simp only [Act.put,xL4,xL5,xL6]
      go_simp
      exact hK.out _ _ ⟨vu0,(.int .i64 (k : Int)),vu2,vu3,vu4,vu5,vu6,vu7,vu8,by simp only [Act.put,xL4,xL5,xL6],hbu,fun h => fu0 (mark_of (by decide) h),fun _ => rfl,fun h => fu2 (mark_of (by decide) h),fun h => fu3 (mark_of (by decide) h),fun h => fu4 (mark_of (by decide) h),fun h => fu5 (mark_of (by decide) h),fun h => fu6 (mark_of (by decide) h),fun h => fu7 (mark_of (by decide) h),fun h => fu8 (mark_of (by decide) h)⟩
     ·have eu1 := fu1 (dep_of 1 hru rfl (by kernel_rfl))
      replace eu1 := eu1.symm
      subst eu1
      refine wpOp_shut (by rfl) (fun K hK => ?_)
      simp only [Act.put,xL4,xL5,xL6]
      go_simp
      refine (qof_at (k : Int) _ (by omega) (by omega)).mono ?_
      rintro eu wx ⟨r1,rfl,h2,bu⟩
      go_wp2_with fail
      have hbu2 := hbu.trans (bu.mono hbu.size)
      exact hK.out _ _ ⟨vu0,(.int .i64 (k : Int)),_,vu3,vu4,vu5,vu6,vu7,vu8,by simp only [Act.put,xL4,xL5,xL6],hbu2,fun h => fu0 (mark_of (by decide) h),fun _ => rfl,fun _ => h2,fun h => fu3 (mark_of (by decide) h),fun h => fu4 (mark_of (by decide) h),fun h => fu5 (mark_of (by decide) h),fun h => fu6 (mark_of (by decide) h),fun h => (fu7 (mark_of (by decide) h)).below bu,fun h => (fu8 (mark_of (by decide) h)).below bu⟩
     ·refine wpOp_shut (by rfl) (fun K hK => ?_)
      simp only [Act.put,xL4,xL5,xL6]
      go_simp
      exact hK.out _ _ ⟨vu0,vu1,vu2,(.slice (some ⟨b,off,none⟩) n ca),vu4,vu5,vu6,vu7,vu8,by simp only [Act.put,xL4,xL5,xL6],hbu,fun h => fu0 (mark_of (by decide) h),fun h => fu1 (mark_of (by decide) h),fun h => fu2 (mark_of (by decide) h),fun _ => rfl,fun h => fu4 (mark_of (by decide) h),fun h => fu5 (mark_of (by decide) h),fun h => fu6 (mark_of (by decide) h),fun h => fu7 (mark_of (by decide) h),fun h => fu8 (mark_of (by decide) h)⟩
     ·refine wpOp_shut (by rfl) (fun K hK => ?_)
      simp only [Act.put,xL4,xL5,xL6]
      go_simp
      exact hK.out _ _ ⟨vu0,vu1,vu2,vu3,(.int .i64 (k : Int)),vu5,vu6,vu7,vu8,by simp only [Act.put,xL4,xL5,xL6],hbu,fun h => fu0 (mark_of (by decide) h),fun h => fu1 (mark_of (by decide) h),fun h => fu2 (mark_of (by decide) h),fun h => fu3 (mark_of (by decide) h),fun _ => rfl,fun h => fu5 (mark_of (by decide) h),fun h => fu6 (mark_of (by decide) h),fun h => fu7 (mark_of (by decide) h),fun h => fu8 (mark_of (by decide) h)⟩
     ·have eu3 := fu3 (dep_of 3 hru rfl (by kernel_rfl))
      have eu4 := fu4 (dep_of 4 hru rfl (by kernel_rfl))
      replace eu3 := eu3.symm
      subst eu3
      replace eu4 := eu4.symm
      subst eu4
      refine wpOp_shut (by rfl) (fun K hK => ?_)
      simp only [Act.put,xL4,xL5,xL6]
      go_simp
      exact hK.out _ _ ⟨vu0,vu1,vu2,(.slice (some ⟨b,off,none⟩) n ca),(.int .i64 (k : Int)),(.pointer (some ⟨b,off + k * 3,none⟩)),vu6,vu7,vu8,by simp only [Act.put,xL4,xL5,xL6],hbu,fun h => fu0 (mark_of (by decide) h),fun h => fu1 (mark_of (by decide) h),fun h => fu2 (mark_of (by decide) h),fun _ => rfl,fun _ => rfl,fun _ => rfl,fun h => fu6 (mark_of (by decide) h),fun h => fu7 (mark_of (by decide) h),fun h => fu8 (mark_of (by decide) h)⟩
     ·have eu5 := fu5 (dep_of 5 hru rfl (by kernel_rfl))
      replace eu5 := eu5.symm
      subst eu5
      refine wpOp_shut (by rfl) (fun K hK => ?_)
      simp only [Act.put,xL4,xL5,xL6]
      obtain ⟨XC_0,XC_1,XC_2⟩ := XC.below hbu
      go_simp
      exact hK.out _ _ ⟨vu0,vu1,vu2,vu3,vu4,(.pointer (some ⟨b,off + k * 3,none⟩)),(.agg #[.bool p1,.slice ao1 m1 d1,.slice bo1 k9 e1]),vu7,vu8,by simp only [Act.put,xL4,xL5,xL6],hbu,fun h => fu0 (mark_of (by decide) h),fun h => fu1 (mark_of (by decide) h),fun h => fu2 (mark_of (by decide) h),fun h => fu3 (mark_of (by decide) h),fun h => fu4 (mark_of (by decide) h),fun _ => rfl,fun _ => rfl,fun h => fu7 (mark_of (by decide) h),fun h => fu8 (mark_of (by decide) h)⟩
     ·have eu6 := fu6 (dep_of 6 hru rfl (by kernel_rfl))
      replace eu6 := eu6.symm
      subst eu6
      have h2 := fu2 (dep_of 2 hru rfl (by kernel_rfl))
      refine wpOp_shut (by rfl) (fun K hK => ?_)
      simp only [Act.put,xL4,xL5,xL6]
      have Hi := Hi.below hbu
      have ht := ht.below hbu
      go_simp
      refine (qmul_at _ _ ((k : Int) : Rat) (q k) 4 _ (h2.at _ (by omega)) (Hi.le (by omega)) (by omega) (by omega) ht).mono ?_
      rintro eu wx ⟨r3,rfl,h7,bu⟩
      go_wp2_with fail
      have hbu2 := hbu.trans (bu.mono hbu.size)
      exact hK.out _ _ ⟨vu0,vu1,vu2,vu3,vu4,vu5,(.agg #[.bool p1,.slice ao1 m1 d1,.slice bo1 k9 e1]),_,vu8,by simp only [Act.put,xL4,xL5,xL6],hbu2,fun h => fu0 (mark_of (by decide) h),fun h => fu1 (mark_of (by decide) h),fun h => (fu2 (mark_of (by decide) h)).below bu,fun h => fu3 (mark_of (by decide) h),fun h => fu4 (mark_of (by decide) h),fun h => fu5 (mark_of (by decide) h),fun _ => rfl,fun _ => h7,fun h => (fu8 (mark_of (by decide) h)).below bu⟩
     ·have h7 := fu7 (dep_of 7 hru rfl (by kernel_rfl))
      obtain ⟨pB,aB,nB,cB,bB,mB,dB,rfl⟩ := h7.open
      refine wpOp_shut (by rfl) (fun K hK => ?_)
      simp only [Act.put,xL4,xL5,xL6]
      go_simp
      obtain ⟨wx,hWx,hSx,bu,VXu⟩ := V3.lay wn 35 (.bool pB) (.slice aB nB cB) (.slice bB mB dB)
      rw [← hWx]
      have hbu2 := hbu.trans (bu.mono hbu.size)
      exact hK.out _ _ ⟨vu0,vu1,vu2,vu3,vu4,vu5,vu6,(.agg #[.bool pB,.slice aB nB cB,.slice bB mB dB]),_,by simp only [Act.put,xL4,xL5,xL6],hbu2,fun h => fu0 (mark_of (by decide) h),fun h => fu1 (mark_of (by decide) h),fun h => (fu2 (mark_of (by decide) h)).below bu,fun h => fu3 (mark_of (by decide) h),fun h => fu4 (mark_of (by decide) h),fun h => fu5 (mark_of (by decide) h),fun h => fu6 (mark_of (by decide) h),fun h => (fu7 (mark_of (by decide) h)).below bu,fun _ => ⟨_,pB,aB,nB,cB,bB,mB,dB,rfl,hbu.size,VXu,h7.below bu⟩⟩
    rintro au Wu1 ⟨vu0,vu1,vu2,vu3,vu4,vu5,vu6,vu7,vu8,rfl,hbu,fu0,fu1,fu2,fu3,fu4,fu5,fu6,fu7,fu8⟩
    have eu0 := (fu0 rfl).symm
    subst eu0
    have eu1 := (fu1 rfl).symm
    subst eu1
    have h2 := fu2 rfl
    have eu3 := (fu3 rfl).symm
    subst eu3
    have eu4 := (fu4 rfl).symm
    subst eu4
    have eu5 := (fu5 rfl).symm
    subst eu5
    have eu6 := (fu6 rfl).symm
    subst eu6
    have h7 := fu7 rfl
    obtain ⟨RB8,p3,a3,n3,c3,bo3,m3,d3,rfl,hRB8,VB8,hbq⟩ := fu8 rfl
    clear fu0 fu1 fu2 fu3 fu4 fu5 fu6 fu7 fu8
    have hlXC : b < wr.heap.size := XC.lt
    replace OD := OD.below hbu
    replace OA := OA.below hbu
    replace Hi := Hi.below hbu
    replace ht := ht.below hbu
    replace XC := XC.below hbu
    replace BB := BB.trans (hbu.mono BB.size)
    clear hbu
    simp only [Act.put,xL4,xL5,xL6]
    refine xR [9] (h := ?_)
    refine AllReadyH.cons (by rfl) (fun K hK => ?_) AllReadyH.nil
    rw [HDR.out] at hbq
    obtain ⟨us,el',o1,o2,o3,o4⟩ := id OD
    have hul : us.length = (kd) * 3 := o1.1
    have HO3 : Hid (∀ i',i' < kd → ∀ j,j < 3 → us[i' * 3 + j]? = some (el' i' j)) := o3
    have HO4 : Hid (∀ i',i' < kd → RepQ Wu1 (.agg #[el' i' 0,el' i' 1,el' i' 2]) ((fun i => q (i + 1) * (((i + 1 : Nat) : Int) : Rat)) i')) := o4
    have hPO : Hid (∀ g0,Value.ownBlock (.slice ad_ kd cd_) = some g0 → PureB IsNum Wu1 g0) := o2
    have hOb : Hid (∀ g0,Value.ownBlock (.slice ad_ kd cd_) = some g0 → W2.heap.size ≤ g0) := fun g0 hg0 => (o1.lt g0 hg0).1
    clear o2 o3 o4
    have hWb9 : W2.heap.size ≤ Wu1.heap.size := BB.size
    refine step_append_pure (Q' := IsNum) (by rfl) _ _ _ (by rfl) W2.heap.size 35 (.agg #[.bool false,.slice none 0 0,.slice none 0 0]) 3 56 Tryz.underlying22 info_wrat (by rfl) (by omega) (.slice ad_ kd cd_) (by rfl) (kd) us o1 hPO.out ⟨RB8,0,none⟩ 1 (by rfl) [.bool p3,.slice a3 n3 c3,.slice bo3 m3 d3] rfl (news_v3 VB8) (by simp [Value.oneCell']) (by simp [num_slice,num_bool]) (by simp [Value.cells,num_slice,num_bool]) (by omega) (by omega) hWb9 ?_
    intro ga capa wa ho5 hg5 hat5 hp5 hk5
    have X_n : FOwn W2.heap.size wa (.slice (some ⟨ga,0,none⟩) (kd + 1) capa) (kd + 1) (fun i => q (i + 1) * (((i + 1 : Nat) : Int) : Rat)) := FOwn.more ho5 hp5 hul HO3.out HO4.out hbq hk5
    have BB_n : Below W2.heap.size W2 wa := below_grownB BB hg5 hWb9 (fun g0 hg0 => hOb.out g0 hg0)
    have OA_n := OA.stay (x := .slice ad_ kd cd_) hg5 hk5 A1.symm
    have NOA := aside_new (m := kd + 1) (c := capa) OA A1.symm hat5
    clear OD OA
    have OA := OA_n
    clear OA_n
    replace A1 := NOA.symm
    clear NOA
    have OD := X_n
    clear BB
    have BB := BB_n
    clear X_n BB_n o1 hPO HO3 HO4 hOb hul ho5 hg5 hat5 hp5 hk5 hbq VB8 hWb9 XC Hi ht h2 h7
    refine hK.out _ _ trivial (fun _ => ?_)
    clear hK K
    simp only [Act.put,xL4,xL5,xL6]
    refine xR [10] (h := ?_)
    refine AllReadyH.cons (by rfl) (fun K hK => ?_) AllReadyH.nil
    go_simp
    refine hK.out _ _ trivial (fun _ => ?_)
    clear hK K
    simp only [Act.put,xL4,xL5,xL6]
    refine wpAnyH_done (by kernel_rfl) ?_ _
    go_wp2
    have XC := XC0.below BB
    have Hi := Hi0.below BB
    have ht := ht0.below BB
    refine wp_region_until 10 #[true,true,true,true,true,true,true,true,true,true,false,false] (fun aF lsd a' w' => ∃ vu0 vu1 vu2 vu3 vu4 vu5 vu6 vu7 vu8 vu9 : Value,a' = (((((((((aF.put (some 38) vu0).put (some 39) vu1).put (some 40) vu2).put (some 41) vu3).put (some 42) vu4).put (some 43) vu5).put (some 44) vu6).put (some 45) vu7).put (some 46) vu8).put (some 47) vu9 ∧ Below wa.heap.size wa w' ∧ (lsd.getD 0 false = true → vu0 = .slice aa_ ka ca_) ∧ (lsd.getD 1 false = true → vu1 = .int .i64 (k : Int)) ∧ (lsd.getD 2 false = true → vu2 = .int .i64 (ka : Int)) ∧ (lsd.getD 3 false = true → RepQ w' vu3 (((1 : Int) : Rat) / (((ka : Int) : Int) : Rat))) ∧ (lsd.getD 4 false = true → vu4 = .slice (some ⟨b,off,none⟩) n ca) ∧ (lsd.getD 5 false = true → vu5 = .int .i64 (k : Int)) ∧ (lsd.getD 6 false = true → vu6 = .pointer (some ⟨b,off + k * 3,none⟩)) ∧ (lsd.getD 7 false = true → vu7 = .agg #[.bool p1,.slice ao1 m1 d1,.slice bo1 k9 e1]) ∧ (lsd.getD 8 false = true → RepQ w' vu8 (((1 : Int) : Rat) / (((ka : Int) : Int) : Rat) * (q k))) ∧ (lsd.getD 9 false = true → BuiltQ wa.heap.size w' vu9 (((1 : Int) : Rat) / (((ka : Int) : Int) : Rat) * (q k)))) (by kernel_rfl) (by decide) (by kernel_rfl) (by rfl) (by kernel_rfl) ?_ ?_ ?_
    ·exact ⟨_,_,_,_,_,_,_,_,_,_,by simp only [Act.put,xL4,xL5,xL6]; rfl,(Below.refl _ _).drew,fun h => absurd h (fun h => mark_none h),fun h => absurd h (fun h => mark_none h),fun h => absurd h (fun h => mark_none h),fun h => absurd h (fun h => mark_none h),fun h => absurd h (fun h => mark_none h),fun h => absurd h (fun h => mark_none h),fun h => absurd h (fun h => mark_none h),fun h => absurd h (fun h => mark_none h),fun h => absurd h (fun h => mark_none h),fun h => absurd h (fun h => mark_none h)⟩
    ·rintro lsd au wn iu hszu ⟨vu0,vu1,vu2,vu3,vu4,vu5,vu6,vu7,vu8,vu9,rfl,hbu,fu0,fu1,fu2,fu3,fu4,fu5,fu6,fu7,fu8,fu9⟩ himu hru
     rcases (show iu = 0 ∨ iu = 1 ∨ iu = 2 ∨ iu = 3 ∨ iu = 4 ∨ iu = 5 ∨ iu = 6 ∨ iu = 7 ∨ iu = 8 ∨ iu = 9 by omega) with rfl | rfl | rfl | rfl | rfl | rfl | rfl | rfl | rfl | rfl
     ·refine wpOp_shut (by rfl) (fun K hK => ?_)
      simp only [Act.put,xL4,xL5,xL6]
      go_simp
      exact hK.out _ _ ⟨(.slice aa_ ka ca_),vu1,vu2,vu3,vu4,vu5,vu6,vu7,vu8,vu9,by simp only [Act.put,xL4,xL5,xL6],hbu,fun _ => rfl,fun h => fu1 (mark_of (by decide) h),fun h => fu2 (mark_of (by decide) h),fun h => fu3 (mark_of (by decide) h),fun h => fu4 (mark_of (by decide) h),fun h => fu5 (mark_of (by decide) h),fun h => fu6 (mark_of (by decide) h),fun h => fu7 (mark_of (by decide) h),fun h => fu8 (mark_of (by decide) h),fun h => fu9 (mark_of (by decide) h)⟩
     ·refine wpOp_shut (by rfl) (fun K hK => ?_)
      simp only [Act.put,xL4,xL5,xL6]
      go_simp
      exact hK.out _ _ ⟨vu0,(.int .i64 (k : Int)),vu2,vu3,vu4,vu5,vu6,vu7,vu8,vu9,by simp only [Act.put,xL4,xL5,xL6],hbu,fun h => fu0 (mark_of (by decide) h),fun _ => rfl,fun h => fu2 (mark_of (by decide) h),fun h => fu3 (mark_of (by decide) h),fun h => fu4 (mark_of (by decide) h),fun h => fu5 (mark_of (by decide) h),fun h => fu6 (mark_of (by decide) h),fun h => fu7 (mark_of (by decide) h),fun h => fu8 (mark_of (by decide) h),fun h => fu9 (mark_of (by decide) h)⟩
     ·have eu1 := fu1 (dep_of 1 hru rfl (by kernel_rfl))
      replace eu1 := eu1.symm
      subst eu1
      refine wpOp_shut (by rfl) (fun K hK => ?_)
      simp only [Act.put,xL4,xL5,xL6]
      go_simp
      exact hK.out _ _ ⟨vu0,(.int .i64 (k : Int)),(.int .i64 (ka : Int)),vu3,vu4,vu5,vu6,vu7,vu8,vu9,by simp only [Act.put,xL4,xL5,xL6],hbu,fun h => fu0 (mark_of (by decide) h),fun _ => rfl,fun _ => rfl,fun h => fu3 (mark_of (by decide) h),fun h => fu4 (mark_of (by decide) h),fun h => fu5 (mark_of (by decide) h),fun h => fu6 (mark_of (by decide) h),fun h => fu7 (mark_of (by decide) h),fun h => fu8 (mark_of (by decide) h),fun h => fu9 (mark_of (by decide) h)⟩
     ·have eu2 := fu2 (dep_of 2 hru rfl (by kernel_rfl))
      replace eu2 := eu2.symm
      subst eu2
      refine wpOp_shut (by rfl) (fun K hK => ?_)
      simp only [Act.put,xL4,xL5,xL6]
      have ht := ht.below hbu
      go_simp
      refine (qfrac_at 1 (ka : Int) _ (by omega) (by omega) (by omega) (by omega) ht).mono ?_
      rintro eu wx ⟨r1,rfl,h3,bu⟩
      go_wp2_with fail
      have hbu2 := hbu.trans (bu.mono hbu.size)
      exact hK.out _ _ ⟨vu0,vu1,(.int .i64 (ka : Int)),_,vu4,vu5,vu6,vu7,vu8,vu9,by simp only [Act.put,xL4,xL5,xL6],hbu2,fun h => fu0 (mark_of (by decide) h),fun h => fu1 (mark_of (by decide) h),fun _ => rfl,fun _ => h3,fun h => fu4 (mark_of (by decide) h),fun h => fu5 (mark_of (by decide) h),fun h => fu6 (mark_of (by decide) h),fun h => fu7 (mark_of (by decide) h),fun h => (fu8 (mark_of (by decide) h)).below bu,fun h => (fu9 (mark_of (by decide) h)).below bu⟩
     ·refine wpOp_shut (by rfl) (fun K hK => ?_)
      simp only [Act.put,xL4,xL5,xL6]
      go_simp
      exact hK.out _ _ ⟨vu0,vu1,vu2,vu3,(.slice (some ⟨b,off,none⟩) n ca),vu5,vu6,vu7,vu8,vu9,by simp only [Act.put,xL4,xL5,xL6],hbu,fun h => fu0 (mark_of (by decide) h),fun h => fu1 (mark_of (by decide) h),fun h => fu2 (mark_of (by decide) h),fun h => fu3 (mark_of (by decide) h),fun _ => rfl,fun h => fu5 (mark_of (by decide) h),fun h => fu6 (mark_of (by decide) h),fun h => fu7 (mark_of (by decide) h),fun h => fu8 (mark_of (by decide) h),fun h => fu9 (mark_of (by decide) h)⟩
     ·refine wpOp_shut (by rfl) (fun K hK => ?_)
      simp only [Act.put,xL4,xL5,xL6]
      go_simp
      exact hK.out _ _ ⟨vu0,vu1,vu2,vu3,vu4,(.int .i64 (k : Int)),vu6,vu7,vu8,vu9,by simp only [Act.put,xL4,xL5,xL6],hbu,fun h => fu0 (mark_of (by decide) h),fun h => fu1 (mark_of (by decide) h),fun h => fu2 (mark_of (by decide) h),fun h => fu3 (mark_of (by decide) h),fun h => fu4 (mark_of (by decide) h),fun _ => rfl,fun h => fu6 (mark_of (by decide) h),fun h => fu7 (mark_of (by decide) h),fun h => fu8 (mark_of (by decide) h),fun h => fu9 (mark_of (by decide) h)⟩
     ·have eu4 := fu4 (dep_of 4 hru rfl (by kernel_rfl))
      have eu5 := fu5 (dep_of 5 hru rfl (by kernel_rfl))
      replace eu4 := eu4.symm
      subst eu4
      replace eu5 := eu5.symm
      subst eu5
      refine wpOp_shut (by rfl) (fun K hK => ?_)
      simp only [Act.put,xL4,xL5,xL6]
      go_simp
      exact hK.out _ _ ⟨vu0,vu1,vu2,vu3,(.slice (some ⟨b,off,none⟩) n ca),(.int .i64 (k : Int)),(.pointer (some ⟨b,off + k * 3,none⟩)),vu7,vu8,vu9,by simp only [Act.put,xL4,xL5,xL6],hbu,fun h => fu0 (mark_of (by decide) h),fun h => fu1 (mark_of (by decide) h),fun h => fu2 (mark_of (by decide) h),fun h => fu3 (mark_of (by decide) h),fun _ => rfl,fun _ => rfl,fun _ => rfl,fun h => fu7 (mark_of (by decide) h),fun h => fu8 (mark_of (by decide) h),fun h => fu9 (mark_of (by decide) h)⟩
     ·have eu6 := fu6 (dep_of 6 hru rfl (by kernel_rfl))
      replace eu6 := eu6.symm
      subst eu6
      refine wpOp_shut (by rfl) (fun K hK => ?_)
      simp only [Act.put,xL4,xL5,xL6]
      obtain ⟨XC_0,XC_1,XC_2⟩ := XC.below hbu
      go_simp
      exact hK.out _ _ ⟨vu0,vu1,vu2,vu3,vu4,vu5,(.pointer (some ⟨b,off + k * 3,none⟩)),(.agg #[.bool p1,.slice ao1 m1 d1,.slice bo1 k9 e1]),vu8,vu9,by simp only [Act.put,xL4,xL5,xL6],hbu,fun h => fu0 (mark_of (by decide) h),fun h => fu1 (mark_of (by decide) h),fun h => fu2 (mark_of (by decide) h),fun h => fu3 (mark_of (by decide) h),fun h => fu4 (mark_of (by decide) h),fun h => fu5 (mark_of (by decide) h),fun _ => rfl,fun _ => rfl,fun h => fu8 (mark_of (by decide) h),fun h => fu9 (mark_of (by decide) h)⟩
     ·have eu7 := fu7 (dep_of 7 hru rfl (by kernel_rfl))
      replace eu7 := eu7.symm
      subst eu7
      have h3 := fu3 (dep_of 3 hru rfl (by kernel_rfl))
      refine wpOp_shut (by rfl) (fun K hK => ?_)
      simp only [Act.put,xL4,xL5,xL6]
      have Hi := Hi.below hbu
      have ht := ht.below hbu
      go_simp
      refine (qmul_at _ _ (((1 : Int) : Rat) / (((ka : Int) : Int) : Rat)) (q k) 4 _ (h3.at _ s1) (Hi.le (by omega)) (by omega) (by omega) ht).mono ?_
      rintro eu wx ⟨r3,rfl,h8,bu⟩
      go_wp2_with fail
      have hbu2 := hbu.trans (bu.mono hbu.size)
      exact hK.out _ _ ⟨vu0,vu1,vu2,vu3,vu4,vu5,vu6,(.agg #[.bool p1,.slice ao1 m1 d1,.slice bo1 k9 e1]),_,vu9,by simp only [Act.put,xL4,xL5,xL6],hbu2,fun h => fu0 (mark_of (by decide) h),fun h => fu1 (mark_of (by decide) h),fun h => fu2 (mark_of (by decide) h),fun h => (fu3 (mark_of (by decide) h)).below bu,fun h => fu4 (mark_of (by decide) h),fun h => fu5 (mark_of (by decide) h),fun h => fu6 (mark_of (by decide) h),fun _ => rfl,fun _ => h8,fun h => (fu9 (mark_of (by decide) h)).below bu⟩
     ·have h8 := fu8 (dep_of 8 hru rfl (by kernel_rfl))
      obtain ⟨pB,aB,nB,cB,bB,mB,dB,rfl⟩ := h8.open
      refine wpOp_shut (by rfl) (fun K hK => ?_)
      simp only [Act.put,xL4,xL5,xL6]
      go_simp
      obtain ⟨wx,hWx,hSx,bu,VXu⟩ := V3.lay wn 35 (.bool pB) (.slice aB nB cB) (.slice bB mB dB)
      rw [← hWx]
      have hbu2 := hbu.trans (bu.mono hbu.size)
      exact hK.out _ _ ⟨vu0,vu1,vu2,vu3,vu4,vu5,vu6,vu7,(.agg #[.bool pB,.slice aB nB cB,.slice bB mB dB]),_,by simp only [Act.put,xL4,xL5,xL6],hbu2,fun h => fu0 (mark_of (by decide) h),fun h => fu1 (mark_of (by decide) h),fun h => fu2 (mark_of (by decide) h),fun h => (fu3 (mark_of (by decide) h)).below bu,fun h => fu4 (mark_of (by decide) h),fun h => fu5 (mark_of (by decide) h),fun h => fu6 (mark_of (by decide) h),fun h => fu7 (mark_of (by decide) h),fun h => (fu8 (mark_of (by decide) h)).below bu,fun _ => ⟨_,pB,aB,nB,cB,bB,mB,dB,rfl,hbu.size,VXu,h8.below bu⟩⟩
    rintro au Wu2 ⟨vu0,vu1,vu2,vu3,vu4,vu5,vu6,vu7,vu8,vu9,rfl,hbu,fu0,fu1,fu2,fu3,fu4,fu5,fu6,fu7,fu8,fu9⟩
    have eu0 := (fu0 rfl).symm
    subst eu0
    have eu1 := (fu1 rfl).symm
    subst eu1
    have eu2 := (fu2 rfl).symm
    subst eu2
    have h3 := fu3 rfl
    have eu4 := (fu4 rfl).symm
    subst eu4
    have eu5 := (fu5 rfl).symm
    subst eu5
    have eu6 := (fu6 rfl).symm
    subst eu6
    have eu7 := (fu7 rfl).symm
    subst eu7
    have h8 := fu8 rfl
    obtain ⟨RB9,p3,a3,n3,c3,bo3,m3,d3,rfl,hRB9,VB9,hbq⟩ := fu9 rfl
    clear fu0 fu1 fu2 fu3 fu4 fu5 fu6 fu7 fu8 fu9
    have hlXC : b < wa.heap.size := XC.lt
    replace OD := OD.below hbu
    replace OA := OA.below hbu
    replace Hi := Hi.below hbu
    replace ht := ht.below hbu
    replace XC := XC.below hbu
    replace BB := BB.trans (hbu.mono BB.size)
    clear hbu
    simp only [Act.put,xL4,xL5,xL6]
    refine xR [10] (h := ?_)
    refine AllReadyH.cons (by rfl) (fun K hK => ?_) AllReadyH.nil
    rw [HAR.out] at hbq
    obtain ⟨us,el',o1,o2,o3,o4⟩ := id OA
    have hul : us.length = (ka) * 3 := o1.1
    have HO3 : Hid (∀ i',i' < ka → ∀ j,j < 3 → us[i' * 3 + j]? = some (el' i' j)) := o3
    have HO4 : Hid (∀ i',i' < ka → RepQ Wu2 (.agg #[el' i' 0,el' i' 1,el' i' 2]) ((areaQ q) i')) := o4
    have hPO : Hid (∀ g0,Value.ownBlock (.slice aa_ ka ca_) = some g0 → PureB IsNum Wu2 g0) := o2
    have hOb : Hid (∀ g0,Value.ownBlock (.slice aa_ ka ca_) = some g0 → W2.heap.size ≤ g0) := fun g0 hg0 => (o1.lt g0 hg0).1
    clear o2 o3 o4
    have hWb9 : W2.heap.size ≤ Wu2.heap.size := BB.size
    refine step_append_pure (Q' := IsNum) (by rfl) _ _ _ (by rfl) W2.heap.size 35 (.agg #[.bool false,.slice none 0 0,.slice none 0 0]) 3 56 Tryz.underlying22 info_wrat (by rfl) (by omega) (.slice aa_ ka ca_) (by rfl) (ka) us o1 hPO.out ⟨RB9,0,none⟩ 1 (by rfl) [.bool p3,.slice a3 n3 c3,.slice bo3 m3 d3] rfl (news_v3 VB9) (by simp [Value.oneCell']) (by simp [num_slice,num_bool]) (by simp [Value.cells,num_slice,num_bool]) (by omega) (by omega) hWb9 ?_
    intro gb capb wb ho5 hg5 hat5 hp5 hk5
    have X_n : FOwn W2.heap.size wb (.slice (some ⟨gb,0,none⟩) (ka + 1) capb) (ka + 1) (areaQ q) := FOwn.more ho5 hp5 hul HO3.out HO4.out hbq hk5
    have BB_n : Below W2.heap.size W2 wb := below_grownB BB hg5 hWb9 (fun g0 hg0 => hOb.out g0 hg0)
    have OD_n := OD.stay (x := .slice aa_ ka ca_) hg5 hk5 A1
    have NOD := aside_new (m := ka + 1) (c := capb) OD A1 hat5
    clear OA OD
    have OD := OD_n
    clear OD_n
    replace A1 := NOD
    clear NOD
    have OA := X_n
    clear BB
    have BB := BB_n
    clear X_n BB_n o1 hPO HO3 HO4 hOb hul ho5 hg5 hat5 hp5 hk5 hbq VB9 hWb9 XC Hi ht h3 h8
    refine hK.out _ _ trivial (fun _ => ?_)
    clear hK K
    simp only [Act.put,xL4,xL5,xL6]
    refine xR [11] (h := ?_)
    refine AllReadyH.cons (by rfl) (fun K hK => ?_) AllReadyH.nil
    go_simp
    refine hK.out _ _ trivial (fun _ => ?_)
    clear hK K
    simp only [Act.put,xL4,xL5,xL6]
    refine wpAnyH_done (by kernel_rfl) ?_ _
    go_wp2
    go_roundw
    case rel => exact ⟨k + 1,kd + 1,ka + 1,by omega,by go_num,⟨by have := HK2.out; omega,by have := HK2.out; omega⟩,OD,OA,A1,BB⟩
    case measure => simp [intOf]; omega
  ·obtain rfl : k = n := by omega
   have hki : ¬ (k : Int) < (k : Int) := by omega
   have QP := QA0.below BB
   have VX := VX0.below BB
   have VY := VY0.below BB
   have Xx := Xx0.below BB
   have Xy := Xy0.below BB
   have ht := ht0.below BB
   have hWw : w.heap.size ≤ W2.heap.size := HBB.out.size
   replace BB := HBB.out.trans (BB.mono hWw)
   have OD1 := OD.row
   have OA1 := OA.row
   clear OD OA A1
   have hkd : kd = k - 1 := HKK.out.1
   have hka : ka = k + 1 := HKK.out.2
   have hkd7 : kd ≤ 7 := by omega
   have hka8 : ka ≤ 8 := by omega
   have sQ : ∀ i,i < k → qsz (q i) ≤ 2 := fun i hi => QP.sz (by omega) i hi
   have sD : ∀ i,i < kd → qsz ((fun i => q (i + 1) * (((i + 1 : Nat) : Int) : Rat)) i) ≤ 6 := fun i hi => Nat.le_trans (qsz_mul _ _ (sQ (i + 1) (by omega)) (qsz_int (L := 2) _ (Nat.le_trans ((nl_two _).2 (by omega)) (by omega)) (by omega))) (by omega)
   have sA : ∀ i,i < ka → qsz (areaQ q i) ≤ 6 := fun i hi => area_sz q k i (by omega) sQ
   have tD := trimN_le (fun i => q (i + 1) * (((i + 1 : Nat) : Int) : Rat)) kd
   have tA := trimN_le (areaQ q) ka
   have HDD : Hid (∀ i,co (trimN (fun i => areaQ q (i + 1) * (((i + 1 : Nat) : Int) : Rat)) (trimN (areaQ q) ka - 1)) (fun i => areaQ q (i + 1) * (((i + 1 : Nat) : Int) : Rat)) i = co k q i) := by rw [hka]; exact deriv_area q k
   have HDA : Hid (∀ i,qsz ((fun i => areaQ q (i + 1) * (((i + 1 : Nat) : Int) : Rat)) i) ≤ 8 ∨ ¬ i + 1 < ka) := fun i => by
    by_cases hi : i + 1 < ka
    ·exact Or.inl (Nat.le_trans (qsz_mul _ _ (sA (i + 1) hi) (qsz_int (L := 2) _ (Nat.le_trans ((nl_two _).2 (by omega)) (by omega)) (by omega))) (by omega))
    ·exact Or.inr hi
   have sxx := Xx.qsz (by omega)
   have syy := Xy.qsz (by omega)
   have sEx : qsz (evN (areaQ q) x ka) ≤ 300 := Nat.le_trans (qsz_evN (areaQ q) x 6 2 sxx ka sA) (Nat.le_trans (Nat.succ_le_succ (Nat.mul_le_mul hka8 (by omega))) (show 8 * (6 + 2 * 8 + 2) + 1 ≤ 300 by omega))
   have sEy : qsz (evN (areaQ q) y ka) ≤ 300 := Nat.le_trans (qsz_evN (areaQ q) y 6 2 syy ka sA) (Nat.le_trans (Nat.succ_le_succ (Nat.mul_le_mul hka8 (by omega))) (show 8 * (6 + 2 * 8 + 2) + 1 ≤ 300 by omega))
   have HB1 : Hid (evN (areaQ q) y (k + 1) - evN (areaQ q) x (k + 1) = evN (areaQ q) y ka - evN (areaQ q) x ka) := by rw [Hid,hka]
   have HNS : Hid (k + 1 ≤ 8 ∧ (k + 1) * (4 + 4 + 2 * (k + 1) + 2) + 1 ≤ 300) := ⟨by omega,Nat.le_trans (Nat.succ_le_succ (Nat.mul_le_mul (show k + 1 ≤ 8 by omega) (show 4 + 4 + 2 * (k + 1) + 2 ≤ 26 by omega))) (by omega)⟩
   have HKD : Hid (kd = k - 1 ∧ ka = k + 1) := ⟨hkd,hka⟩
   clear hkd hka
   go_wp2
   have hDr : Below wr.heap.size wr wr.drew := (Below.refl _ _).drew
   replace QP := QP.below hDr
   replace OD1 := OD1.below hDr
   replace OA1 := OA1.below hDr
   replace Xx := Xx.below hDr
   replace Xy := Xy.below hDr
   replace ht := ht.below hDr
   replace VX := VX.below hDr
   replace VY := VY.below hDr
   replace BB := BB.trans (hDr.mono BB.size)
   clear hDr
   refine wp_region_held_drew (S := (fun w' => w'.cell? ⟨w.heap.size,0,none⟩ = some (.bool px) ∧ w'.cell? ⟨w.heap.size,1,none⟩ = some (.slice aox l4x cox) ∧ w'.cell? ⟨w.heap.size,2,none⟩ = some (.slice box k4x dox) ∧ w'.cell? ⟨w.heap.size + 1,0,none⟩ = some (.bool py) ∧ w'.cell? ⟨w.heap.size + 1,1,none⟩ = some (.slice aoy l4y coy) ∧ w'.cell? ⟨w.heap.size + 1,2,none⟩ = some (.slice boy k4y doy))) (by kernel_rfl) ?_ (fun hHeld => ?_)
   ·exact ⟨VX.1,VX.2.1,VX.2.2.1,VY.1,VY.2.1,VY.2.2.1⟩
   generalize wr.drew = W1 at *
   refine xT 0 (v := ?_) (hy := Or.inl ⟨by rfl,?_⟩) (h := ?_)
   rotate_left
   ·(intro w hSw; (try dsimp only at hSw); go_simp; (try with_reducible rfl))
   (try simp only [Act.put,xL4,xL5,xL6])
   refine xT 2 (v := ?_) (hy := Or.inl ⟨by rfl,?_⟩) (h := ?_)
   rotate_left
   ·(intro w hSw; (try dsimp only at hSw); go_simp; (try with_reducible rfl))
   (try simp only [Act.put,xL4,xL5,xL6])
   refine xR [1] (h := ?_)
   refine xN (h := fun K hK => ?_)
   go_simp
   refine (pderive_at _ k q 2 _ QP ht (by omega) (by omega) (by omega)).mono ?_
   rintro e w1 ⟨r1,rfl,h1,b1⟩
   replace h1 := h1.1
   rw [← HKD.out.1] at h1
   go_wp2_with fail
   replace QP := QP.below b1
   replace OD1 := OD1.below b1
   replace OA1 := OA1.below b1
   replace Xx := Xx.below b1
   replace Xy := Xy.below b1
   replace ht := ht.below b1
   replace VX := VX.below b1
   replace VY := VY.below b1
   replace BB := BB.trans (b1.mono BB.size)
   clear b1
   refine hK.out _ _ ?_ (fun hH1 => ?_)
   ·exact ⟨VX.1,VX.2.1,VX.2.2.1,VY.1,VY.2.1,VY.2.2.1⟩
   clear hK K hHeld
   (try simp only [Act.put,xL4,xL5,xL6])
   refine xR [3] (h := ?_)
   refine xN (h := fun K hK => ?_)
   go_simp
   refine (is4_at _ _ _ kd (fun i => q (i + 1) * (((i + 1 : Nat) : Int) : Rat)) (fun i => q (i + 1) * (((i + 1 : Nat) : Int) : Rat)) 6 _ h1 (OD1.q 6 sD) (fun i hi => sD i (by omega)) ht (by omega) (by omega) (by omega) (by omega) (trimN_top _ _) (co_trim _ _)).mono ?_
   rintro e w2 ⟨rfl,b2⟩
   go_wp2_with fail
   replace QP := QP.below b2
   replace OD1 := OD1.below b2
   replace OA1 := OA1.below b2
   replace Xx := Xx.below b2
   replace Xy := Xy.below b2
   replace ht := ht.below b2
   replace h1 := h1.below b2
   replace VX := VX.below b2
   replace VY := VY.below b2
   replace BB := BB.trans (b2.mono BB.size)
   clear b2
   refine hK.out _ _ ?_ (fun hH2 => ?_)
   ·exact ⟨VX.1,VX.2.1,VX.2.2.1,VY.1,VY.2.1,VY.2.2.1⟩
   clear hK K hH1
   (try simp only [Act.put,xL4,xL5,xL6])
   refine xT 4 (v := ?_) (hy := Or.inl ⟨by rfl,?_⟩) (h := ?_)
   rotate_left
   ·(intro w hSw; (try dsimp only at hSw); go_simp; (try with_reducible rfl))
   (try simp only [Act.put,xL4,xL5,xL6])
   refine xT 5 (v := ?_) (hy := Or.inl ⟨by rfl,?_⟩) (h := ?_)
   rotate_left
   ·(intro w hSw; (try dsimp only at hSw); go_simp; (try with_reducible rfl))
   (try simp only [Act.put,xL4,xL5,xL6])
   refine xT 7 (v := ?_) (hy := Or.inl ⟨by rfl,?_⟩) (h := ?_)
   rotate_left
   ·(intro w hSw; (try dsimp only at hSw); go_simp; (try with_reducible rfl))
   (try simp only [Act.put,xL4,xL5,xL6])
   refine xR [6] (h := ?_)
   refine xN (h := fun K hK => ?_)
   go_simp
   refine (parea_at _ k q 4 _ (QP.le (by omega)) ht (by omega) (by omega) (by omega)).mono ?_
   rintro e w3 ⟨r6,rfl,h6,b3⟩
   replace h6 := h6.1
   rw [← HKD.out.2] at h6
   go_wp2_with fail
   replace QP := QP.below b3
   replace OD1 := OD1.below b3
   replace OA1 := OA1.below b3
   replace Xx := Xx.below b3
   replace Xy := Xy.below b3
   replace ht := ht.below b3
   replace h1 := h1.below b3
   replace VX := VX.below b3
   replace VY := VY.below b3
   replace BB := BB.trans (b3.mono BB.size)
   clear b3
   refine hK.out _ _ ?_ (fun hH3 => ?_)
   ·exact ⟨VX.1,VX.2.1,VX.2.2.1,VY.1,VY.2.1,VY.2.2.1⟩
   clear hK K hH2
   (try simp only [Act.put,xL4,xL5,xL6])
   refine xR [8] (h := ?_)
   refine xN (h := fun K hK => ?_)
   go_simp
   refine (is4_at _ _ _ ka (areaQ q) (areaQ q) 6 _ h6 (OA1.q 6 sA) (fun i hi => sA i (by omega)) ht (by omega) (by omega) (by omega) (by omega) (trimN_top _ _) (co_trim _ _)).mono ?_
   rintro e w4 ⟨rfl,b4⟩
   go_wp2_with fail
   replace QP := QP.below b4
   replace OD1 := OD1.below b4
   replace OA1 := OA1.below b4
   replace Xx := Xx.below b4
   replace Xy := Xy.below b4
   replace ht := ht.below b4
   replace h1 := h1.below b4
   replace h6 := h6.below b4
   replace VX := VX.below b4
   replace VY := VY.below b4
   replace BB := BB.trans (b4.mono BB.size)
   clear b4
   refine hK.out _ _ ?_ (fun hH4 => ?_)
   ·exact ⟨VX.1,VX.2.1,VX.2.2.1,VY.1,VY.2.1,VY.2.2.1⟩
   clear hK K hH3
   (try simp only [Act.put,xL4,xL5,xL6])
   refine xT 9 (v := ?_) (hy := Or.inl ⟨by rfl,?_⟩) (h := ?_)
   rotate_left
   ·(intro w hSw; (try dsimp only at hSw); go_simp; (try with_reducible rfl))
   (try simp only [Act.put,xL4,xL5,xL6])
   refine xT 10 (v := ?_) (hy := Or.inl ⟨by rfl,?_⟩) (h := ?_)
   rotate_left
   ·(intro w hSw; (try dsimp only at hSw); go_simp; (try with_reducible rfl))
   (try simp only [Act.put,xL4,xL5,xL6])
   refine xT 11 (v := ?_) (hy := Or.inl ⟨by rfl,?_⟩) (h := ?_)
   rotate_left
   ·(intro w hSw; (try dsimp only at hSw); go_simp; (try with_reducible rfl))
   (try simp only [Act.put,xL4,xL5,xL6])
   refine xT 14 (v := ?_) (hy := Or.inl ⟨by rfl,?_⟩) (h := ?_)
   rotate_left
   ·(intro w hSw; (try dsimp only at hSw); go_simp; (try with_reducible rfl))
   (try simp only [Act.put,xL4,xL5,xL6])
   refine xR [12] (h := ?_)
   refine xN (h := fun K hK => ?_)
   go_simp
   refine (parea_at _ k q 4 _ (QP.le (by omega)) ht (by omega) (by omega) (by omega)).mono ?_
   rintro e w5 ⟨r12,rfl,h12,b5⟩
   replace h12 := h12.1
   rw [← HKD.out.2] at h12
   go_wp2_with fail
   replace QP := QP.below b5
   replace OD1 := OD1.below b5
   replace OA1 := OA1.below b5
   replace Xx := Xx.below b5
   replace Xy := Xy.below b5
   replace ht := ht.below b5
   replace h1 := h1.below b5
   replace h6 := h6.below b5
   replace VX := VX.below b5
   replace VY := VY.below b5
   replace BB := BB.trans (b5.mono BB.size)
   clear b5
   refine hK.out _ _ ?_ (fun hH5 => ?_)
   ·exact ⟨VX.1,VX.2.1,VX.2.2.1,VY.1,VY.2.1,VY.2.2.1⟩
   clear hK K hH4
   (try simp only [Act.put,xL4,xL5,xL6])
   refine xR [13] (h := ?_)
   refine xN (h := fun K hK => ?_)
   go_simp
   refine (pderive_at _ (trimN (areaQ q) ka) (areaQ q) 6 _ (h12.q 6 (fun i hi => sA i (by omega))) ht (by omega) (by omega) (by omega)).mono ?_
   rintro e w6 ⟨r13,rfl,h13,b6⟩
   replace h13 := h13.1
   go_wp2_with fail
   replace QP := QP.below b6
   replace OD1 := OD1.below b6
   replace OA1 := OA1.below b6
   replace Xx := Xx.below b6
   replace Xy := Xy.below b6
   replace ht := ht.below b6
   replace h1 := h1.below b6
   replace h6 := h6.below b6
   replace h12 := h12.below b6
   replace VX := VX.below b6
   replace VY := VY.below b6
   replace BB := BB.trans (b6.mono BB.size)
   clear b6
   refine hK.out _ _ ?_ (fun hH6 => ?_)
   ·exact ⟨VX.1,VX.2.1,VX.2.2.1,VY.1,VY.2.1,VY.2.2.1⟩
   clear hK K hH5
   (try simp only [Act.put,xL4,xL5,xL6])
   refine xR [15] (h := ?_)
   refine xN (h := fun K hK => ?_)
   go_simp
   refine (is4_at _ _ _ k (fun i => areaQ q (i + 1) * (((i + 1 : Nat) : Int) : Rat)) q 8 _ h13 (QP.le (by omega)) (fun i hi => (HDA.out i).resolve_right (fun h => h (by have := trimN_le (fun i => areaQ q (i + 1) * (((i + 1 : Nat) : Int) : Rat)) (trimN (areaQ q) ka - 1); omega))) ht (by have := trimN_le (fun i => areaQ q (i + 1) * (((i + 1 : Nat) : Int) : Rat)) (trimN (areaQ q) ka - 1); omega) (by omega) (by omega) (by omega) (trimN_top _ _) HDD.out).mono ?_
   rintro e w7 ⟨rfl,b7⟩
   go_wp2_with fail
   replace QP := QP.below b7
   replace OD1 := OD1.below b7
   replace OA1 := OA1.below b7
   replace Xx := Xx.below b7
   replace Xy := Xy.below b7
   replace ht := ht.below b7
   replace h1 := h1.below b7
   replace h6 := h6.below b7
   replace h12 := h12.below b7
   replace h13 := h13.below b7
   replace VX := VX.below b7
   replace VY := VY.below b7
   replace BB := BB.trans (b7.mono BB.size)
   clear b7
   refine hK.out _ _ ?_ (fun hH7 => ?_)
   ·exact ⟨VX.1,VX.2.1,VX.2.2.1,VY.1,VY.2.1,VY.2.2.1⟩
   clear hK K hH6
   (try simp only [Act.put,xL4,xL5,xL6])
   refine xT 16 (v := ?_) (hy := Or.inl ⟨by rfl,?_⟩) (h := ?_)
   rotate_left
   ·(intro w hSw; (try dsimp only at hSw); go_simp; (try with_reducible rfl))
   (try simp only [Act.put,xL4,xL5,xL6])
   refine xT 17 (v := ?_) (hy := Or.inl ⟨by rfl,?_⟩) (h := ?_)
   rotate_left
   ·(intro w hSw; (try dsimp only at hSw); go_simp; (try with_reducible rfl))
   (try simp only [Act.put,xL4,xL5,xL6])
   refine xT 18 (v := ?_) (hy := Or.inl ⟨by rfl,?_⟩) (h := ?_)
   rotate_left
   ·(intro w hSw; (try dsimp only at hSw); go_simp; (try with_reducible rfl))
   (try simp only [Act.put,xL4,xL5,xL6])
   refine xT 19 (v := ?_) (hy := Or.inl ⟨by rfl,?_⟩) (h := ?_)
   rotate_left
   ·(intro w hSw; (try dsimp only at hSw); go_simp; (try with_reducible rfl))
   (try simp only [Act.put,xL4,xL5,xL6])
   refine xT 20 (v := ?_) (hy := Or.inl ⟨by rfl,?_⟩) (h := ?_)
   rotate_left
   ·(intro w hSw; (try dsimp only at hSw); go_simp; (try with_reducible rfl))
   (try simp only [Act.put,xL4,xL5,xL6])
   refine xT 22 (v := ?_) (hy := Or.inl ⟨by rfl,?_⟩) (h := ?_)
   rotate_left
   ·(intro w hSw; (try dsimp only at hSw); go_simp; (try with_reducible rfl))
   (try simp only [Act.put,xL4,xL5,xL6])
   refine xT 23 (v := ?_) (hy := Or.inl ⟨by rfl,?_⟩) (h := ?_)
   rotate_left
   ·(intro w hSw; (try dsimp only at hSw); go_simp; (try with_reducible rfl))
   (try simp only [Act.put,xL4,xL5,xL6])
   refine xT 25 (v := ?_) (hy := Or.inl ⟨by rfl,?_⟩) (h := ?_)
   rotate_left
   ·(intro w hSw; (try dsimp only at hSw); go_simp; (try with_reducible rfl))
   (try simp only [Act.put,xL4,xL5,xL6])
   refine xT 26 (v := ?_) (hy := Or.inl ⟨by rfl,?_⟩) (h := ?_)
   rotate_left
   ·(intro w hSw; (try dsimp only at hSw); go_simp; (try with_reducible rfl))
   (try simp only [Act.put,xL4,xL5,xL6])
   refine xR [21] (h := ?_)
   refine xN (h := fun K hK => ?_)
   go_simp
   refine (pbetween_at _ _ _ k q x y 4 2 3 300 _ (QP.le (by omega)) Xx Xy ht (by omega) (by omega) (by omega) (by omega) HNS.out.1 (by decide) (by omega) (by omega) HNS.out.2).mono ?_
   rintro e w8 ⟨r21,rfl,h21,b8⟩
   rw [HB1.out] at h21
   go_wp2_with fail
   replace QP := QP.below b8
   replace OD1 := OD1.below b8
   replace OA1 := OA1.below b8
   replace Xx := Xx.below b8
   replace Xy := Xy.below b8
   replace ht := ht.below b8
   replace h1 := h1.below b8
   replace h6 := h6.below b8
   replace h12 := h12.below b8
   replace h13 := h13.below b8
   replace VX := VX.below b8
   replace VY := VY.below b8
   replace BB := BB.trans (b8.mono BB.size)
   clear b8
   refine hK.out _ _ ?_ (fun hH8 => ?_)
   ·exact ⟨VX.1,VX.2.1,VX.2.2.1,VY.1,VY.2.1,VY.2.2.1⟩
   clear hK K hH7
   (try simp only [Act.put,xL4,xL5,xL6])
   refine xR [24] (h := ?_)
   refine xN (h := fun K hK => ?_)
   go_simp
   refine (value4_at _ _ ka (areaQ q) y 6 2 _ (OA1.q 6 sA) Xy ht (by omega) (by omega) (by omega) (Nat.le_trans (Nat.add_le_add_right (Nat.add_le_add (Nat.add_le_add (Nat.mul_le_mul hka8 (show 6 + 2 * ka + 2 ≤ 24 by omega)) (Nat.le_refl 6)) (show 2 * ka ≤ 16 by omega)) 3) (by omega))).mono ?_
   rintro e w9 ⟨r24,rfl,h24,b9⟩
   go_wp2_with fail
   replace QP := QP.below b9
   replace OD1 := OD1.below b9
   replace OA1 := OA1.below b9
   replace Xx := Xx.below b9
   replace Xy := Xy.below b9
   replace ht := ht.below b9
   replace h1 := h1.below b9
   replace h6 := h6.below b9
   replace h12 := h12.below b9
   replace h13 := h13.below b9
   replace h21 := h21.below b9
   replace VX := VX.below b9
   replace VY := VY.below b9
   replace BB := BB.trans (b9.mono BB.size)
   clear b9
   refine hK.out _ _ ?_ (fun hH9 => ?_)
   ·exact ⟨VX.1,VX.2.1,VX.2.2.1,VY.1,VY.2.1,VY.2.2.1⟩
   clear hK K hH8
   (try simp only [Act.put,xL4,xL5,xL6])
   refine xR [27] (h := ?_)
   refine xN (h := fun K hK => ?_)
   go_simp
   refine (value4_at _ _ ka (areaQ q) x 6 2 _ (OA1.q 6 sA) Xx ht (by omega) (by omega) (by omega) (Nat.le_trans (Nat.add_le_add_right (Nat.add_le_add (Nat.add_le_add (Nat.mul_le_mul hka8 (show 6 + 2 * ka + 2 ≤ 24 by omega)) (Nat.le_refl 6)) (show 2 * ka ≤ 16 by omega)) 3) (by omega))).mono ?_
   rintro e w10 ⟨r27,rfl,h27,b10⟩
   go_wp2_with fail
   replace QP := QP.below b10
   replace OD1 := OD1.below b10
   replace OA1 := OA1.below b10
   replace Xx := Xx.below b10
   replace Xy := Xy.below b10
   replace ht := ht.below b10
   replace h1 := h1.below b10
   replace h6 := h6.below b10
   replace h12 := h12.below b10
   replace h13 := h13.below b10
   replace h21 := h21.below b10
   replace h24 := h24.below b10
   replace VX := VX.below b10
   replace VY := VY.below b10
   replace BB := BB.trans (b10.mono BB.size)
   clear b10
   refine hK.out _ _ ?_ (fun hH10 => ?_)
   ·exact ⟨VX.1,VX.2.1,VX.2.2.1,VY.1,VY.2.1,VY.2.2.1⟩
   clear hK K hH9
   (try simp only [Act.put,xL4,xL5,xL6])
   refine xR [28] (h := ?_)
   refine xN (h := fun K hK => ?_)
   go_simp
   refine (qsub_at _ _ (evN (areaQ q) y ka) (evN (areaQ q) x ka) 300 _ (h24.at _ sEy) (h27.at _ sEx) (by omega) (by omega) ht).mono ?_
   rintro e w11 ⟨r28,rfl,h28,b11⟩
   go_wp2_with fail
   replace QP := QP.below b11
   replace OD1 := OD1.below b11
   replace OA1 := OA1.below b11
   replace Xx := Xx.below b11
   replace Xy := Xy.below b11
   replace ht := ht.below b11
   replace h1 := h1.below b11
   replace h6 := h6.below b11
   replace h12 := h12.below b11
   replace h13 := h13.below b11
   replace h21 := h21.below b11
   replace h24 := h24.below b11
   replace h27 := h27.below b11
   replace VX := VX.below b11
   replace VY := VY.below b11
   replace BB := BB.trans (b11.mono BB.size)
   clear b11
   refine hK.out _ _ ?_ (fun hH11 => ?_)
   ·exact ⟨VX.1,VX.2.1,VX.2.2.1,VY.1,VY.2.1,VY.2.2.1⟩
   clear hK K hH10
   (try simp only [Act.put,xL4,xL5,xL6])
   refine xR [29] (h := ?_)
   refine xN (h := fun K hK => ?_)
   go_simp
   refine (qsame_at _ _ ((evN (areaQ q) y ka) - (evN (areaQ q) x ka)) ((evN (areaQ q) y ka) - (evN (areaQ q) x ka)) 700 _ (h21.at _ (Nat.le_trans (qsz_sub _ _ sEy sEx) (by omega))) (h28.at _ (Nat.le_trans (qsz_sub _ _ sEy sEx) (by omega))) (by omega) (by omega)).mono ?_
   rintro e w12 ⟨rfl,b12⟩
   rw [decide_eq_true (rfl : (evN (areaQ q) y ka) - (evN (areaQ q) x ka) = (evN (areaQ q) y ka) - (evN (areaQ q) x ka))]
   go_wp2_with fail
   replace QP := QP.below b12
   replace OD1 := OD1.below b12
   replace OA1 := OA1.below b12
   replace Xx := Xx.below b12
   replace Xy := Xy.below b12
   replace ht := ht.below b12
   replace h1 := h1.below b12
   replace h6 := h6.below b12
   replace h12 := h12.below b12
   replace h13 := h13.below b12
   replace h21 := h21.below b12
   replace h24 := h24.below b12
   replace h27 := h27.below b12
   replace h28 := h28.below b12
   replace VX := VX.below b12
   replace VY := VY.below b12
   replace BB := BB.trans (b12.mono BB.size)
   clear b12
   refine hK.out _ _ ?_ (fun hH12 => ?_)
   ·exact ⟨VX.1,VX.2.1,VX.2.2.1,VY.1,VY.2.1,VY.2.2.1⟩
   clear hK K hH11
   (try simp only [Act.put,xL4,xL5,xL6])
   refine xT 30 (v := ?_) (hy := Or.inl ⟨by rfl,?_⟩) (h := ?_)
   rotate_left
   ·(intro w hSw; (try dsimp only at hSw); go_simp; (try with_reducible rfl))
   (try simp only [Act.put,xL4,xL5,xL6])
   refine xT 31 (v := ?_) (hy := Or.inl ⟨by rfl,?_⟩) (h := ?_)
   rotate_left
   ·(intro w hSw; (try dsimp only at hSw); go_simp; (try with_reducible rfl))
   (try simp only [Act.put,xL4,xL5,xL6])
   refine xR [32] (h := ?_)
   refine xN (h := fun K hK => ?_)
   go_simp
   refine (awake4_at _ ht).mono ?_
   rintro e w13 ⟨rfl,b13⟩
   go_wp2_with fail
   replace QP := QP.below b13
   replace OD1 := OD1.below b13
   replace OA1 := OA1.below b13
   replace Xx := Xx.below b13
   replace Xy := Xy.below b13
   replace ht := ht.below b13
   replace h1 := h1.below b13
   replace h6 := h6.below b13
   replace h12 := h12.below b13
   replace h13 := h13.below b13
   replace h21 := h21.below b13
   replace h24 := h24.below b13
   replace h27 := h27.below b13
   replace h28 := h28.below b13
   replace VX := VX.below b13
   replace VY := VY.below b13
   replace BB := BB.trans (b13.mono BB.size)
   clear b13
   refine hK.out _ _ ?_ (fun hH13 => ?_)
   ·exact ⟨VX.1,VX.2.1,VX.2.2.1,VY.1,VY.2.1,VY.2.2.1⟩
   clear hK K hH12
   (try simp only [Act.put,xL4,xL5,xL6])
   refine xT 33 (v := ?_) (hy := Or.inl ⟨by rfl,?_⟩) (h := ?_)
   rotate_left
   ·(intro w hSw; (try dsimp only at hSw); go_simp; (try with_reducible rfl))
   (try simp only [Act.put,xL4,xL5,xL6])
   refine xT 34 (v := ?_) (hy := Or.inl ⟨by rfl,?_⟩) (h := ?_)
   rotate_left
   ·(intro w hSw; (try dsimp only at hSw); go_simp; (try with_reducible rfl))
   (try simp only [Act.put,xL4,xL5,xL6])
   refine wpAnyH_done (by kernel_rfl) ?_ _
   clear hH13
   go_wp2
   go_ret
   exact ⟨rfl,BB⟩

theorem own : ownKnob Tryz.prog.godebug = none := by kernel_rfl
theorem laidOut : laidOutB Tryz.prog = true := by kernel_rfl

abbrev laid1 : List (String × DataW Unit) := [("math/bits.deBruijn64tab",Rows.laid_math_bits_deBruijn64tab)]
theorem gTab : Tryz.prog.globalNamed "math/bits.deBruijn64tab" = some 0 := by kernel_rfl
theorem gTabType : (Tryz.prog.globals[0]?).map (·.type) = some 137 := by kernel_rfl
theorem uTab : Tryz.prog.underlying 137 = some (.array 64 5) := by kernel_rfl
theorem uCell : Tryz.prog.underlying 5 = some (.int .u8) := by kernel_rfl
theorem cCell : Tryz.prog.cellsOf 5 = 1 := by kernel_rfl
theorem cTab : Tryz.prog.cellsOf 137 = 64 := by kernel_rfl
/-- The listed table lies in its cells. -/
theorem tab_of {W : World} (h : laidMetH Tryz.prog laid1 W) : Tab W := by
 rw [MakeChecks.laidMetH_plain _ _ _ (by kernel_rfl)] at h
 have hd : laid1 = [("math/bits.deBruijn64tab",Lib.tabData .u8 (Lib.deBruijn64tab.map fun (n : Nat) => Int.ofNat n))] := rfl
 rw [hd] at h
 have hT := Lib.tabIs_of_head gTab gTabType uTab uCell cCell cTab h
 intro i hi
 have hc := hT.cell gTab i (by rw [List.length_map]; exact hi)
 rw [hc]
 congr 2
 rw [List.getD_eq_getElem?_getD,List.getElem?_map,List.getD_eq_getElem?_getD]
 cases Lib.deBruijn64tab[i]? <;> rfl
/-- A start for the witness: the heap that the run of the program's own initialisers leaves. -/
noncomputable def startW (os : Os) : World := { World.holding Tryz.prog os ⟨#[],#[],[]⟩ with heap := (varsWorld Tryz.prog 400 (varsId Tryz.prog) os (fun _ _ => 0)).heap }
theorem start_met (os : Os) (args : Array Value) : laidMetH Tryz.prog laid1 ((startW os).forCall (fun _ _ => 0) ⟨#[],args,[]⟩).memory :=
 laidMetH_of_parts3 (fuel := 8) (laidMet_of_run' 8 (by kernel_rfl) (by kernel_rfl)) (by kernel_rfl) (by kernel_rfl)

set_option maxRecDepth 100000 in
theorem lifted (os : Os) (started : os.Started) (H : Type) (enc : TypeId × Value → H) :
  ReturnsInHanded {} Tryz.checked os 7 .any (fun w args => (Rows.polySlopesSpec.pre enc Tryz.prog Tryz.f7 [] false w args ∧ laidMetH Tryz.prog laid1 w) ∧ sizedMet enc Tryz.prog Tryz.f7 (OpenSpec.ofChange Rows.polySlopesSpec) false w args) (Rows.polySlopesSpec.post enc Tryz.prog Tryz.f7 false true false false) := by
 refine returnsInHanded_of_change_and (C := Tryz.checked) (X := fun w _ => laidMetH Tryz.prog laid1 w) (fun _ _ _ hh h => h.of_heap hh) own started (by kernel_rfl) Tryz.func7
  (ChangeSpec.witness_shaped (enc := enc) (C := Tryz.checked) (os := os) (X := fun w _ => laidMetH Tryz.prog laid1 w) false (startW os) #[.slice none 0 0,.agg #[.bool false,.slice none 0 0,.slice none 0 0],.agg #[.bool false,.slice none 0 0,.slice none 0 0]] 8 rfl (World.shaped_of_RefB (by kernel_rfl) (by kernel_rfl)) (by kernel_rfl) (by kernel_rfl) (by kernel_rfl) (start_met os _)) ?_
 intro W base args ds gs before hval0 hW _ _ hL _
 have hval : ∀ (j : Nat) t v,Tryz.f7.params[j]? = some t → args[j]? = some v → Value.okWide Tryz.prog W .any base t v := hval0
 have hW' := hW
 obtain ⟨p,q,hA0,hV,rfl,hfz,hnd⟩ := hW
 have hA : DataW.TrodAll enc Tryz.prog W 0 (fun _ => true) true Tryz.f7.params.toList args.toList ds p := hA0
 rw [Tryz.params7] at hA hval
 obtain ⟨v0,vs0,d0,ds0,p0,q0,hargs,rfl,rfl,h0,r0⟩ := trodAll_cons hA
 obtain ⟨v1,vs1,d1,ds1,p1,q1,rfl,rfl,rfl,h1,r1⟩ := trodAll_cons r0
 obtain ⟨v2,vs2,d2,ds2,p2,q2,rfl,rfl,rfl,h2,r2⟩ := trodAll_cons r1
 obtain ⟨rfl,rfl,rfl⟩ := trodAll_nil r2
 obtain rfl : args = #[v0,v1,v2] := by cases args; simp_all
 obtain ⟨rfl,rfl⟩ := trodVars_none hV
 have k0 := h0
 have lt0 : ∀ x ∈ p0,x.block < W.heap.size := by obtain ⟨m,hm⟩ := k0; exact DataW.trod_lt m _ _ _ hm
 obtain ⟨n0,z0,w0⟩ := open_wrats KLIST (hval 0 22 v0 rfl rfl) h0
 have k1 := h1
 have lt1 : ∀ x ∈ p1,x.block < W.heap.size := by obtain ⟨m,hm⟩ := k1; exact DataW.trod_lt m _ _ _ hm
 obtain ⟨neg1,ao1,n1,c1,bo1,m1,d1,f1,g1,rfl,w1,x1⟩ := open_wrat (hval 1 35 v1 rfl rfl) h1
 have k2 := h2
 have lt2 : ∀ x ∈ p2,x.block < W.heap.size := by obtain ⟨m,hm⟩ := k2; exact DataW.trod_lt m _ _ _ hm
 obtain ⟨neg2,ao2,n2,c2,bo2,m2,d2,f2,g2,rfl,w2,x2⟩ := open_wrat (hval 2 35 v2 rfl rfl) h2
 clear hA0 hval0
 refine (walk _ _ _ _ _ _ _ _ _ _ _ _ _ _ _ _ _ _ _ _ _ W w0 w1 x1 w2 x2 (tab_of hL)).mono fun e W' ⟨he,bel⟩ => ?_
 subst he
 exact ⟨_,rfl,_,_,_,[],_,[],hW',trodAll_mk1 (shut_bool Tryz.underlying4 _),(trodAll_cons_mk (Below.trod laidOut (by kernel_rfl) (of_decide_eq_true (by kernel_rfl)) k0 bel lt0) (trodAll_cons_mk (Below.trod laidOut (by kernel_rfl) (of_decide_eq_true (by kernel_rfl)) k1 bel lt1) (trodAll_cons_mk (Below.trod laidOut (by kernel_rfl) (of_decide_eq_true (by kernel_rfl)) k2 bel lt2) trodAll_mk0))),rfl,bel.frame _,fun h => by cases h⟩

theorem over : Rows.polySlopesRow.holds Tryz.pinned (OpenSpec.ofChange Rows.polySlopesSpec) :=
 OpenClaim.holds_of_wide 7 Tryz.f7 rfl rfl rfl rfl rfl rfl rfl ⟨rfl,rfl,rfl,rfl,rfl⟩ rfl rfl rfl rfl rfl (by kernel_rfl) Tryz.func7 (by kernel_rfl)
  (of_decide_eq_true (by kernel_rfl)) (by unfold Func.isWrapper; first | (rw [if_pos (by decide +kernel)]; kernel_rfl) | (rw [if_neg (by decide +kernel)]; exact ⟨rfl,rfl⟩))
  (fun os started H enc _ => lifted os started H enc)

end Go.Proofs.YtnbocjbfieklhaaGreatDoor.polySlopes
namespace Go.Proofs.YtnbocjbfieklhaaGreatDoor
/-- The statement: the row, tied to the text of the program. -/
theorem polySlopes_holds : Rows.PolySlopesCardSaid :=
 Claim7.holds_tied_plain_at .later [] [.data] true (true,"bbc665b88dfdf00f59a32d7f70012164447cbec1d4343b32efd05aa9803691dc") false
  polySlopes.over (fun _ h => by cases h) (by kernel_rfl) (fun _ h => by cases h) polySlopes_row_tie rfl ⟨rfl,rfl⟩ (by kernel_rfl) rfl
  (fun f fn hf hfn => by
   obtain rfl : f = 7 := Option.some.inj ((show Tryz.prog.funcNamed "dendron/dendronlaw04.PolySlopes" = some 7 by kernel_rfl).symm.trans hf) |>.symm
   obtain rfl : fn = Tryz.f7 := (Option.some.inj (Tryz.func7.symm.trans hfn)).symm
   exact ⟨by kernel_rfl,fun j t ht => by
    rw [Tryz.params7] at ht
    have hm : t ∈ [22,35,35] := by simpa using Array.mem_of_getElem? ht
    have hall : ([22,35,35].all fun u => !Tryz.prog.wantsStandIn u) = true := by kernel_rfl
    exact (show Tryz.prog.wantsStandIn t = false by simpa using List.all_eq_true.1 hall t hm)⟩)
  (by kernel_rfl)
end Go.Proofs.YtnbocjbfieklhaaGreatDoor
