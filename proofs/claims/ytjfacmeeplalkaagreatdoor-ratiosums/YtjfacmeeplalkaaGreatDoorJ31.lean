/-
  Texts of mine, joined: what lies beneath the statement.
-/
import Derived.Test.YtjfacmeeplalkaaGreatDoorJ1
import Derived.Test.YtjfacmeeplalkaaGreatDoorJ30
import Derived.Test.YtjfacmeeplalkaaGreatDoorJ18
import Derived.Deep.Cut
/-
 What ratio's Print,Round and powerOfTen answer.
-/
namespace Go.Proofs.YtjfacmeeplalkaaGreatDoor
open Go.RowKit
set_option linter.unusedVariables false
set_option linter.unusedSimpArgs false

theorem nprint_at (v : Value) (x L : Nat) (w : World) (hv : NatAt w v x L) (hL : L ≤ 10000) : Calls Tryz.prog 109 #[v] w fun e w' => e = .returned (.string (txt x)) ∧ Below w.heap.size w w' := by
 obtain ⟨n,f,h1,h2,rfl,h4⟩ := hv
 exact print_any v n f w h1 h2 (by omega)
theorem txt_small (x L : Nat) (h : nl W32 x ≤ L) : (txt x).size ≤ 10 * L + 1 := by
 rw [txt_size]
 exact ndec_le _ _ (Nat.lt_of_lt_of_le (lt_pow_nl W32 x (by decide)) (Nat.pow_le_pow_right (by decide) h))
theorem ztxt_small (z : Int) (L : Nat) (h : nl W32 z.natAbs ≤ L) : (ztxt z).size ≤ 10 * L + 2 := by
 have := txt_small z.natAbs L h
 unfold ztxt
 split
 ·rw [ByteArray.size_append]; show 1 + _ ≤ _; omega
 ·omega
/-- A number as text. -/
def qtxt (q : Rat) : ByteArray := if q.den = 1 then ztxt q.num else ztxt q.num ++ { data := #[47] } ++ txt q.den


set_option maxRecDepth 20000 in
set_option maxHeartbeats 1000000 in
theorem qprint_at (v : Value) (q : Rat) (L : Nat) (w : World) (hv : RatAt w v q L) (hL : 1 ≤ L) (hM : L ≤ 9000) (ht : Tab w) :
  Calls Tryz.prog 75 #[v] w fun e w' => e = .returned (.string (qtxt q)) ∧ Below w.heap.size w w' := by
 obtain ⟨p,ao,n,c,bo,m,d,rfl⟩ := hv.open
 have hqs := hv.qsz hL
 have BB : Below w.heap.size w w := Below.refl _ _
 obtain ⟨Wb0,hW0,hS0,hL0,VA⟩ := V3.lay w 27 (.bool p) (.slice ao n c) (.slice bo m d)
 replace hv := hv.below hL0
 replace ht := ht.below hL0
 replace BB := BB.trans (hL0.mono BB.size)
 clear hL0
 go_enter Tryz.func75,Tryz.ntmps75
 go_wp2_with fail
 rw [← hW0]
 clear hW0 hS0
 refine (qclean_at _ _ _ _ hv hL (by omega) ht).mono ?_
 rintro e w1 ⟨rr,rfl,hr,b1⟩
 replace hv := hv.below b1
 replace ht := ht.below b1
 replace VA := VA.below b1
 replace BB := BB.trans (b1.mono BB.size)
 clear b1
 obtain ⟨pr,ar,nr,cr,br,mr,dr,rfl⟩ := hr.open
 have hKp := VA.keepJ (.bool pr) (.slice ar nr cr) (.slice br mr dr)
 have VA_n := VA.same (.bool pr) (.slice ar nr cr) (.slice br mr dr)
 have hv_n := hv.keep hKp
 have ht_n := ht.keep hKp
 have hr_n := hr.keep hKp
 have BB_n := below_store3 (R := w.heap.size) BB (by omega) (.bool pr) (.slice ar nr cr) (.slice br mr dr)
 clear hKp
 obtain ⟨VA_0,VA_1,VA_2,VA_3,VA_4,VA_5⟩ := id VA
 go_wp2_with fail
 clear VA_0 VA_1 VA_2 VA_3 VA_4 VA_5
 clear BB hv ht hr VA
 generalize ((w1.setCell ⟨w.heap.size,0,none⟩ (.bool pr)).setCell ⟨w.heap.size,1,none⟩ (.slice ar nr cr)).setCell ⟨w.heap.size,2,none⟩ (.slice br mr dr) = W1 at *
 have BB := BB_n
 have hv := hv_n
 have ht := ht_n
 have hr := hr_n
 have VA := VA_n
 clear BB_n hv_n ht_n hr_n VA_n
 obtain ⟨hn,hd⟩ := hr.parts
 have ln := Nat.le_trans (qsz_num q) hqs
 have ld := Nat.le_trans (qsz_den q) hqs
 refine (isOne_at _ _ _ _ (hd.at L ld)).mono ?_
 rintro e w2 ⟨rfl,b2⟩
 replace hv := hv.below b2
 replace ht := ht.below b2
 replace hr := hr.below b2
 replace hn := hn.below b2
 replace hd := hd.below b2
 replace VA := VA.below b2
 replace BB := BB.trans (b2.mono BB.size)
 clear b2
 by_cases h1 : q.den = 1
 ·rw [decide_eq_true h1]
  obtain ⟨VA_0,VA_1,VA_2,VA_3,VA_4,VA_5⟩ := id VA
  go_wp2_with fail
  clear VA_0 VA_1 VA_2 VA_3 VA_4 VA_5
  refine (wprint_any _ _ _ _ (hn.at L ln) (by omega)).mono ?_
  rintro e w3 ⟨rfl,b3⟩
  replace hv := hv.below b3
  replace ht := ht.below b3
  replace hr := hr.below b3
  replace hn := hn.below b3
  replace hd := hd.below b3
  replace VA := VA.below b3
  replace BB := BB.trans (b3.mono BB.size)
  clear b3
  go_wp2
  go_ret
  exact ⟨by unfold qtxt; rw [if_pos h1]; rfl,BB⟩
 ·rw [decide_eq_false h1]
  have s1 := ztxt_small q.num L ln
  have s2 := txt_small q.den L ld
  have HX : Hid (qtxt q = ztxt q.num ++ { data := #[47] } ++ txt q.den) := by show _ = _; unfold qtxt; rw [if_neg h1]
  have HR := HX.out
  generalize hT : ztxt q.num = T at *
  generalize hU : txt q.den = U at *
  clear HR
  have n1 : ¬ 9223372036854775807 < T.size + 1 := by omega
  have n2 : ¬ 9223372036854775807 < T.size + 1 + U.size := by omega
  go_wp2
  have hDr : Below w2.heap.size w2 w2.drew := (Below.refl _ _).drew
  replace hv := hv.below hDr
  replace ht := ht.below hDr
  replace hr := hr.below hDr
  replace hn := hn.below hDr
  replace hd := hd.below hDr
  replace VA := VA.below hDr
  replace BB := BB.trans (hDr.mono BB.size)
  clear hDr
  refine wp_region_held_drew (S := (fun w' => w'.cell? ⟨w.heap.size,0,none⟩ = some (.bool pr) ∧ w'.cell? ⟨w.heap.size,1,none⟩ = some (.slice ar nr cr) ∧ w'.cell? ⟨w.heap.size,2,none⟩ = some (.slice br mr dr))) (by kernel_rfl) ?_ (fun hHeld => ?_)
  ·exact ⟨VA.1,VA.2.1,VA.2.2.1⟩
  generalize w2.drew = W2 at *
  refine wpAnyH_take (i := 0) (v := ?_) (by simp only [xL1,xL2,xL3]; rfl) (by kernel_rfl) (by kernel_rfl) (by kernel_rfl) (by exact fun _ _ _ h => h) (Or.inl ⟨by rfl,?_⟩) (by assumption) ?_
  rotate_left
  ·(intro w hSw; (try dsimp only at hSw); go_simp; (try with_reducible rfl))
  (try simp only [Act.put,xL4,xL5,xL6])
  refine wpAnyH_take (i := 1) (v := ?_) (by simp only [xL1,xL2,xL3]; rfl) (by kernel_rfl) (by kernel_rfl) (by kernel_rfl) (by exact fun _ _ _ h => h) (Or.inl ⟨by rfl,?_⟩) (by assumption) ?_
  rotate_left
  ·(intro w hSw; (try dsimp only at hSw); go_simp; (try with_reducible rfl))
  (try simp only [Act.put,xL4,xL5,xL6])
  refine wpAnyH_take (i := 4) (v := ?_) (by simp only [xL1,xL2,xL3]; rfl) (by kernel_rfl) (by kernel_rfl) (by kernel_rfl) (by exact fun _ _ _ h => h) (Or.inl ⟨by rfl,?_⟩) (by assumption) ?_
  rotate_left
  ·(intro w hSw; (try dsimp only at hSw); go_simp; (try with_reducible rfl))
  (try simp only [Act.put,xL4,xL5,xL6])
  refine wpAnyH_take (i := 5) (v := ?_) (by simp only [xL1,xL2,xL3]; rfl) (by kernel_rfl) (by kernel_rfl) (by kernel_rfl) (by exact fun _ _ _ h => h) (Or.inl ⟨by rfl,?_⟩) (by assumption) ?_
  rotate_left
  ·(intro w hSw; (try dsimp only at hSw); go_simp; (try with_reducible rfl))
  (try simp only [Act.put,xL4,xL5,xL6])
  refine wpAnyH_ready (rs := [2]) (by kernel_rfl) (by simp) ?_
  refine AllReadyH.cons (by simp only [xL1,xL2,xL3]; rfl) (fun K hK => ?_) AllReadyH.nil
  go_simp
  refine (wprint_any _ _ _ _ (hn.at L ln) (by omega)).mono ?_
  rintro e w3 ⟨rfl,b3⟩
  rw [hT]
  go_wp2_with fail
  replace hv := hv.below b3
  replace ht := ht.below b3
  replace hr := hr.below b3
  replace hn := hn.below b3
  replace hd := hd.below b3
  replace VA := VA.below b3
  replace BB := BB.trans (b3.mono BB.size)
  clear b3
  refine hK.out _ _ ?_ (fun hH1 => ?_)
  ·exact ⟨VA.1,VA.2.1,VA.2.2.1⟩
  clear hK K hHeld
  (try simp only [Act.put,xL4,xL5,xL6])
  refine wpAnyH_take (i := 3) (v := ?_) (by simp only [xL1,xL2,xL3]; rfl) (by kernel_rfl) (by kernel_rfl) (by kernel_rfl) (by exact fun _ _ _ h => h) (Or.inl ⟨by rfl,?_⟩) (by assumption) ?_
  rotate_left
  ·(intro w hSw; (try dsimp only at hSw); go_simp; (try with_reducible rfl))
  (try simp only [Act.put,xL4,xL5,xL6])
  refine wpAnyH_ready (rs := [6]) (by kernel_rfl) (by simp) ?_
  refine AllReadyH.cons (by simp only [xL1,xL2,xL3]; rfl) (fun K hK => ?_) AllReadyH.nil
  go_simp
  refine (nprint_at _ _ _ _ (hd.at L ld) (by omega)).mono ?_
  rintro e w4 ⟨rfl,b4⟩
  rw [hU]
  go_wp2_with fail
  replace hv := hv.below b4
  replace ht := ht.below b4
  replace hr := hr.below b4
  replace hn := hn.below b4
  replace hd := hd.below b4
  replace VA := VA.below b4
  replace BB := BB.trans (b4.mono BB.size)
  clear b4
  refine hK.out _ _ ?_ (fun hH2 => ?_)
  ·exact ⟨VA.1,VA.2.1,VA.2.2.1⟩
  clear hK K hH1
  (try simp only [Act.put,xL4,xL5,xL6])
  refine wpAnyH_take (i := 7) (v := ?_) (by simp only [xL1,xL2,xL3]; rfl) (by kernel_rfl) (by kernel_rfl) (by kernel_rfl) (by exact fun _ _ _ h => h) (Or.inl ⟨by rfl,?_⟩) (by assumption) ?_
  rotate_left
  ·(intro w hSw; (try dsimp only at hSw); go_simp; (try with_reducible rfl))
  (try simp only [Act.put,xL4,xL5,xL6])
  refine wpAnyH_take (i := 8) (v := ?_) (by simp only [xL1,xL2,xL3]; rfl) (by kernel_rfl) (by kernel_rfl) (by kernel_rfl) (by exact fun _ _ _ h => h) (Or.inl ⟨by rfl,?_⟩) (by assumption) ?_
  rotate_left
  ·(intro w hSw; (try dsimp only at hSw); go_simp; (try with_reducible rfl))
  (try simp only [Act.put,xL4,xL5,xL6])
  refine wpAnyH_done (by kernel_rfl) ?_ _
  clear hH2
  go_wp2
  go_ret
  exact ⟨by rw [HX.out]; rfl,BB⟩


theorem even_num (f : Nat → Int) (n : Nat) : decide (at0 f n 0 % 2 = 0) = decide (num f n % 2 = 0) := by
 by_cases h : 0 < n
 ·have e := num_digit f n 0 h
  unfold at0; rw [if_pos h]
  unfold dg at e
  rw [Nat.pow_zero,Nat.div_one] at e
  unfold W32 at e
  rw [decide_eq_decide]; omega
 ·obtain rfl : n = 0 := by omega
  have hz : num f 0 = 0 := rfl
  unfold at0; rw [if_neg h,hz]; rfl
theorem neven_at (v : Value) (x L : Nat) (w : World) (hv : NatAt w v x L) : Calls Tryz.prog 90 #[v] w fun e w' => e = .returned (.bool (decide (x % 2 = 0))) ∧ w' = w := by
 obtain ⟨n,f,h1,h2,rfl,_⟩ := hv
 have h := even_any v n f w h1 h2
 rw [even_num] at h; exact h
/-- The nearest whole number; of two the even one. -/
def roundQ (q : Rat) : Int := if 2 * (q - (q.floor : Rat)) < 1 ∨ (2 * (q - (q.floor : Rat)) = 1 ∧ q.floor % 2 = 0) then q.floor else q.floor + 1
theorem round_mkRat (z : Int) (x : Nat) (hx : 0 < x) : roundQ (mkRat z x) =
  if cmpI (((z.fmod (x : Int)).natAbs + (z.fmod (x : Int)).natAbs : Nat) : Int) (x : Int) < 0 ∨ (cmpI (((z.fmod (x : Int)).natAbs + (z.fmod (x : Int)).natAbs : Nat) : Int) (x : Int) = 0 ∧ (z.fdiv (x : Int)).natAbs % 2 = 0) then z.fdiv (x : Int) else z.fdiv (x : Int) + 1 := by
 unfold roundQ
 rw [floor_mkRat z x hx]
 have h1 := Int.mul_fdiv_add_fmod z (x : Int)
 have h2 := Int.fmod_nonneg_of_pos z (show (0 : Int) < (x : Int) by omega)
 generalize z.fdiv (x : Int) = F at *
 generalize z.fmod (x : Int) = G at *
 obtain ⟨r,rfl⟩ : ∃ r : Nat,G = (r : Int) := ⟨G.toNat,by omega⟩
 rw [Int.natAbs_natCast]
 have hx' := ratc_pos x hx
 have hxn : (x : Rat) ≠ 0 := fun e => by rw [e] at hx'; exact Rat.lt_irrefl hx'
 have hq : mkRat z x - (F : Rat) = mkRat (r : Int) x := by
  rw [Rat.mkRat_eq_div,Rat.mkRat_eq_div,← h1,Rat.intCast_add,Rat.intCast_mul,Rat.intCast_natCast,Rat.intCast_natCast]
  grind
 have e2 : 2 * mkRat (r : Int) x = mkRat ((r + r : Nat) : Int) x := by
  rw [Rat.mkRat_eq_div,Rat.mkRat_eq_div,Rat.intCast_natCast,Rat.intCast_natCast,Rat.natCast_add]
  grind
 rw [hq,e2]
 have e1 : (1 : Rat) = mkRat 1 1 := show (1 : Rat) = mkRat (1 : Rat).num (1 : Rat).den from (Rat.mkRat_self 1).symm
 have hlt : mkRat ((r + r : Nat) : Int) x < 1 ↔ ((r + r : Nat) : Int) < (x : Int) := by
  rw [e1,mkRat_lt _ _ _ _ hx (by omega)]; simp
 have heq : mkRat ((r + r : Nat) : Int) x = 1 ↔ ((r + r : Nat) : Int) = (x : Int) := by
  rw [e1,Rat.mkRat_eq_iff (by omega) (by omega)]; simp
 simp only [hlt,heq]
 have c1 : cmpI ((r + r : Nat) : Int) (x : Int) < 0 ↔ ((r + r : Nat) : Int) < (x : Int) := by
  unfold cmpI; split
  ·simp_all
  ·split <;> simp_all
 have c2 : cmpI ((r + r : Nat) : Int) (x : Int) = 0 ↔ ((r + r : Nat) : Int) = (x : Int) := by
  unfold cmpI; split
  ·simp_all; omega
  ·split
   ·simp_all; omega
   ·simp_all; omega
 simp only [c1,c2]
 have c3 : F % 2 = 0 ↔ F.natAbs % 2 = 0 := by omega
 simp only [c3]


set_option maxRecDepth 20000 in
set_option maxHeartbeats 2000000 in
theorem qround_at (v : Value) (q : Rat) (L : Nat) (w : World) (hv : RatAt w v q L) (hL : 1 ≤ L) (hM : L ≤ 100000) :
  Calls Tryz.prog 47 #[v] w fun e w' => ∃ r,e = .returned r ∧ RepI w' r (roundQ q) ∧ Below w.heap.size w w' := by
 obtain ⟨p,ao,n,c,bo,m,d,rfl⟩ := hv.open
 have BB : Below w.heap.size w w := Below.refl _ _
 obtain ⟨Wb0,hW0,hS0,hL0,VA⟩ := V3.lay w 27 (.bool p) (.slice ao n c) (.slice bo m d)
 replace hv := hv.below hL0
 replace BB := BB.trans (hL0.mono BB.size)
 clear hL0
 obtain ⟨Wb1,hW1,hS1,hL1,VR⟩ := V2.lay Wb0 25 (.bool false) (.slice none 0 0)
 rw [hS0] at VR hS1
 replace hv := hv.below hL1
 replace VA := VA.below hL1
 replace BB := BB.trans (hL1.mono BB.size)
 clear hL1
 go_enter Tryz.func47,Tryz.ntmps47
 go_wp2_with fail
 rw [← hW0]
 rw [← hW1]
 clear hW0 hW1 hS0 hS1
 refine (parts_at _ _ _ _ hv hL).mono ?_
 rintro e w1 ⟨una,sna,za,xa,rfl,hza,hxa,hpa,hqa,b1⟩
 replace hv := hv.below b1
 replace VA := VA.below b1
 replace VR := VR.below b1
 replace BB := BB.trans (b1.mono BB.size)
 clear b1
 obtain ⟨pna,ana,nna,cna,rfl⟩ := hza.open
 obtain ⟨bna,mna,dna,rfl⟩ := hxa.open
 have HQa : Hid (q = mkRat za xa) := hqa
 clear hqa
 have hZ1 : w.heap.size ≤ w1.heap.size := BB.size
 have hN1VA : w.heap.size ≠ w1.heap.size := Nat.ne_of_lt VA.lt
 have hN1VR : w.heap.size + 1 ≠ w1.heap.size := Nat.ne_of_lt VR.lt
 obtain ⟨W1,hW1,hS1,hL1,VNa⟩ := V2.lay w1 25 (.bool pna) (.slice ana nna cna)
 replace hv := hv.below hL1
 replace hza := hza.below hL1
 replace hxa := hxa.below hL1
 replace VA := VA.below hL1
 replace VR := VR.below hL1
 replace BB := BB.trans (hL1.mono BB.size)
 clear hL1
 go_wp2_with fail
 rw [← hW1]
 generalize w1.heap.size = R1 at *
 clear hW1 hS1
 have HC : Hid (roundQ q = if cmpI (((za.fmod (xa : Int)).natAbs + (za.fmod (xa : Int)).natAbs : Nat) : Int) (xa : Int) < 0 ∨ (cmpI (((za.fmod (xa : Int)).natAbs + (za.fmod (xa : Int)).natAbs : Nat) : Int) (xa : Int) = 0 ∧ (za.fdiv (xa : Int)).natAbs % 2 = 0) then za.fdiv (xa : Int) else za.fdiv (xa : Int) + 1) := by
  show _ = _
  rw [HQa.out]; exact round_mkRat za xa hpa
 have hfl := fdiv_nl za xa L hza.nl
 have hrl : nl W32 (za.fmod (xa : Int)).natAbs ≤ L := by
  refine Nat.le_trans (nl_mono W32 _ _ (by decide) (?_ : _ ≤ xa)) hxa.nl
  have h1 := Int.fmod_nonneg_of_pos za (show (0 : Int) < (xa : Int) by omega)
  have h2 := Int.fmod_lt_of_pos za (show (0 : Int) < (xa : Int) by omega)
  omega
 refine (divide_at _ _ _ _ _ _ _ hza hxa (by omega) hpa).mono ?_
 rintro e w2 ⟨vq,vs,rfl,hr,hs,b2⟩
 replace hv := hv.below b2
 replace hza := hza.below b2
 replace hxa := hxa.below b2
 replace VA := VA.below b2
 replace VR := VR.below b2
 replace VNa := VNa.below b2
 replace BB := BB.trans (b2.mono BB.size)
 clear b2
 obtain ⟨pr,ar,nr,cr,rfl⟩ := hr.open
 obtain ⟨sv,sn,sc,rfl⟩ := hs.open
 generalize za.fdiv (xa : Int) = F at *
 generalize (za.fmod (xa : Int)).natAbs = G at *
 have hZ2 : w.heap.size ≤ w2.heap.size := BB.size
 have hN2VA : w.heap.size ≠ w2.heap.size := Nat.ne_of_lt VA.lt
 have hN2VR : w.heap.size + 1 ≠ w2.heap.size := Nat.ne_of_lt VR.lt
 have hN2VNa : R1 ≠ w2.heap.size := Nat.ne_of_lt VNa.lt
 obtain ⟨W2,hW2,hS2,hL2,VF⟩ := V2.lay w2 25 (.bool pr) (.slice ar nr cr)
 replace hv := hv.below hL2
 replace hza := hza.below hL2
 replace hxa := hxa.below hL2
 replace hr := hr.below hL2
 replace hs := hs.below hL2
 replace VA := VA.below hL2
 replace VR := VR.below hL2
 replace VNa := VNa.below hL2
 replace BB := BB.trans (hL2.mono BB.size)
 clear hL2
 go_wp2_with fail
 rw [← hW2]
 generalize w2.heap.size = R2 at *
 clear hW2 hS2
 refine (nadd_at _ _ _ _ _ _ _ (hs.at L hrl) (hs.at L hrl) (by omega) (by omega)).mono ?_
 rintro e w3 ⟨t1,rfl,h1,b3⟩
 replace hv := hv.below b3
 replace hza := hza.below b3
 replace hxa := hxa.below b3
 replace hr := hr.below b3
 replace hs := hs.below b3
 replace VA := VA.below b3
 replace VR := VR.below b3
 replace VNa := VNa.below b3
 replace VF := VF.below b3
 replace BB := BB.trans (b3.mono BB.size)
 clear b3
 go_wp2_with fail
 have hgl : nl W32 (G + G) ≤ L + 1 := by
  have := nlz_add (x := (G : Int)) (y := (G : Int)) (a := L) (b := L) (c := L + 1) (by simpa using hrl) (by simpa using hrl) (by omega) (by omega)
  rw [← Int.natCast_add,Int.natAbs_natCast] at this
  exact this
 refine (ncmp_at _ _ _ _ _ _ _ (h1.at _ hgl) hxa).mono ?_
 rintro e w4 ⟨rfl,b4⟩
 replace hv := hv.below b4
 replace hza := hza.below b4
 replace hxa := hxa.below b4
 replace hr := hr.below b4
 replace hs := hs.below b4
 replace h1 := h1.below b4
 replace VA := VA.below b4
 replace VR := VR.below b4
 replace VNa := VNa.below b4
 replace VF := VF.below b4
 replace BB := BB.trans (b4.mono BB.size)
 clear b4
 generalize cmpI ((G + G : Nat) : Int) (xa : Int) = cc at *
 by_cases hlt : cc < 0
 ·have hKp := VR.keepJ (.bool pr) (.slice ar nr cr)
  have hv_n := hv.keep hKp
  have hza_n := hza.keep hKp
  have hxa_n := hxa.keep hKp
  have hr_n := hr.keep hKp
  have hs_n := hs.keep hKp
  have h1_n := h1.keep hKp
  have BB_n := below_store2 (R := w.heap.size + 1) BB (by omega) (.bool pr) (.slice ar nr cr)
  clear hKp
  obtain ⟨VF_0,VF_1,VF_2,VF_3⟩ := id VF
  obtain ⟨q1,q2,q3,q4⟩ := id VR
  go_wp2
  (try simp only [Exit.inBlock,Exit.then])
  refine bodyPost_ret (v := .agg #[.bool pr,.slice ar nr cr]) (by simp [results,go_sem,q1,q2]) rfl ?_
  exact ⟨_,rfl,by rw [HC.out,if_pos (Or.inl hlt)]; exact hr_n,BB_n⟩
 ·by_cases he : cc = 0
  ·subst he
   obtain ⟨VF_0,VF_1,VF_2,VF_3⟩ := id VF
   go_wp2_with fail
   clear VF_0 VF_1 VF_2 VF_3
   refine (neven_at _ _ _ _ (hr.at _ hfl).abs).mono ?_
   rintro e wx ⟨rfl,hwx⟩
   replace hwx := hwx.symm
   subst hwx
   by_cases hev : F.natAbs % 2 = 0
   ·rw [decide_eq_true hev]
    have hKp := VR.keepJ (.bool pr) (.slice ar nr cr)
    have hv_n := hv.keep hKp
    have hza_n := hza.keep hKp
    have hxa_n := hxa.keep hKp
    have hr_n := hr.keep hKp
    have hs_n := hs.keep hKp
    have h1_n := h1.keep hKp
    have BB_n := below_store2 (R := w.heap.size + 1) BB (by omega) (.bool pr) (.slice ar nr cr)
    clear hKp
    obtain ⟨VF_0,VF_1,VF_2,VF_3⟩ := id VF
    obtain ⟨q1,q2,q3,q4⟩ := id VR
    go_wp2
    (try simp only [Exit.inBlock,Exit.then])
    refine bodyPost_ret (v := .agg #[.bool pr,.slice ar nr cr]) (by simp [results,go_sem,q1,q2]) rfl ?_
    exact ⟨_,rfl,by rw [HC.out,if_pos (by simp [hev])]; exact hr_n,BB_n⟩
   ·rw [decide_eq_false hev]
    obtain ⟨VF_0,VF_1,VF_2,VF_3⟩ := id VF
    go_wp2_with fail
    clear VF_0 VF_1 VF_2 VF_3
    refine (next_at _ _ _ _ (hr.at _ hfl) (by omega)).mono ?_
    rintro e w5 ⟨r2,rfl,hr2,b5⟩
    replace hv := hv.below b5
    replace hza := hza.below b5
    replace hxa := hxa.below b5
    replace hr := hr.below b5
    replace hs := hs.below b5
    replace h1 := h1.below b5
    replace VA := VA.below b5
    replace VR := VR.below b5
    replace VNa := VNa.below b5
    replace VF := VF.below b5
    replace BB := BB.trans (b5.mono BB.size)
    clear b5
    obtain ⟨pr2,ar2,nr2,cr2,rfl⟩ := hr2.open
    have hKp := VR.keepJ (.bool pr2) (.slice ar2 nr2 cr2)
    have hv_n := hv.keep hKp
    have hza_n := hza.keep hKp
    have hxa_n := hxa.keep hKp
    have hr_n := hr.keep hKp
    have hs_n := hs.keep hKp
    have h1_n := h1.keep hKp
    have hr2_n := hr2.keep hKp
    have BB_n := below_store2 (R := w.heap.size + 1) BB (by omega) (.bool pr2) (.slice ar2 nr2 cr2)
    clear hKp
    obtain ⟨q1,q2,q3,q4⟩ := id VR
    go_wp2
    (try simp only [Exit.inBlock,Exit.then])
    refine bodyPost_ret (v := .agg #[.bool pr2,.slice ar2 nr2 cr2]) (by simp [results,go_sem,q1,q2]) rfl ?_
    exact ⟨_,rfl,by rw [HC.out,if_neg (by simp [hev])]; exact hr2_n,BB_n⟩
  ·have heb : (cc == 0) = false := by simp [he]
   obtain ⟨VF_0,VF_1,VF_2,VF_3⟩ := id VF
   go_wp2_with fail
   clear VF_0 VF_1 VF_2 VF_3
   refine (next_at _ _ _ _ (hr.at _ hfl) (by omega)).mono ?_
   rintro e w5 ⟨r2,rfl,hr2,b5⟩
   replace hv := hv.below b5
   replace hza := hza.below b5
   replace hxa := hxa.below b5
   replace hr := hr.below b5
   replace hs := hs.below b5
   replace h1 := h1.below b5
   replace VA := VA.below b5
   replace VR := VR.below b5
   replace VNa := VNa.below b5
   replace VF := VF.below b5
   replace BB := BB.trans (b5.mono BB.size)
   clear b5
   obtain ⟨pr2,ar2,nr2,cr2,rfl⟩ := hr2.open
   have hKp := VR.keepJ (.bool pr2) (.slice ar2 nr2 cr2)
   have hv_n := hv.keep hKp
   have hza_n := hza.keep hKp
   have hxa_n := hxa.keep hKp
   have hr_n := hr.keep hKp
   have hs_n := hs.keep hKp
   have h1_n := h1.keep hKp
   have hr2_n := hr2.keep hKp
   have BB_n := below_store2 (R := w.heap.size + 1) BB (by omega) (.bool pr2) (.slice ar2 nr2 cr2)
   clear hKp
   obtain ⟨q1,q2,q3,q4⟩ := id VR
   go_wp2
   (try simp only [Exit.inBlock,Exit.then])
   refine bodyPost_ret (v := .agg #[.bool pr2,.slice ar2 nr2 cr2]) (by simp [results,go_sem,q1,q2]) rfl ?_
   exact ⟨_,rfl,by rw [HC.out,if_neg (by omega)]; exact hr2_n,BB_n⟩


theorem shr_half (n i : Nat) : ((n : Int) / 2 ^ i) = ((n / 2 ^ i : Nat) : Int) := by rw [Int.natCast_ediv]; simp
theorem nl_ten (m K : Nat) (h : m < K) : nl W32 (10 ^ m) ≤ K :=
 nl_le W32 _ _ (by decide) (Nat.lt_of_le_of_lt (Nat.pow_le_pow_left (by decide : 10 ≤ W32) m) (Nat.pow_lt_pow_right (by decide) h))
theorem pow_bits (n i : Nat) : n % 2 ^ (i + 1) = n % 2 ^ i + 2 ^ i * (n / 2 ^ i % 2) := by
 rw [Nat.pow_succ,Nat.mod_mul]
set_option maxRecDepth 20000 in
set_option maxHeartbeats 2000000 in
theorem powTen_at (n : Nat) (w : World) (hn : n ≤ 10000) : Calls Tryz.prog 108 #[.int .i64 (n : Int)] w fun e w' => ∃ r,e = .returned r ∧ Rep w' r (10 ^ n) ∧ Below w.heap.size w w' := by
 have hT0 : n = 0 → Lib.bitLen n = 0 := fun e => by rw [e]; decide
 have hTb : n ≠ 0 → 2 ^ (Lib.bitLen n - 1) ≤ n ∧ n < 2 ^ Lib.bitLen n ∧ 0 < Lib.bitLen n := fun e => bitLen_pow n e (by omega)
 have hT14 : Lib.bitLen n ≤ 14 := Lib.bitLen_le n 14 (by omega) (by omega)
 have HT1 : Hid (n % 2 ^ Lib.bitLen n = n) := by
  show _ = _
  refine Nat.mod_eq_of_lt ?_
  by_cases e : n = 0
  ·rw [hT0 e,e]; omega
  ·exact (hTb e).2.1
 have hw1 : IntKind.u64.wrap (n : Int) = (n : Int) := by rw [IntKind.wrap_u64]; omega
 clear hT0 hTb
 have HNL : Hid (∀ m,m ≤ 20000 → nl W32 (10 ^ m) ≤ 20001) := fun m hm => nl_ten m 20001 (by omega)
 go_enter Tryz.func108,Tryz.ntmps108
 go_wp2_with fail
 refine (nof_at 1 _ (by omega)).mono ?_
 rintro e w1 ⟨o1,rfl,h1,b1⟩
 go_wp2_with fail
 refine (nof_at 10 _ (by omega)).mono ?_
 rintro e w2 ⟨o2,rfl,h2,b2⟩
 replace h1 := h1.below b2
 have BB := b1.trans (b2.mono b1.size)
 clear b1 b2
 go_wp2_with fail
 refine (blen_any (n : Int) _ (by omega) (by omega)).mono ?_
 rintro e w4 ⟨rfl,hw4⟩
 subst hw4
 rw [Int.toNat_natCast]
 generalize Lib.bitLen n = T at *
 go_wp2
 go_loopw [3,4,11] (fun vo vt vi wr => ∃ i : Nat,i ≤ T ∧ vi = .int .i64 (i : Int) ∧ Rep wr vo (10 ^ (n % 2 ^ i)) ∧ Rep wr vt (10 ^ (2 ^ i)) ∧ Below w.heap.size w wr) (fun _ _ vi _ => (T - intOf vi).toNat)
 case atStart => exact ⟨0,by omega,rfl,by rw [Nat.pow_zero,Nat.mod_one]; exact h1,h2,BB⟩
 case round =>
  clear h1 h2 BB
  obtain ⟨i,hi,rfl,ho,ht,BB⟩ := hrel
  by_cases hlt : i < T
  ·have j1 : (i : Int) < (T : Int) := by omega
   have hp : 2 ^ i ≤ 2 ^ 13 := Nat.pow_le_pow_right (by omega) (by omega)
   have hml : n % 2 ^ i < 2 ^ i := Nat.mod_lt _ (Nat.pow_pos (by omega))
   have l1 := HNL.out (n % 2 ^ i) (by omega)
   have l2 := HNL.out (2 ^ i) (by omega)
   have hdi := shr_half n i
   have hand := and_one_int (n / 2 ^ i) (by have := Nat.div_le_self n (2 ^ i); omega)
   have HE : Hid (10 ^ (2 ^ i) * 10 ^ (2 ^ i) = 10 ^ (2 ^ (i + 1))) := by show _ = _; rw [← Nat.pow_add,Nat.pow_succ]; congr 1; omega
   have hbit : n / 2 ^ i % 2 = 0 ∨ n / 2 ^ i % 2 = 1 := by omega
   have HO0 : Hid (n / 2 ^ i % 2 = 0 → 10 ^ (n % 2 ^ (i + 1)) = 10 ^ (n % 2 ^ i)) := fun h => by rw [pow_bits,h]; simp
   have HO1 : Hid (n / 2 ^ i % 2 = 1 → 10 ^ (n % 2 ^ (i + 1)) = 10 ^ (n % 2 ^ i) * 10 ^ (2 ^ i)) := fun h => by rw [pow_bits,h,Nat.mul_one,Nat.pow_add]
   have hi64 : i < 64 := by omega
   clear hml hp
   generalize hA : 10 ^ (n % 2 ^ i) = A at *
   generalize hP : 10 ^ (2 ^ i) = P at *
   clear hA hP
   generalize hm : n / 2 ^ i = m at *
   clear hm
   rcases hbit with hb | hb
   ·have HO := HO0.out hb
    rw [hb] at hand
    have HOO : Hid (10 ^ (n % 2 ^ (i + 1)) = A) := HO
    clear HO HO0 HO1 hb
    go_wp2_with fail
    refine (nmul_at _ _ _ _ 20001 20001 _ (ht.at _ l2) (ht.at _ l2) (by omega)).mono ?_
    rintro e w5 ⟨r5,rfl,h5,b5⟩
    replace ho := ho.below b5
    replace BB := BB.trans (b5.mono BB.size)
    clear b5 ht
    rw [HE.out] at h5
    rw [← HOO.out] at ho
    go_wp2
    go_roundw
    case rel => exact ⟨i + 1,by omega,by go_num,ho,h5,BB⟩
    case measure => simp [intOf]; omega
   ·have HO := HO1.out hb
    rw [hb] at hand
    have HOO : Hid (10 ^ (n % 2 ^ (i + 1)) = A * P) := HO
    clear HO HO0 HO1 hb
    go_wp2_with fail
    refine (nmul_at _ _ _ _ 20001 20001 _ (ho.at _ l1) (ht.at _ l2) (by omega)).mono ?_
    rintro e w4 ⟨r4,rfl,h4,b4⟩
    replace ht := ht.below b4
    replace BB := BB.trans (b4.mono BB.size)
    clear b4 ho
    go_wp2_with fail
    refine (nmul_at _ _ _ _ 20001 20001 _ (ht.at _ l2) (ht.at _ l2) (by omega)).mono ?_
    rintro e w5 ⟨r5,rfl,h5,b5⟩
    replace h4 := h4.below b5
    replace BB := BB.trans (b5.mono BB.size)
    clear b5 ht
    rw [HE.out] at h5
    rw [← HOO.out] at h4
    go_wp2
    go_roundw
    case rel => exact ⟨i + 1,by omega,by go_num,h4,h5,BB⟩
    case measure => simp [intOf]; omega
  ·have j1 : ¬ (i : Int) < (T : Int) := by omega
   obtain rfl : i = T := by omega
   rw [HT1.out] at ho
   go_wp2
   go_ret
   exact ⟨_,rfl,ho,BB⟩

end Go.Proofs.YtjfacmeeplalkaaGreatDoor

/-
 Variables that hold small numbers are set: limbs stay.
-/
namespace Go.Proofs.YtjfacmeeplalkaaGreatDoor
open Go.RowKit
set_option linter.unusedVariables false

/-- A limb, or a byte of a table. -/
def IsLimb (v : Value) : Prop := ∃ x,v = .int .u64 x ∨ v = .int .u8 x
theorem limb_int (x : Int) : ¬ IsLimb (.int .i64 x) := fun ⟨_,h⟩ => by rcases h with h | h <;> cases h
theorem Nums.keepL {w w' : World} {v : Value} {n : Nat} {f : Nat → Int} (h : Nums .u64 w v n f) (hk : KeepQ IsLimb w w') : Nums .u64 w' v n f := by
 obtain ⟨ao,c,h1,h2,h3,h4⟩ := h
 exact ⟨ao,c,h1,h2,h3,fun hn => let ⟨b,off,e,hc⟩ := h4 hn; ⟨b,off,e,fun i hi => hk _ _ _ ⟨_,.inl rfl⟩ (hc i hi)⟩⟩
theorem Rep.keepL {w w' : World} {v : Value} {m : Nat} (h : Rep w v m) (hk : KeepQ IsLimb w w') : Rep w' v m := Nums.keepL h hk
theorem RepI.keepL {w w' : World} {v : Value} {z : Int} (h : RepI w v z) (hk : KeepQ IsLimb w w') : RepI w' v z := by
 obtain ⟨ao,c,h1,h2⟩ := h
 exact ⟨ao,c,h1,Nums.keepL h2 hk⟩
theorem IntAt.keepL {w w' : World} {v : Value} {z : Int} {L : Nat} (h : IntAt w v z L) (hk : KeepQ IsLimb w w') : IntAt w' v z L := by
 obtain ⟨neg,ao,n,c,f,h1,h2,h3⟩ := h
 exact ⟨neg,ao,n,c,f,h1,h2.keepL hk,h3⟩
theorem NatAt.keepL {w w' : World} {v : Value} {x L : Nat} (h : NatAt w v x L) (hk : KeepQ IsLimb w w') : NatAt w' v x L := by
 obtain ⟨n,f,h1,h2⟩ := h; exact ⟨n,f,h1.keepL hk,h2⟩
theorem RatAt.keepL {w w' : World} {v : Value} {q : Rat} {L : Nat} (h : RatAt w v q L) (hk : KeepQ IsLimb w w') : RatAt w' v q L := by
 obtain ⟨p,ao,n,c,bo,m,d,z,x,h1,h2,h3,h4⟩ := h
 exact ⟨p,ao,n,c,bo,m,d,z,x,h1,h2.keepL hk,h3.keepL hk,h4⟩
theorem RepQ.keepL {w w' : World} {v : Value} {q : Rat} (h : RepQ w v q) (hk : KeepQ IsLimb w w') : RepQ w' v q := by
 obtain ⟨p,ao,n,c,bo,m,d,h1,h2,h3⟩ := h
 exact ⟨p,ao,n,c,bo,m,d,h1,h2.keepL hk,h3.keepL hk⟩
theorem Tab.keepL {w w' : World} (h : Tab w) (hk : KeepQ IsLimb w w') : Tab w' := fun i hi => hk _ _ _ ⟨_,.inr rfl⟩ (h i hi)
theorem keepL_set {w : World} {a : Addr} {old : Value} (h : w.cell? a = some old) (hn : ¬ IsLimb old) (x : Value) : KeepQ IsLimb w (w.setCell a x) := by
 intro b o v hv hc
 rw [World.cell?_setCell_other _ _ _ _ (fun e => by rw [← e,h] at hc; cases hc; exact hn hv)]
 exact hc
/-- Two small numbers in a variable. -/
theorem V2.keepF {w : World} {R : Nat} {a b : Int} (h : V2 w R (.int .i64 a) (.int .i64 b)) (x' y' : Value) : KeepQ IsLimb w ((w.setCell ⟨R,0,none⟩ x').setCell ⟨R,1,none⟩ y') := by
 refine (keepL_set h.1 (limb_int a) x').trans (keepL_set (old := .int .i64 b) ?_ (limb_int b) y')
 rw [World.cell?_setCell_other _ _ _ _ (fun e => by injection e; omega)]; exact h.2.1

end Go.Proofs.YtjfacmeeplalkaaGreatDoor

/-
 What ratio's about and Near answer.
-/
namespace Go.Proofs.YtjfacmeeplalkaaGreatDoor
open Go.RowKit
set_option linter.unusedVariables false
set_option linter.unusedSimpArgs false


set_option maxRecDepth 20000 in
set_option maxHeartbeats 1000000 in
theorem number_at (a b : Int) (w : World) (h0 : -9223372036854775808 ≤ a) (h1 : a ≤ 9223372036854775807) (h2 : -9223372036854775808 ≤ b) (h3 : b ≤ 9223372036854775807) (ht : Tab w) :
  Calls Tryz.prog 107 #[.agg #[.int .i64 a,.int .i64 b]] w fun e w' => ∃ r,e = .returned r ∧ RepQ w' r ((a : Rat) / (b : Rat)) ∧ Below w.heap.size w w' := by
 have BB : Below w.heap.size w w := Below.refl _ _
 obtain ⟨Wb0,hW0,hS0,hL0,VA⟩ := V2.lay w 117 (.int .i64 a) (.int .i64 b)
 replace ht := ht.below hL0
 replace BB := BB.trans (hL0.mono BB.size)
 clear hL0
 obtain ⟨Wb1,hW1,hS1,hL1,VR⟩ := V3.lay Wb0 27 (.bool false) (.slice none 0 0) (.slice none 0 0)
 rw [hS0] at VR hS1
 replace ht := ht.below hL1
 replace VA := VA.below hL1
 replace BB := BB.trans (hL1.mono BB.size)
 clear hL1
 go_enter Tryz.func107,Tryz.ntmps107
 go_wp2_with fail
 rw [← hW0]
 rw [← hW1]
 clear hW0 hW1 hS0 hS1
 refine (qfrac_at _ _ _ h0 h1 h2 h3 ht).mono ?_
 rintro e w1 ⟨rr,rfl,hr,b1⟩
 replace ht := ht.below b1
 replace VA := VA.below b1
 replace VR := VR.below b1
 replace BB := BB.trans (b1.mono BB.size)
 clear b1
 obtain ⟨pr,ar,nr,cr,br,mr,dr,rfl⟩ := hr.open
 have hKp := VR.keepJ (.bool pr) (.slice ar nr cr) (.slice br mr dr)
 have ht_n := ht.keep hKp
 have hr_n := hr.keep hKp
 have BB_n := below_store3 (R := w.heap.size + 1) BB (by omega) (.bool pr) (.slice ar nr cr) (.slice br mr dr)
 clear hKp
 obtain ⟨q1,q2,q3,q4,q5,q6⟩ := id VR
 go_wp2
 (try simp only [Exit.inBlock,Exit.then])
 refine bodyPost_ret (v := .agg #[.bool pr,.slice ar nr cr,.slice br mr dr]) (by simp [results,go_sem,q1,q2,q3]) rfl ?_
 exact ⟨_,rfl,hr_n,BB_n⟩


/-- Both sides of a number, of so small divisors. -/
def aboutN (a : Rat) (most : Nat) : Nat → Nat → Nat → Nat → Nat → Nat × Nat × Nat × Nat
 | 0,ln,ld,hn,hd => (ln,ld,hn,hd)
 | k + 1,ln,ld,hn,hd =>
  if ld + hd ≤ most then (if ((ln + hn : Nat) : Rat) / ((ld + hd : Nat) : Rat) ≤ a then aboutN a most k (ln + hn) (ld + hd) hn hd else aboutN a most k ln ld (ln + hn) (ld + hd)) else (ln,ld,hn,hd)
theorem about_step (a : Rat) (most k ln ld hn hd : Nat) : aboutN a most (k + 1) ln ld hn hd = if ld + hd ≤ most then (if ((ln + hn : Nat) : Rat) / ((ld + hd : Nat) : Rat) ≤ a then aboutN a most k (ln + hn) (ld + hd) hn hd else aboutN a most k ln ld (ln + hn) (ld + hd)) else (ln,ld,hn,hd) := rfl
theorem cmpQ_le (a b : Rat) : decide (cmpQ a b ≤ 0) = decide (a ≤ b) := by
 unfold cmpQ
 by_cases h1 : a < b
 ·rw [if_pos h1,decide_eq_true (Rat.le_of_lt h1)]; rfl
 ·rw [if_neg h1]
  by_cases h2 : b < a
  ·rw [if_pos h2,decide_eq_false (Rat.not_le.2 h2)]; rfl
  ·rw [if_neg h2,decide_eq_true (Rat.not_lt.1 h2)]; rfl
theorem qsz_frac (a b : Int) (h0 : a.natAbs < 4294967296) (h1 : b.natAbs < 4294967296) : qsz ((a : Rat) / (b : Rat)) ≤ 2 :=
 qsz_div (a : Rat) (b : Rat) (L := 1) (M := 1) (qsz_int a (nl_small7 _ h0) (by omega)) (qsz_int b (nl_small7 _ h1) (by omega))


set_option maxRecDepth 20000 in
set_option maxHeartbeats 8000000 in
theorem about_at (v : Value) (q : Rat) (L most : Nat) (w : World) (hv : RatAt w v q L) (ht : Tab w) (hL : 2 ≤ L) (hM : L ≤ 100000) (hm : most ≤ 4096) (A C D E : Nat) (hN : aboutN q most (most + 1) 0 1 1 1 = (A,C,D,E)) :
  Calls Tryz.prog 106 #[v,.int .i64 (most : Int)] w fun e w' => e = .returned (.tuple #[.agg #[.int .i64 (A : Int),.int .i64 (C : Int)],.agg #[.int .i64 (D : Int),.int .i64 (E : Int)]]) ∧ Below w.heap.size w w' := by
 obtain ⟨p,ao,n,c,bo,m,d,rfl⟩ := hv.open
 have HN : Hid (aboutN q most (most + 1) 0 1 1 1 = (A,C,D,E)) := hN
 clear hN
 have BB : Below w.heap.size w w := Below.refl _ _
 obtain ⟨Wb0,hW0,hS0,hL0,VA⟩ := V3.lay w 27 (.bool p) (.slice ao n c) (.slice bo m d)
 replace hv := hv.below hL0
 replace ht := ht.below hL0
 replace BB := BB.trans (hL0.mono BB.size)
 clear hL0
 obtain ⟨Wb1,hW1,hS1,hL1,V4⟩ := V2.lay Wb0 117 (.int .i64 0) (.int .i64 0)
 rw [hS0] at V4 hS1
 replace hv := hv.below hL1
 replace ht := ht.below hL1
 replace VA := VA.below hL1
 replace BB := BB.trans (hL1.mono BB.size)
 clear hL1
 obtain ⟨Wb2,hW2,hS2,hL2,V5⟩ := V2.lay Wb1 117 (.int .i64 0) (.int .i64 0)
 rw [hS1] at V5 hS2
 replace hv := hv.below hL2
 replace ht := ht.below hL2
 replace VA := VA.below hL2
 replace V4 := V4.below hL2
 replace BB := BB.trans (hL2.mono BB.size)
 clear hL2
 obtain ⟨Wb3,hW3,hS3,hL3,V6⟩ := V2.lay Wb2 117 (.int .i64 0) (.int .i64 1)
 rw [hS2] at V6 hS3
 replace hv := hv.below hL3
 replace ht := ht.below hL3
 replace VA := VA.below hL3
 replace V4 := V4.below hL3
 replace V5 := V5.below hL3
 replace BB := BB.trans (hL3.mono BB.size)
 clear hL3
 obtain ⟨Wb4,hW4,hS4,hL4,V7⟩ := V2.lay Wb3 117 (.int .i64 1) (.int .i64 1)
 rw [hS3] at V7 hS4
 replace hv := hv.below hL4
 replace ht := ht.below hL4
 replace VA := VA.below hL4
 replace V4 := V4.below hL4
 replace V5 := V5.below hL4
 replace V6 := V6.below hL4
 replace BB := BB.trans (hL4.mono BB.size)
 clear hL4
 go_enter Tryz.func106,Tryz.ntmps106
 go_wp2
 rw [← hW0]
 rw [← hW1]
 rw [← hW2]
 rw [← hW3]
 rw [← hW4]
 clear hW0 hW1 hW2 hW3 hW4 hS0 hS1 hS2 hS3 hS4
 go_loopg [] (most + 1) (fun k wr => ∃ ln ld hn hd : Nat,V2 wr (w.heap.size + 1 + 1 + 1) (.int .i64 (ln : Int)) (.int .i64 (ld : Int)) ∧ V2 wr (w.heap.size + 1 + 1 + 1 + 1) (.int .i64 (hn : Int)) (.int .i64 (hd : Int)) ∧ V3 wr w.heap.size (.bool p) (.slice ao n c) (.slice bo m d) ∧ V2 wr (w.heap.size + 1) (.int .i64 0) (.int .i64 0) ∧ V2 wr (w.heap.size + 1 + 1) (.int .i64 0) (.int .i64 0) ∧ RatAt wr (.agg #[.bool p,.slice ao n c,.slice bo m d]) q L ∧ Tab wr ∧ 0 < ld ∧ 0 < hd ∧ ln ≤ ld ∧ hn ≤ hd ∧ ld ≤ 4096 ∧ hd ≤ 4096 ∧ most + 3 ≤ k + ld + hd ∧ 0 < k ∧ Hid (aboutN q most k ln ld hn hd = (A,C,D,E)) ∧ Below w.heap.size w wr)
 case atStart => exact ⟨0,1,1,1,V6,V7,VA,V4,V5,hv,ht,by omega,by omega,by omega,by omega,by omega,by omega,by omega,by omega,HN,BB⟩
 case round =>
  clear V6 V7 VA V4 V5 hv ht HN BB
  obtain ⟨ln,ld,hn,hd,V6,V7,VA,V4,V5,hv,ht,p1,p2,p3,p4,p5,p6,p7,p8,HN,BB⟩ := hrel
  obtain ⟨k,hk⟩ : ∃ k,gk = k + 1 := ⟨gk - 1,by omega⟩
  rw [hk] at HN p7
  have HK : Hid (gk = k + 1) := hk
  clear hk p8
  rw [about_step] at HN
  by_cases hgo : ld + hd ≤ most
  ·rw [if_pos hgo] at HN
   have j1 : (ld : Int) + (hd : Int) ≤ (most : Int) := by omega
   obtain ⟨v61,v62,_,_⟩ := id V6
   obtain ⟨v71,v72,_,_⟩ := id V7
   have hZ11 : w.heap.size ≤ wr.heap.size := BB.size
   have hN11 : w.heap.size + 1 + 1 + 1 + 1 < wr.heap.size := V7.lt
   obtain ⟨W11,hW11,hS11,hL11,V8⟩ := V2.lay wr 117 (.int .i64 ((ln : Int) + (hn : Int))) (.int .i64 ((ld : Int) + (hd : Int)))
   replace hv := hv.below hL11
   replace ht := ht.below hL11
   replace V6 := V6.below hL11
   replace V7 := V7.below hL11
   replace VA := VA.below hL11
   replace V4 := V4.below hL11
   replace V5 := V5.below hL11
   replace BB := BB.trans (hL11.mono BB.size)
   clear hL11
   go_wp2
   rw [← hW11]
   clear v61 v62 v71 v72
   generalize wr.heap.size = R11 at *
   clear hW11 hS11
   have HE : Hid ((((ln : Int) + (hn : Int) : Int) : Rat) / (((ld : Int) + (hd : Int) : Int) : Rat) = ((ln + hn : Nat) : Rat) / ((ld + hd : Nat) : Rat)) := by
    show _ = _
    rw [← Int.natCast_add,← Int.natCast_add,Rat.intCast_natCast,Rat.intCast_natCast]
   have hq2 := qsz_frac ((ln : Int) + (hn : Int)) ((ld : Int) + (hd : Int)) (by omega) (by omega)
   rw [HE.out] at hq2
   generalize hQ : ((ln + hn : Nat) : Rat) / ((ld + hd : Nat) : Rat) = Q at *
   skip
   have hDr : Below W11.heap.size W11 W11.drew := (Below.refl _ _).drew
   replace hv := hv.below hDr
   replace ht := ht.below hDr
   replace V6 := V6.below hDr
   replace V7 := V7.below hDr
   replace VA := VA.below hDr
   replace V4 := V4.below hDr
   replace V5 := V5.below hDr
   replace V8 := V8.below hDr
   replace BB := BB.trans (hDr.mono BB.size)
   clear hDr
   refine wp_region_held_drew (S := (fun w' => w'.cell? ⟨R11,0,none⟩ = some (.int .i64 ((ln : Int) + (hn : Int))) ∧ w'.cell? ⟨R11,1,none⟩ = some (.int .i64 ((ld : Int) + (hd : Int))) ∧ w'.cell? ⟨w.heap.size,0,none⟩ = some (.bool p) ∧ w'.cell? ⟨w.heap.size,1,none⟩ = some (.slice ao n c) ∧ w'.cell? ⟨w.heap.size,2,none⟩ = some (.slice bo m d))) (by kernel_rfl) ?_ (fun hHeld => ?_)
   ·exact ⟨V8.1,V8.2.1,VA.1,VA.2.1,VA.2.2.1⟩
   generalize W11.drew = W12 at *
   refine wpAnyH_take (i := 0) (v := ?_) (by simp only [xL1,xL2,xL3]; rfl) (by kernel_rfl) (by kernel_rfl) (by kernel_rfl) (by exact fun _ _ _ h => h) (Or.inl ⟨by rfl,?_⟩) (by assumption) ?_
   rotate_left
   ·(intro w hSw; (try dsimp only at hSw); go_simp; (try with_reducible rfl))
   (try simp only [Act.put,xL4,xL5,xL6])
   refine wpAnyH_take (i := 2) (v := ?_) (by simp only [xL1,xL2,xL3]; rfl) (by kernel_rfl) (by kernel_rfl) (by kernel_rfl) (by exact fun _ _ _ h => h) (Or.inl ⟨by rfl,?_⟩) (by assumption) ?_
   rotate_left
   ·(intro w hSw; (try dsimp only at hSw); go_simp; (try with_reducible rfl))
   (try simp only [Act.put,xL4,xL5,xL6])
   refine wpAnyH_ready (rs := [1]) (by kernel_rfl) (by simp) ?_
   refine AllReadyH.cons (by simp only [xL1,xL2,xL3]; rfl) (fun K hK => ?_) AllReadyH.nil
   go_simp
   refine (number_at _ _ _ (by omega) (by omega) (by omega) (by omega) ht).mono ?_
   rintro e w1 ⟨nv,rfl,hnv,b1⟩
   rw [HE.out] at hnv
   go_wp2_with fail
   replace hv := hv.below b1
   replace ht := ht.below b1
   replace V6 := V6.below b1
   replace V7 := V7.below b1
   replace VA := VA.below b1
   replace V4 := V4.below b1
   replace V5 := V5.below b1
   replace V8 := V8.below b1
   replace BB := BB.trans (b1.mono BB.size)
   clear b1
   refine hK.out _ _ ?_ (fun hH1 => ?_)
   ·exact ⟨V8.1,V8.2.1,VA.1,VA.2.1,VA.2.2.1⟩
   clear hK K hHeld
   (try simp only [Act.put,xL4,xL5,xL6])
   refine wpAnyH_ready (rs := [3]) (by kernel_rfl) (by simp) ?_
   refine AllReadyH.cons (by simp only [xL1,xL2,xL3]; rfl) (fun K hK => ?_) AllReadyH.nil
   go_simp
   refine (qcmp_at _ _ Q q L _ (hnv.at L (by omega)) hv (by omega) (by omega)).mono ?_
   rintro e w2 ⟨rfl,b2⟩
   go_wp2_with fail
   replace hv := hv.below b2
   replace ht := ht.below b2
   replace hnv := hnv.below b2
   replace V6 := V6.below b2
   replace V7 := V7.below b2
   replace VA := VA.below b2
   replace V4 := V4.below b2
   replace V5 := V5.below b2
   replace V8 := V8.below b2
   replace BB := BB.trans (b2.mono BB.size)
   clear b2
   refine hK.out _ _ ?_ (fun hH2 => ?_)
   ·exact ⟨V8.1,V8.2.1,VA.1,VA.2.1,VA.2.2.1⟩
   clear hK K hH1
   (try simp only [Act.put,xL4,xL5,xL6])
   refine wpAnyH_take (i := 4) (v := ?_) (by simp only [xL1,xL2,xL3]; rfl) (by kernel_rfl) (by kernel_rfl) (by kernel_rfl) (by exact fun _ _ _ h => h) (Or.inl ⟨by rfl,?_⟩) (by assumption) ?_
   rotate_left
   ·(intro w hSw; (try dsimp only at hSw); go_simp; (try with_reducible rfl))
   (try simp only [Act.put,xL4,xL5,xL6])
   refine wpAnyH_done (by kernel_rfl) ?_ _
   clear hH2
   have hle := cmpQ_le Q q
   generalize cmpQ Q q = cc at *
   by_cases hd2 : Q ≤ q
   ·rw [decide_eq_true hd2] at hle
    have hcc : cc ≤ 0 := of_decide_eq_true hle
    rw [if_pos hd2] at HN
    clear hle
    obtain ⟨v81,v82,_,_⟩ := id V8
    have hKp := V6.keepF (.int .i64 ((ln : Int) + (hn : Int))) (.int .i64 ((ld : Int) + (hd : Int)))
    have V7_n := V7.other (R := w.heap.size + 1 + 1 + 1) (by omega) (.int .i64 ((ln : Int) + (hn : Int))) (.int .i64 ((ld : Int) + (hd : Int)))
    have VA_n := VA.other2 (R := w.heap.size + 1 + 1 + 1) (by omega) (.int .i64 ((ln : Int) + (hn : Int))) (.int .i64 ((ld : Int) + (hd : Int)))
    have V4_n := V4.other (R := w.heap.size + 1 + 1 + 1) (by omega) (.int .i64 ((ln : Int) + (hn : Int))) (.int .i64 ((ld : Int) + (hd : Int)))
    have V5_n := V5.other (R := w.heap.size + 1 + 1 + 1) (by omega) (.int .i64 ((ln : Int) + (hn : Int))) (.int .i64 ((ld : Int) + (hd : Int)))
    have V8_n := V8.other (R := w.heap.size + 1 + 1 + 1) (by omega) (.int .i64 ((ln : Int) + (hn : Int))) (.int .i64 ((ld : Int) + (hd : Int)))
    have V6_n := V6.same (.int .i64 ((ln : Int) + (hn : Int))) (.int .i64 ((ld : Int) + (hd : Int)))
    have hv_n := hv.keepL hKp
    have ht_n := ht.keepL hKp
    have hnv_n := hnv.keepL hKp
    have BB_n := below_store2 (R := w.heap.size + 1 + 1 + 1) BB (by omega) (.int .i64 ((ln : Int) + (hn : Int))) (.int .i64 ((ld : Int) + (hd : Int)))
    clear hKp
    obtain ⟨V6_0,V6_1,V6_2,V6_3⟩ := id V6
    go_wp2
    clear V6_0 V6_1 V6_2 V6_3
    clear BB hv ht hnv V6 V7 VA V4 V5 V8
    generalize (w2.setCell ⟨w.heap.size + 1 + 1 + 1,0,none⟩ (.int .i64 ((ln : Int) + (hn : Int)))).setCell ⟨w.heap.size + 1 + 1 + 1,1,none⟩ (.int .i64 ((ld : Int) + (hd : Int))) = W13 at *
    have BB := BB_n
    have hv := hv_n
    have ht := ht_n
    have hnv := hnv_n
    have V6 := V6_n
    have V7 := V7_n
    have VA := VA_n
    have V4 := V4_n
    have V5 := V5_n
    have V8 := V8_n
    clear BB_n hv_n ht_n hnv_n V6_n V7_n VA_n V4_n V5_n V8_n
    go_roundg k
    case measure => have := HK.out; omega
    case rel => exact ⟨ln + hn,ld + hd,hn,hd,(by rw [Int.natCast_add,Int.natCast_add]; exact V6),V7,VA,V4,V5,hv,ht,by omega,by omega,by omega,by omega,by omega,by omega,by omega,by omega,HN,BB⟩
   ·rw [decide_eq_false hd2] at hle
    have hcc : ¬ cc ≤ 0 := of_decide_eq_false hle
    rw [if_neg hd2] at HN
    clear hle
    obtain ⟨v81,v82,_,_⟩ := id V8
    have hKp := V7.keepF (.int .i64 ((ln : Int) + (hn : Int))) (.int .i64 ((ld : Int) + (hd : Int)))
    have V6_n := V6.other (R := w.heap.size + 1 + 1 + 1 + 1) (by omega) (.int .i64 ((ln : Int) + (hn : Int))) (.int .i64 ((ld : Int) + (hd : Int)))
    have VA_n := VA.other2 (R := w.heap.size + 1 + 1 + 1 + 1) (by omega) (.int .i64 ((ln : Int) + (hn : Int))) (.int .i64 ((ld : Int) + (hd : Int)))
    have V4_n := V4.other (R := w.heap.size + 1 + 1 + 1 + 1) (by omega) (.int .i64 ((ln : Int) + (hn : Int))) (.int .i64 ((ld : Int) + (hd : Int)))
    have V5_n := V5.other (R := w.heap.size + 1 + 1 + 1 + 1) (by omega) (.int .i64 ((ln : Int) + (hn : Int))) (.int .i64 ((ld : Int) + (hd : Int)))
    have V8_n := V8.other (R := w.heap.size + 1 + 1 + 1 + 1) (by omega) (.int .i64 ((ln : Int) + (hn : Int))) (.int .i64 ((ld : Int) + (hd : Int)))
    have V7_n := V7.same (.int .i64 ((ln : Int) + (hn : Int))) (.int .i64 ((ld : Int) + (hd : Int)))
    have hv_n := hv.keepL hKp
    have ht_n := ht.keepL hKp
    have hnv_n := hnv.keepL hKp
    have BB_n := below_store2 (R := w.heap.size + 1 + 1 + 1 + 1) BB (by omega) (.int .i64 ((ln : Int) + (hn : Int))) (.int .i64 ((ld : Int) + (hd : Int)))
    clear hKp
    obtain ⟨V7_0,V7_1,V7_2,V7_3⟩ := id V7
    go_wp2
    clear V7_0 V7_1 V7_2 V7_3
    clear BB hv ht hnv V6 V7 VA V4 V5 V8
    generalize (w2.setCell ⟨w.heap.size + 1 + 1 + 1 + 1,0,none⟩ (.int .i64 ((ln : Int) + (hn : Int)))).setCell ⟨w.heap.size + 1 + 1 + 1 + 1,1,none⟩ (.int .i64 ((ld : Int) + (hd : Int))) = W13 at *
    have BB := BB_n
    have hv := hv_n
    have ht := ht_n
    have hnv := hnv_n
    have V6 := V6_n
    have V7 := V7_n
    have VA := VA_n
    have V4 := V4_n
    have V5 := V5_n
    have V8 := V8_n
    clear BB_n hv_n ht_n hnv_n V6_n V7_n VA_n V4_n V5_n V8_n
    go_roundg k
    case measure => have := HK.out; omega
    case rel => exact ⟨ln,ld,ln + hn,ld + hd,V6,(by rw [Int.natCast_add,Int.natCast_add]; exact V7),VA,V4,V5,hv,ht,by omega,by omega,by omega,by omega,by omega,by omega,by omega,by omega,HN,BB⟩
  ·rw [if_neg hgo] at HN
   have j1 : ¬ (ld : Int) + (hd : Int) ≤ (most : Int) := by omega
   have hA := HN.out
   simp only [Prod.mk.injEq] at hA
   obtain ⟨rfl,rfl,rfl,rfl⟩ := hA
   obtain ⟨V6_0,V6_1,V6_2,V6_3⟩ := id V6
   obtain ⟨V7_0,V7_1,V7_2,V7_3⟩ := id V7
   go_wp2
   clear V6_0 V6_1 V6_2 V6_3 V7_0 V7_1 V7_2 V7_3
   have hDr : Below wr.heap.size wr wr.drew := (Below.refl _ _).drew
   replace hv := hv.below hDr
   replace ht := ht.below hDr
   replace V6 := V6.below hDr
   replace V7 := V7.below hDr
   replace VA := VA.below hDr
   replace V4 := V4.below hDr
   replace V5 := V5.below hDr
   replace BB := BB.trans (hDr.mono BB.size)
   clear hDr
   refine wp_region_held_drew (S := (fun w' => w'.cell? ⟨w.heap.size + 1 + 1 + 1,0,none⟩ = some (.int .i64 (ln : Int)) ∧ w'.cell? ⟨w.heap.size + 1 + 1 + 1,1,none⟩ = some (.int .i64 (ld : Int)) ∧ w'.cell? ⟨w.heap.size + 1 + 1 + 1 + 1,0,none⟩ = some (.int .i64 (hn : Int)) ∧ w'.cell? ⟨w.heap.size + 1 + 1 + 1 + 1,1,none⟩ = some (.int .i64 (hd : Int)))) (by kernel_rfl) ?_ (fun hHeld => ?_)
   ·exact ⟨V6.1,V6.2.1,V7.1,V7.2.1⟩
   generalize wr.drew = W1 at *
   refine wpAnyH_take (i := 0) (v := ?_) (by simp only [xL1,xL2,xL3]; rfl) (by kernel_rfl) (by kernel_rfl) (by kernel_rfl) (by exact fun _ _ _ h => h) (Or.inl ⟨by rfl,?_⟩) (by assumption) ?_
   rotate_left
   ·(intro w hSw; (try dsimp only at hSw); go_simp; (try with_reducible rfl))
   (try simp only [Act.put,xL4,xL5,xL6])
   refine wpAnyH_take (i := 1) (v := ?_) (by simp only [xL1,xL2,xL3]; rfl) (by kernel_rfl) (by kernel_rfl) (by kernel_rfl) (by exact fun _ _ _ h => h) (Or.inl ⟨by rfl,?_⟩) (by assumption) ?_
   rotate_left
   ·(intro w hSw; (try dsimp only at hSw); go_simp; (try with_reducible rfl))
   (try simp only [Act.put,xL4,xL5,xL6])
   refine wpAnyH_ready (rs := [2]) (by kernel_rfl) (by simp) ?_
   refine AllReadyH.cons (by simp only [xL1,xL2,xL3]; rfl) (fun K hK => ?_) AllReadyH.nil
   have hKp := V4.keepF (.int .i64 (ln : Int)) (.int .i64 (ld : Int))
   have V6_n := V6.other (R := w.heap.size + 1) (by omega) (.int .i64 (ln : Int)) (.int .i64 (ld : Int))
   have V7_n := V7.other (R := w.heap.size + 1) (by omega) (.int .i64 (ln : Int)) (.int .i64 (ld : Int))
   have VA_n := VA.other2 (R := w.heap.size + 1) (by omega) (.int .i64 (ln : Int)) (.int .i64 (ld : Int))
   have V5_n := V5.other (R := w.heap.size + 1) (by omega) (.int .i64 (ln : Int)) (.int .i64 (ld : Int))
   have V4_n := V4.same (.int .i64 (ln : Int)) (.int .i64 (ld : Int))
   have hv_n := hv.keepL hKp
   have ht_n := ht.keepL hKp
   have BB_n := below_store2 (R := w.heap.size + 1) BB (by omega) (.int .i64 (ln : Int)) (.int .i64 (ld : Int))
   clear hKp
   obtain ⟨V4_0,V4_1,V4_2,V4_3⟩ := id V4
   go_simp
   clear V4_0 V4_1 V4_2 V4_3
   clear BB hv ht V6 V7 VA V4 V5
   generalize (W1.setCell ⟨w.heap.size + 1,0,none⟩ (.int .i64 (ln : Int))).setCell ⟨w.heap.size + 1,1,none⟩ (.int .i64 (ld : Int)) = W2 at *
   have BB := BB_n
   have hv := hv_n
   have ht := ht_n
   have V6 := V6_n
   have V7 := V7_n
   have VA := VA_n
   have V4 := V4_n
   have V5 := V5_n
   clear BB_n hv_n ht_n V6_n V7_n VA_n V4_n V5_n
   refine hK.out _ _ ?_ (fun hH1 => ?_)
   ·exact ⟨V6.1,V6.2.1,V7.1,V7.2.1⟩
   clear hK K hHeld
   (try simp only [Act.put,xL4,xL5,xL6])
   refine wpAnyH_ready (rs := [3]) (by kernel_rfl) (by simp) ?_
   refine AllReadyH.cons (by simp only [xL1,xL2,xL3]; rfl) (fun K hK => ?_) AllReadyH.nil
   have hKp := V5.keepF (.int .i64 (hn : Int)) (.int .i64 (hd : Int))
   have V6_n := V6.other (R := w.heap.size + 1 + 1) (by omega) (.int .i64 (hn : Int)) (.int .i64 (hd : Int))
   have V7_n := V7.other (R := w.heap.size + 1 + 1) (by omega) (.int .i64 (hn : Int)) (.int .i64 (hd : Int))
   have VA_n := VA.other2 (R := w.heap.size + 1 + 1) (by omega) (.int .i64 (hn : Int)) (.int .i64 (hd : Int))
   have V4_n := V4.other (R := w.heap.size + 1 + 1) (by omega) (.int .i64 (hn : Int)) (.int .i64 (hd : Int))
   have V5_n := V5.same (.int .i64 (hn : Int)) (.int .i64 (hd : Int))
   have hv_n := hv.keepL hKp
   have ht_n := ht.keepL hKp
   have BB_n := below_store2 (R := w.heap.size + 1 + 1) BB (by omega) (.int .i64 (hn : Int)) (.int .i64 (hd : Int))
   clear hKp
   obtain ⟨V5_0,V5_1,V5_2,V5_3⟩ := id V5
   go_simp
   clear V5_0 V5_1 V5_2 V5_3
   clear BB hv ht V6 V7 VA V4 V5
   generalize (W2.setCell ⟨w.heap.size + 1 + 1,0,none⟩ (.int .i64 (hn : Int))).setCell ⟨w.heap.size + 1 + 1,1,none⟩ (.int .i64 (hd : Int)) = W3 at *
   have BB := BB_n
   have hv := hv_n
   have ht := ht_n
   have V6 := V6_n
   have V7 := V7_n
   have VA := VA_n
   have V4 := V4_n
   have V5 := V5_n
   clear BB_n hv_n ht_n V6_n V7_n VA_n V4_n V5_n
   refine hK.out _ _ ?_ (fun hH2 => ?_)
   ·exact ⟨V6.1,V6.2.1,V7.1,V7.2.1⟩
   clear hK K hH1
   (try simp only [Act.put,xL4,xL5,xL6])
   refine wpAnyH_done (by kernel_rfl) ?_ _
   clear hH2
   obtain ⟨q1,q2,_,_⟩ := id V4
   obtain ⟨q3,q4,_,_⟩ := id V5
   go_wp2
   (try simp only [Exit.inBlock,Exit.then])
   refine bodyPost_ret (v := .tuple #[.agg #[.int .i64 (ln : Int),.int .i64 (ld : Int)],.agg #[.int .i64 (hn : Int),.int .i64 (hd : Int)]]) (by simp [results,go_sem,q1,q2,q3,q4]) rfl ?_
   exact ⟨rfl,BB⟩

end Go.Proofs.YtjfacmeeplalkaaGreatDoor
