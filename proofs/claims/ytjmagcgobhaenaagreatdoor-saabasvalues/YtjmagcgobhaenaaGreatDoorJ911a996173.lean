/-
  Texts of mine, joined: what lies beneath the statement.
-/
import Derived.Test.YtjmagcgobhaenaaGreatDoorJc66f179fb5
import Derived.Test.YtjmagcgobhaenaaGreatDoorJ30a23583d2
import Derived.Deep.RegionHeld3
namespace Go.Proofs.YtjmagcgobhaenaaGreatDoor
open Go.RowKit
set_option linter.unusedVariables false
set_option linter.unusedSimpArgs false
set_option maxRecDepth 20000 in
set_option maxHeartbeats 2000000 in
theorem from_anyB (v : Value) (n : Nat) (f : Nat → Int) (w : World) (hv : Nums .u64 w v n f) (hf : U64 n f) (hn : n ≤ 10000) :
  Calls Tryz.prog 97 #[v] w fun e w' => ∃ r,e = .returned r ∧ RepD w' r (num f n) ∧ Below w.heap.size w w' := by
 obtain ⟨ao,c,rfl,hnc,hl,h4⟩ := hv
 go_enter Tryz.func97,Tryz.ntmps97
 go_wp2_with fail
 refine (small_any 4294967296 _ (by omega)).mono ?_
 rintro e w1 ⟨un,rfl,hun,hb1⟩
 have H4 := show Hid (0 < n → ∃ b off,ao = some ⟨b,off,none⟩ ∧ Cells w .u64 b off n f) from h4
 clear h4
 go_wp2
 go_loopw [3,5] (fun vo vi wr => ∃ k : Nat,k ≤ n ∧ vi = .int .i64 ((k : Int) - 1) ∧ RepD wr vo (hiNum f n k) ∧ RepD wr un 4294967296 ∧ Below w.heap.size w wr) (fun _ vi _ => (intOf vi + 1).toNat)
 case atStart => exact ⟨n,Nat.le_refl _,rfl,by rw [hiNum_end]; unfold RepD; rw [nl_zero]; exact Nums.nil _ _ _,hun,hb1⟩
 case round =>
  obtain ⟨k,hk,rfl,hvo,hun2,hbel⟩ := hrel
  cases k with
  | zero =>
   rw [hiNum_all] at hvo
   go_wp2
   go_ret
   exact ⟨_,rfl,hvo,hbel⟩
  | succ k =>
   obtain ⟨b,off,rfl,hc⟩ := H4.out (by omega)
   have hcell : wr.cell? ⟨b,off + k,none⟩ = some (.int .u64 (f k)) := (hc.below hbel (hc.lt (by omega))) k (by omega)
   have hblt : b < wr.heap.size := Nat.lt_of_lt_of_le (hc.lt (by omega)) hbel.size
   have hfk := hf k (by omega)
   have hm := and_mask (f k) hfk.1 hfk.2
   have hst : Hid (hiNum f n k = hiNum f n (k + 1) * 4294967296 + (f k % 4294967296).toNat) := hiNum_step f n k (by omega)
   have hb1 : nl 10000 (hiNum f n (k + 1)) ≤ 1000000 := Nat.le_trans (nl_small _ _ (hiNum_lt f n (k + 1))) (by omega)
   have hb2 : nl 10000 (hiNum f n (k + 1) * 4294967296) ≤ 1000000 := by
    have h1 := hiNum_lt f n (k + 1)
    have h2 : hiNum f n (k + 1) * 4294967296 < W32 ^ (n - (k + 1) + 1) := by rw [Nat.pow_succ]; exact Nat.mul_lt_mul_of_pos_right h1 (by decide)
    exact Nat.le_trans (nl_small _ _ h2) (by omega)
   have hb3 : nl 10000 4294967296 ≤ 1000000 := Nat.le_trans (nl_small 4294967296 2 (by decide)) (by omega)
   have hb4 : nl 10000 (f k % 4294967296).toNat ≤ 1000000 := Nat.le_trans (nl_small _ 1 (by unfold W32; omega)) (by omega)
   have hcast : f k % 4294967296 = ((f k % 4294967296).toNat : Int) := by omega
   have hlow : (f k % 4294967296).toNat < 4294967296 := by omega
   generalize hz : (f k % 4294967296).toNat = z at *
   rw [hcast] at hm
   clear hcast hz hfk
   generalize hiNum f n (k + 1) = X at *
   have e1 : (((k + 1 : Nat) : Int) - 1) = (k : Int) := by omega
   rw [e1]
   have hwz : Hid (IntKind.i64.wrap (z : Int) = (z : Int)) := by show _ = _; rw [IntKind.wrap_i64]; omega
   have i1 : (0 : Int) ≤ (k : Int) := by omega
   have i2 : (k : Int) < (n : Int) := by omega
   go_wp2
   go_region_held3 (fun w' => w'.cell? ⟨b,off + k,none⟩ = some (.int .u64 (f k))) (assumption) (first
    | (go_at_call 138; refine (times_any _ _ X 4294967296 _ (by exact hvo) (by exact hun2) hb1 hb3).mono ?_; rintro e w2 ⟨r2,rfl,hr2,hb2'⟩; have hc2 := (hb2'.cell (p := ⟨b,off + k,none⟩) hblt).trans hcell)
    | (go_at_call 133; rw [hwz.out]; refine (small_any z _ (by omega)).mono ?_; rintro e w3 ⟨r3,rfl,hr3,hb3'⟩; have hc3 := (hb3'.cell (p := ⟨b,off + k,none⟩) (Nat.lt_of_lt_of_le hblt hb2'.size)).trans hc2)
    | (go_at_call 137; refine (plus_any _ _ (X * 4294967296) z _ (hr2.below hb3') hr3 hb2 hb4).mono ?_; rintro e w4 ⟨r4,rfl,hr4,hb4'⟩; have hc4 := (hb4'.cell (p := ⟨b,off + k,none⟩) (Nat.lt_of_lt_of_le hblt (Nat.le_trans hb2'.size hb3'.size))).trans hc3))
   go_wp2
   go_roundw
   case rel =>
    have s2 : wr.heap.size ≤ w2.heap.size := hb2'.size
    have s3 := hb3'.size
    have hB4 : Below wr.heap.size wr w4 := Below.trans (b := w2) (below_of_drew hb2') ((hb3'.mono s2).trans (hb4'.mono (Nat.le_trans s2 s3)))
    refine ⟨k,by omega,rfl,by rw [hst.out]; exact hr4,hun2.below hB4,hbel.trans (hB4.mono hbel.size)⟩
   case measure => simp [intOf]
theorem nljB {x : Int} {a : Nat} (hx : nl W32 x.natAbs ≤ a) (ha : a ≤ 10000) : nl 10000 x.natAbs ≤ 1000000 := Nat.le_trans (nl10_le _ _ hx) (by omega)
set_option maxRecDepth 20000 in
set_option maxHeartbeats 1000000 in
theorem rfrom_anyB (v : Value) (z : Int) (L : Nat) (w : World) (h : IntAt w v z L) (hL : L ≤ 10000) :
  Calls Tryz.prog 99 #[v] w fun e w' => ∃ r,e = .returned r ∧ RepJ w' r z ∧ Below w.heap.size w w' := by
 obtain ⟨neg,ao,n,c,f,rfl,h,hf,rfl,hn⟩ := h
 have hA : ∀ o o',Below w.heap.size w ((w.alloc o).alloc o') := fun o o' => ((Below.refl _ _).alloc (Nat.le_refl _) _).alloc (by simp) _
 go_enter Tryz.func99,Tryz.ntmps99
 go_wp2
 go_region_held3 (fun w' => w'.cell? ⟨w.heap.size,0,none⟩ = some (.bool neg) ∧ w'.cell? ⟨w.heap.size,1,none⟩ = some (.slice ao n c)) (first | exact keep2 (by assumption) (by simp) (by assumption) | go_keep) (first
  | (go_at_call 97; refine (from_anyB _ _ _ _ (h.below (hA _ _).drew) hf (by omega)).mono ?_; rintro e w1 ⟨s,rfl,hs,hb1⟩; have hk1 := keepW hb1 (by simp) (res1 w _ _ _ _))
  | (go_at_call 140; refine (rmake_any _ _ _ _ hs).mono ?_; rintro e w2 ⟨r,rfl,hr,hb2⟩; obtain ⟨b2,ao2,n2,c2,rfl⟩ := hr.open; obtain ⟨q1,q2,q3,q4⟩ := keepW hb2 (Nat.le_refl _) hk1))
 go_wp2
 refine bodyPost_ret (v := .agg #[.bool b2,.slice ao2 n2 c2]) (by simp [results,go_sem,q1,q2]) rfl ?_
 have B1 := (hA _ _).drew.trans (hb1.mono (by simp; omega))
 have B2 := B1.trans (hb2.mono B1.size)
 exact ⟨_,rfl,hr.store2 q1 q2 _ _,below_store2 B2 (by omega) _ _⟩
theorem nfrom_atB (v : Value) (x L : Nat) (w : World) (hv : NatAt w v x L) (hL : L ≤ 10000) : Calls Tryz.prog 97 #[v] w fun e w' => ∃ r,e = .returned r ∧ RepD w' r x ∧ Below w.heap.size w w' := by
 obtain ⟨n,f,h1,h2,rfl,h4⟩ := hv
 exact from_anyB v n f w h1 h2 (by omega)
theorem nlj6B {x : Int} {a : Nat} (hx : nl W32 x.natAbs ≤ a) (ha : a ≤ 10000 := by omega) : nl 10000 x.natAbs ≤ 400000 := Nat.le_trans (nl10_le _ _ hx) (by omega)
set_option maxRecDepth 20000 in
set_option maxHeartbeats 1000000 in
theorem jfrom_atB (v : Value) (q : Rat) (L : Nat) (w : World) (hv : RatAt w v q L) (hL : 2 ≤ L) (hM : L ≤ 10000) :
  Calls Tryz.prog 53 #[v] w fun e w' => ∃ r,e = .returned r ∧ DocQ w' r q L ∧ Below w.heap.size w w' := by
 obtain ⟨p,ao,n,c,bo,m,d,rfl⟩ := hv.open
 obtain ⟨z,x,hz,hx,hq⟩ := hv.parts
 have HQ : Hid (q = mkRat z x) := hq
 clear hq hv
 have l1 := hz.nl
 have l2 := hx.nl
 have BB : Below w.heap.size w w := Below.refl _ _
 obtain ⟨Wb0,hW0,hS0,hL0,VA⟩ := V3.lay w 34 (.bool p) (.slice ao n c) (.slice bo m d)
 replace hz := hz.below hL0
 replace hx := hx.below hL0
 replace BB := BB.trans (hL0.mono BB.size)
 clear hL0
 obtain ⟨Wb1,hW1,hS1,hL1,VR⟩ := V3.lay Wb0 101 (.bool false) (.slice none 0 0) (.slice none 0 0)
 rw [hS0] at VR hS1
 replace hz := hz.below hL1
 replace hx := hx.below hL1
 replace VA := VA.below hL1
 replace BB := BB.trans (hL1.mono BB.size)
 clear hL1
 go_enter Tryz.func53,Tryz.ntmps53
 go_wp2_with fail
 rw [← hW0]
 rw [← hW1]
 clear hW0 hW1 hS0 hS1
 refine (nfrom_atB _ _ _ _ hx (by omega)).mono ?_
 rintro e w1 ⟨v1,rfl,h1,b1⟩
 replace hz := hz.below b1
 replace hx := hx.below b1
 replace VA := VA.below b1
 replace VR := VR.below b1
 replace BB := BB.trans (b1.mono BB.size)
 clear b1
 obtain ⟨br,dr,rfl⟩ := h1.open
 by_cases h0 : x = 0
 ·have k1 : nl 10000 x = 0 := by rw [h0]; exact nl_zero _
  rw [k1]
  clear h1
  go_wp2_with fail
  refine (jsmall_at 0 1 _ (by omega) (by omega) (by omega) (by omega)).mono ?_
  rintro e w2 ⟨rr,rfl,hr,b2⟩
  replace hz := hz.below b2
  replace hx := hx.below b2
  replace VA := VA.below b2
  replace VR := VR.below b2
  replace BB := BB.trans (b2.mono BB.size)
  clear b2
  obtain ⟨pr,ar,nr,cr,br,mr,dr,rfl⟩ := hr.open
  have hKp := VR.keepJ (.bool pr) (.slice ar nr cr) (.slice br mr dr)
  have hz_n := hz.keep hKp
  have hx_n := hx.keep hKp
  have hr_n := hr.keep hKp
  have BB_n := below_store3 (R := w.heap.size + 1) BB (by omega) (.bool pr) (.slice ar nr cr) (.slice br mr dr)
  clear hKp
  obtain ⟨q1,q2,q3,q4,q5,q6⟩ := id VR
  go_wp2
  (try simp only [Exit.inBlock,Exit.then])
  refine bodyPost_ret (v := .agg #[.bool pr,.slice ar nr cr,.slice br mr dr]) (by simp [results,go_sem,q1,q2,q3]) rfl ?_
  exact ⟨_,rfl,by rw [HQ.out,h0]; simpa using hr_n.le hL,BB_n⟩
 ·have k1 : (((nl 10000 x : Nat) : Int) == 0) = false := by
   have := mt (nl_eq_zero 10000 x (by decide)).1 h0
   simp; omega
  generalize nl 10000 x = mr at *
  obtain ⟨VA_0,VA_1,VA_2,VA_3,VA_4,VA_5⟩ := id VA
  go_wp2_with fail
  clear VA_0 VA_1 VA_2 VA_3 VA_4 VA_5
  refine (rfrom_anyB _ _ _ _ hz (by omega)).mono ?_
  rintro e w2 ⟨v2,rfl,h2,b2⟩
  replace hz := hz.below b2
  replace hx := hx.below b2
  replace h1 := h1.below b2
  replace VA := VA.below b2
  replace VR := VR.below b2
  replace BB := BB.trans (b2.mono BB.size)
  clear b2
  obtain ⟨pr,ar,nr,cr,rfl⟩ := h2.open
  have hKp := VR.keepJ (.bool pr) (.slice ar nr cr) (.slice br mr dr)
  have hz_n := hz.keep hKp
  have hx_n := hx.keep hKp
  have h1_n := h1.keep hKp
  have h2_n := h2.keep hKp
  have BB_n := below_store3 (R := w.heap.size + 1) BB (by omega) (.bool pr) (.slice ar nr cr) (.slice br mr dr)
  clear hKp
  obtain ⟨q1,q2,q3,q4,q5,q6⟩ := id VR
  go_wp2
  (try simp only [Exit.inBlock,Exit.then])
  refine bodyPost_ret (v := .agg #[.bool pr,.slice ar nr cr,.slice br mr dr]) (by simp [results,go_sem,q1,q2,q3]) rfl ?_
  exact ⟨_,rfl,⟨z,x,DocP.mk h2_n h1_n (by omega) l1 l2,HQ.out⟩,BB_n⟩
set_option maxRecDepth 20000 in
set_option maxHeartbeats 2000000 in
theorem jorder_atB (u v : Value) (q r : Rat) (L M : Nat) (w : World) (hu : DocQ w u q L) (hv : DocQ w v r M) (hL : L + M ≤ 9000) :
  Calls Tryz.prog 96 #[u,v] w fun e w' => e = .returned (.int .i64 (cmpQ q r)) ∧ Below w.heap.size w w' := by
 obtain ⟨p,ao,n,c,bo,m,d,rfl⟩ := hu.open
 obtain ⟨za,xa,hu1,hqa⟩ := hu
 obtain ⟨ja,da,pa,la,la2⟩ := hu1.parts
 have HA : Hid (q = mkRat za xa) := hqa
 clear hqa hu1
 obtain ⟨p2,ao2,n2,c2,bo2,m2,d2,rfl⟩ := hv.open
 obtain ⟨zb,xb,hv1,hqb⟩ := hv
 obtain ⟨jb,db,pb,lb,lb2⟩ := hv1.parts
 have HB : Hid (r = mkRat zb xb) := hqb
 clear hqb hv1
 have l1 : nl W32 (za * (xb : Int)).natAbs ≤ L + M := nlz_mul la (natc_nl lb2) (Nat.le_refl _)
 have l2 : nl W32 (zb * (xa : Int)).natAbs ≤ L + M := nlz_mul lb (natc_nl la2) (by omega)
 have gn1 := nljB la (by omega)
 have gn2 := nljB lb (by omega)
 have gn3 := nljB (natc_nl la2) (by omega)
 have gn4 := nljB (natc_nl lb2) (by omega)
 have gn5 := nljB l1 (by omega)
 have gn6 := nljB l2 (by omega)
 have BB : Below w.heap.size w w := Below.refl _ _
 obtain ⟨Wb0,hW0,hS0,hL0,VA⟩ := V3.lay w 101 (.bool p) (.slice ao n c) (.slice bo m d)
 replace ja := ja.below hL0
 replace da := da.below hL0
 replace jb := jb.below hL0
 replace db := db.below hL0
 replace BB := BB.trans (hL0.mono BB.size)
 clear hL0
 obtain ⟨Wb1,hW1,hS1,hL1,VB⟩ := V3.lay Wb0 101 (.bool p2) (.slice ao2 n2 c2) (.slice bo2 m2 d2)
 rw [hS0] at VB hS1
 replace ja := ja.below hL1
 replace da := da.below hL1
 replace jb := jb.below hL1
 replace db := db.below hL1
 replace VA := VA.below hL1
 replace BB := BB.trans (hL1.mono BB.size)
 clear hL1
 go_enter Tryz.func96,Tryz.ntmps96
 go_wp2
 rw [← hW0]
 rw [← hW1]
 clear hW0 hW1 hS0 hS1
 have hDr : Below Wb1.heap.size Wb1 Wb1.drew := (Below.refl _ _).drew
 replace ja := ja.below hDr
 replace da := da.below hDr
 replace jb := jb.below hDr
 replace db := db.below hDr
 replace VA := VA.below hDr
 replace VB := VB.below hDr
 replace BB := BB.trans (hDr.mono BB.size)
 clear hDr
 refine wp_region_held_drew (S := (fun w' => w'.cell? ⟨w.heap.size,0,none⟩ = some (.bool p) ∧ w'.cell? ⟨w.heap.size,1,none⟩ = some (.slice ao n c) ∧ w'.cell? ⟨w.heap.size,2,none⟩ = some (.slice bo m d) ∧ w'.cell? ⟨w.heap.size + 1,0,none⟩ = some (.bool p2) ∧ w'.cell? ⟨w.heap.size + 1,1,none⟩ = some (.slice ao2 n2 c2) ∧ w'.cell? ⟨w.heap.size + 1,2,none⟩ = some (.slice bo2 m2 d2))) (by kernel_rfl) ?_ (fun hHeld => ?_)
 ·exact ⟨VA.1,VA.2.1,VA.2.2.1,VB.1,VB.2.1,VB.2.2.1⟩
 generalize Wb1.drew = W1 at *
 refine xT 0 (v := ?_) (hy := Or.inl ⟨by rfl,?_⟩) (h := ?_)
 rotate_left
 ·(intro w hSw; (try dsimp only at hSw); go_simp; (try with_reducible rfl))
 (try simp only [Act.put,xL4,xL5,xL6])
 refine xT 1 (v := ?_) (hy := Or.inl ⟨by rfl,?_⟩) (h := ?_)
 rotate_left
 ·(intro w hSw; (try dsimp only at hSw); go_simp; (try with_reducible rfl))
 (try simp only [Act.put,xL4,xL5,xL6])
 refine xT 2 (v := ?_) (hy := Or.inl ⟨by rfl,?_⟩) (h := ?_)
 rotate_left
 ·(intro w hSw; (try dsimp only at hSw); go_simp; (try with_reducible rfl))
 (try simp only [Act.put,xL4,xL5,xL6])
 refine xT 5 (v := ?_) (hy := Or.inl ⟨by rfl,?_⟩) (h := ?_)
 rotate_left
 ·(intro w hSw; (try dsimp only at hSw); go_simp; (try with_reducible rfl))
 (try simp only [Act.put,xL4,xL5,xL6])
 refine xT 6 (v := ?_) (hy := Or.inl ⟨by rfl,?_⟩) (h := ?_)
 rotate_left
 ·(intro w hSw; (try dsimp only at hSw); go_simp; (try with_reducible rfl))
 (try simp only [Act.put,xL4,xL5,xL6])
 refine xT 7 (v := ?_) (hy := Or.inl ⟨by rfl,?_⟩) (h := ?_)
 rotate_left
 ·(intro w hSw; (try dsimp only at hSw); go_simp; (try with_reducible rfl))
 (try simp only [Act.put,xL4,xL5,xL6])
 refine xR [3] (h := ?_)
 refine xN (h := fun K hK => ?_)
 go_simp
 refine (den_at p2 ao2 n2 c2 bo2 m2 d2 xb _ db).mono ?_
 rintro e w1 ⟨e1,rfl,h1,b1⟩
 go_wp2_with fail
 replace ja := ja.below b1
 replace da := da.below b1
 replace jb := jb.below b1
 replace db := db.below b1
 replace VA := VA.below b1
 replace VB := VB.below b1
 replace BB := BB.trans (b1.mono BB.size)
 clear b1
 refine hK.out _ _ ?_ (fun hH1 => ?_)
 ·exact ⟨VA.1,VA.2.1,VA.2.2.1,VB.1,VB.2.1,VB.2.2.1⟩
 clear hK K hHeld
 (try simp only [Act.put,xL4,xL5,xL6])
 refine xR [4] (h := ?_)
 refine xN (h := fun K hK => ?_)
 go_simp
 refine (rtimes_any _ _ za (xb : Int) _ ja h1 gn1 gn4).mono ?_
 rintro e w2 ⟨e2,rfl,h2,b2⟩
 go_wp2_with fail
 replace ja := ja.below b2
 replace da := da.below b2
 replace jb := jb.below b2
 replace db := db.below b2
 replace h1 := h1.below b2
 replace VA := VA.below b2
 replace VB := VB.below b2
 replace BB := BB.trans (b2.mono BB.size)
 clear b2
 refine hK.out _ _ ?_ (fun hH2 => ?_)
 ·exact ⟨VA.1,VA.2.1,VA.2.2.1,VB.1,VB.2.1,VB.2.2.1⟩
 clear hK K hH1
 (try simp only [Act.put,xL4,xL5,xL6])
 refine xR [8] (h := ?_)
 refine xN (h := fun K hK => ?_)
 go_simp
 refine (den_at p ao n c bo m d xa _ da).mono ?_
 rintro e w3 ⟨e3,rfl,h3,b3⟩
 go_wp2_with fail
 replace ja := ja.below b3
 replace da := da.below b3
 replace jb := jb.below b3
 replace db := db.below b3
 replace h1 := h1.below b3
 replace h2 := h2.below b3
 replace VA := VA.below b3
 replace VB := VB.below b3
 replace BB := BB.trans (b3.mono BB.size)
 clear b3
 refine hK.out _ _ ?_ (fun hH3 => ?_)
 ·exact ⟨VA.1,VA.2.1,VA.2.2.1,VB.1,VB.2.1,VB.2.2.1⟩
 clear hK K hH2
 (try simp only [Act.put,xL4,xL5,xL6])
 refine xR [9] (h := ?_)
 refine xN (h := fun K hK => ?_)
 go_simp
 refine (rtimes_any _ _ zb (xa : Int) _ jb h3 gn2 gn3).mono ?_
 rintro e w4 ⟨e4,rfl,h4,b4⟩
 go_wp2_with fail
 replace ja := ja.below b4
 replace da := da.below b4
 replace jb := jb.below b4
 replace db := db.below b4
 replace h1 := h1.below b4
 replace h2 := h2.below b4
 replace h3 := h3.below b4
 replace VA := VA.below b4
 replace VB := VB.below b4
 replace BB := BB.trans (b4.mono BB.size)
 clear b4
 refine hK.out _ _ ?_ (fun hH4 => ?_)
 ·exact ⟨VA.1,VA.2.1,VA.2.2.1,VB.1,VB.2.1,VB.2.2.1⟩
 clear hK K hH3
 (try simp only [Act.put,xL4,xL5,xL6])
 refine xR [10] (h := ?_)
 refine xN (h := fun K hK => ?_)
 go_simp
 refine (rorder_any _ _ (za * (xb : Int)) (zb * (xa : Int)) _ h2 h4).mono ?_
 rintro e w5 ⟨rfl,b5⟩
 go_wp2_with fail
 replace ja := ja.below b5
 replace da := da.below b5
 replace jb := jb.below b5
 replace db := db.below b5
 replace h1 := h1.below b5
 replace h2 := h2.below b5
 replace h3 := h3.below b5
 replace h4 := h4.below b5
 replace VA := VA.below b5
 replace VB := VB.below b5
 replace BB := BB.trans (b5.mono BB.size)
 clear b5
 refine hK.out _ _ ?_ (fun hH5 => ?_)
 ·exact ⟨VA.1,VA.2.1,VA.2.2.1,VB.1,VB.2.1,VB.2.2.1⟩
 clear hK K hH4
 (try simp only [Act.put,xL4,xL5,xL6])
 refine xT 11 (v := ?_) (hy := Or.inl ⟨by rfl,?_⟩) (h := ?_)
 rotate_left
 ·(intro w hSw; (try dsimp only at hSw); go_simp; (try with_reducible rfl))
 (try simp only [Act.put,xL4,xL5,xL6])
 refine wpAnyH_done (by kernel_rfl) ?_ _
 clear hH5
 have hcq := cmp_mkRat za zb xa xb pa pb
 rw [← HA.out,← HB.out] at hcq
 generalize cmpI (za * (xb : Int)) (zb * (xa : Int)) = cc at *
 subst hcq
 go_wp2
 go_ret
 exact ⟨rfl,BB⟩
set_option maxRecDepth 20000 in
set_option maxHeartbeats 1000000 in
theorem jright_zeroB (u : Value) (q : Rat) (L : Nat) (w : World) (hu : RepQ w u q) (hs : qsz q ≤ L) (hL : L ≤ 9000) (h0 : q.num = 0) :
  Calls Tryz.prog 95 #[u] w fun e w' => e = .returned (.bool true) ∧ Below w.heap.size w w' := by
 obtain ⟨p,ao,n,c,bo,m,d,rfl⟩ := hu.open
 obtain ⟨hnI,hd⟩ := hu.parts
 have hn := hnI.abs
 have l1 := Nat.le_trans (qsz_num q) hs
 have l2 := Nat.le_trans (qsz_den q) hs
 have hco : Nat.gcd q.num.natAbs q.den = 1 := q.reduced
 have hdp : nl W32 q.den ≠ 0 := fun e => q.den_nz ((nl_eq_zero W32 _ (by decide)).1 e)
 obtain ⟨ha5,c5,e5,_⟩ := id hnI
 simp only [Value.agg.injEq,Array.mk.injEq,List.cons.injEq,Value.bool.injEq,Value.slice.injEq,and_true] at e5
 obtain ⟨hp,rfl,hnn,rfl⟩ := e5
 obtain ⟨hb5,d5,e6,_⟩ := id hd
 simp only [Value.slice.injEq] at e6
 obtain ⟨rfl,hmm,rfl⟩ := e6
 have hp2 : p = false := by rw [hp,h0]; rfl
 have hn0 : n = 0 := by rw [hnn,h0]; exact nl_zero _
 subst hp2 hn0
 (try clear hp)
 (try clear hnn)
 have hmb : ((m : Int) == 0) = false := by rw [hmm]; simp; omega
 (try clear hnn)
 clear hmm hdp hnI hu
 have BB : Below w.heap.size w w := Below.refl _ _
 obtain ⟨Wb0,hW0,hS0,hL0,VA⟩ := V3.lay w 34 (.bool false) (.slice ao 0 c) (.slice bo m d)
 replace hn := hn.below hL0
 replace hd := hd.below hL0
 replace BB := BB.trans (hL0.mono BB.size)
 clear hL0
 go_enter Tryz.func95,Tryz.ntmps95
 go_wp2_with fail
 rw [← hW0]
 clear hW0 hS0
 refine (refRight_rep hn).mono ?_
 rintro e wx ⟨rfl,hwx⟩
 replace hwx := hwx.symm
 subst hwx
 obtain ⟨VA_0,VA_1,VA_2,VA_3,VA_4,VA_5⟩ := id VA
 go_wp2_with fail
 clear VA_0 VA_1 VA_2 VA_3 VA_4 VA_5
 refine (refRight_rep hd).mono ?_
 rintro e wx ⟨rfl,hwx⟩
 replace hwx := hwx.symm
 subst hwx
 obtain ⟨VA_0,VA_1,VA_2,VA_3,VA_4,VA_5⟩ := id VA
 go_wp2
 clear VA_0 VA_1 VA_2 VA_3 VA_4 VA_5
 have hDr : Below Wb0.heap.size Wb0 Wb0.drew := (Below.refl _ _).drew
 replace hn := hn.below hDr
 replace hd := hd.below hDr
 replace VA := VA.below hDr
 replace BB := BB.trans (hDr.mono BB.size)
 clear hDr
 refine wp_region_held_drew (S := (fun w' => w'.cell? ⟨w.heap.size,0,none⟩ = some (.bool false) ∧ w'.cell? ⟨w.heap.size,1,none⟩ = some (.slice ao 0 c) ∧ w'.cell? ⟨w.heap.size,2,none⟩ = some (.slice bo m d))) (by kernel_rfl) ?_ (fun hHeld => ?_)
 ·exact ⟨VA.1,VA.2.1,VA.2.2.1⟩
 generalize Wb0.drew = W1 at *
 refine xT 0 (v := ?_) (hy := Or.inl ⟨by rfl,?_⟩) (h := ?_)
 rotate_left
 ·(intro w hSw; (try dsimp only at hSw); go_simp; (try with_reducible rfl))
 (try simp only [Act.put,xL4,xL5,xL6])
 refine xT 1 (v := ?_) (hy := Or.inl ⟨by rfl,?_⟩) (h := ?_)
 rotate_left
 ·(intro w hSw; (try dsimp only at hSw); go_simp; (try with_reducible rfl))
 (try simp only [Act.put,xL4,xL5,xL6])
 refine xT 2 (v := ?_) (hy := Or.inl ⟨by rfl,?_⟩) (h := ?_)
 rotate_left
 ·(intro w hSw; (try dsimp only at hSw); go_simp; (try with_reducible rfl))
 (try simp only [Act.put,xL4,xL5,xL6])
 refine xT 4 (v := ?_) (hy := Or.inl ⟨by rfl,?_⟩) (h := ?_)
 rotate_left
 ·(intro w hSw; (try dsimp only at hSw); go_simp; (try with_reducible rfl))
 (try simp only [Act.put,xL4,xL5,xL6])
 refine xT 5 (v := ?_) (hy := Or.inl ⟨by rfl,?_⟩) (h := ?_)
 rotate_left
 ·(intro w hSw; (try dsimp only at hSw); go_simp; (try with_reducible rfl))
 (try simp only [Act.put,xL4,xL5,xL6])
 refine xR [3] (h := ?_)
 refine xN (h := fun K hK => ?_)
 go_simp
 refine (nfrom_atB _ _ 9000 _ (hn.at 9000 (by omega)) (by omega)).mono ?_
 rintro e w1 ⟨e1,rfl,h1,b1⟩
 go_wp2_with fail
 replace hn := hn.below b1
 replace hd := hd.below b1
 replace VA := VA.below b1
 replace BB := BB.trans (b1.mono BB.size)
 clear b1
 refine hK.out _ _ ?_ (fun hH1 => ?_)
 ·exact ⟨VA.1,VA.2.1,VA.2.2.1⟩
 clear hK K hHeld
 (try simp only [Act.put,xL4,xL5,xL6])
 refine xR [6] (h := ?_)
 refine xN (h := fun K hK => ?_)
 go_simp
 refine (nfrom_atB _ _ 9000 _ (hd.at 9000 (by omega)) (by omega)).mono ?_
 rintro e w2 ⟨e2,rfl,h2,b2⟩
 go_wp2_with fail
 replace hn := hn.below b2
 replace hd := hd.below b2
 replace h1 := h1.below b2
 replace VA := VA.below b2
 replace BB := BB.trans (b2.mono BB.size)
 clear b2
 refine hK.out _ _ ?_ (fun hH2 => ?_)
 ·exact ⟨VA.1,VA.2.1,VA.2.2.1⟩
 clear hK K hH1
 (try simp only [Act.put,xL4,xL5,xL6])
 refine xR [7] (h := ?_)
 refine xN (h := fun K hK => ?_)
 go_simp
 refine (rgcd_any _ _ q.num.natAbs q.den _ h1 h2 (nlj6B (x := q.num) l1) (nlj6B (x := (q.den : Int)) (natc_nl l2))).mono ?_
 rintro e w3 ⟨e3,rfl,h3,b3⟩
 rw [hco] at h3
 go_wp2_with fail
 replace hn := hn.below b3
 replace hd := hd.below b3
 replace h1 := h1.below b3
 replace h2 := h2.below b3
 replace VA := VA.below b3
 replace BB := BB.trans (b3.mono BB.size)
 clear b3
 refine hK.out _ _ ?_ (fun hH3 => ?_)
 ·exact ⟨VA.1,VA.2.1,VA.2.2.1⟩
 clear hK K hH2
 (try simp only [Act.put,xL4,xL5,xL6])
 refine xT 8 (v := ?_) (hy := Or.inl ⟨by rfl,?_⟩) (h := ?_)
 rotate_left
 ·(intro w hSw; (try dsimp only at hSw); go_simp; (try with_reducible rfl))
 (try simp only [Act.put,xL4,xL5,xL6])
 refine wpAnyH_done (by kernel_rfl) ?_ _
 clear hH3
 go_wp2_with fail
 refine (small_any 1 _ (by omega)).mono ?_
 rintro e w4 ⟨e4,rfl,h4,b4⟩
 replace hn := hn.below b4
 replace hd := hd.below b4
 replace h1 := h1.below b4
 replace h2 := h2.below b4
 replace h3 := h3.below b4
 replace VA := VA.below b4
 replace BB := BB.trans (b4.mono BB.size)
 clear b4
 go_wp2_with fail
 refine (order_any _ _ 1 1 _ h3 h4).mono ?_
 rintro e w5 ⟨rfl,b5⟩
 replace hn := hn.below b5
 replace hd := hd.below b5
 replace h1 := h1.below b5
 replace h2 := h2.below b5
 replace h3 := h3.below b5
 replace h4 := h4.below b5
 replace VA := VA.below b5
 replace BB := BB.trans (b5.mono BB.size)
 clear b5
 rw [cmpI_eq rfl]
 go_wp2
 go_ret
 exact ⟨rfl,BB⟩
set_option maxRecDepth 20000 in
set_option maxHeartbeats 1000000 in
theorem jright_someB (u : Value) (q : Rat) (L : Nat) (w : World) (hu : RepQ w u q) (hs : qsz q ≤ L) (hL : L ≤ 9000) (h0 : q.num ≠ 0) :
  Calls Tryz.prog 95 #[u] w fun e w' => e = .returned (.bool true) ∧ Below w.heap.size w w' := by
 obtain ⟨p,ao,n,c,bo,m,d,rfl⟩ := hu.open
 obtain ⟨hnI,hd⟩ := hu.parts
 have hn := hnI.abs
 have l1 := Nat.le_trans (qsz_num q) hs
 have l2 := Nat.le_trans (qsz_den q) hs
 have hco : Nat.gcd q.num.natAbs q.den = 1 := q.reduced
 have hdp : nl W32 q.den ≠ 0 := fun e => q.den_nz ((nl_eq_zero W32 _ (by decide)).1 e)
 obtain ⟨ha5,c5,e5,_⟩ := id hnI
 simp only [Value.agg.injEq,Array.mk.injEq,List.cons.injEq,Value.bool.injEq,Value.slice.injEq,and_true] at e5
 obtain ⟨hp,rfl,hnn,rfl⟩ := e5
 obtain ⟨hb5,d5,e6,_⟩ := id hd
 simp only [Value.slice.injEq] at e6
 obtain ⟨rfl,hmm,rfl⟩ := e6
 have hn0 : n ≠ 0 := by rw [hnn]; exact fun e => h0 (by have := (nl_eq_zero W32 _ (by decide)).1 e; omega)
 clear hp
 have hnb : ((n : Int) == 0) = false := by simp; omega
 have hmb : ((m : Int) == 0) = false := by rw [hmm]; simp; omega
 (try clear hnn)
 clear hmm hdp hnI hu
 have BB : Below w.heap.size w w := Below.refl _ _
 obtain ⟨Wb0,hW0,hS0,hL0,VA⟩ := V3.lay w 34 (.bool p) (.slice ao n c) (.slice bo m d)
 replace hn := hn.below hL0
 replace hd := hd.below hL0
 replace BB := BB.trans (hL0.mono BB.size)
 clear hL0
 go_enter Tryz.func95,Tryz.ntmps95
 go_wp2_with fail
 rw [← hW0]
 clear hW0 hS0
 refine (refRight_rep hn).mono ?_
 rintro e wx ⟨rfl,hwx⟩
 replace hwx := hwx.symm
 subst hwx
 obtain ⟨VA_0,VA_1,VA_2,VA_3,VA_4,VA_5⟩ := id VA
 go_wp2_with fail
 clear VA_0 VA_1 VA_2 VA_3 VA_4 VA_5
 refine (refRight_rep hd).mono ?_
 rintro e wx ⟨rfl,hwx⟩
 replace hwx := hwx.symm
 subst hwx
 obtain ⟨VA_0,VA_1,VA_2,VA_3,VA_4,VA_5⟩ := id VA
 go_wp2
 clear VA_0 VA_1 VA_2 VA_3 VA_4 VA_5
 have hDr : Below Wb0.heap.size Wb0 Wb0.drew := (Below.refl _ _).drew
 replace hn := hn.below hDr
 replace hd := hd.below hDr
 replace VA := VA.below hDr
 replace BB := BB.trans (hDr.mono BB.size)
 clear hDr
 refine wp_region_held_drew (S := (fun w' => w'.cell? ⟨w.heap.size,0,none⟩ = some (.bool p) ∧ w'.cell? ⟨w.heap.size,1,none⟩ = some (.slice ao n c) ∧ w'.cell? ⟨w.heap.size,2,none⟩ = some (.slice bo m d))) (by kernel_rfl) ?_ (fun hHeld => ?_)
 ·exact ⟨VA.1,VA.2.1,VA.2.2.1⟩
 generalize Wb0.drew = W1 at *
 refine xT 0 (v := ?_) (hy := Or.inl ⟨by rfl,?_⟩) (h := ?_)
 rotate_left
 ·(intro w hSw; (try dsimp only at hSw); go_simp; (try with_reducible rfl))
 (try simp only [Act.put,xL4,xL5,xL6])
 refine xT 1 (v := ?_) (hy := Or.inl ⟨by rfl,?_⟩) (h := ?_)
 rotate_left
 ·(intro w hSw; (try dsimp only at hSw); go_simp; (try with_reducible rfl))
 (try simp only [Act.put,xL4,xL5,xL6])
 refine xT 2 (v := ?_) (hy := Or.inl ⟨by rfl,?_⟩) (h := ?_)
 rotate_left
 ·(intro w hSw; (try dsimp only at hSw); go_simp; (try with_reducible rfl))
 (try simp only [Act.put,xL4,xL5,xL6])
 refine xT 4 (v := ?_) (hy := Or.inl ⟨by rfl,?_⟩) (h := ?_)
 rotate_left
 ·(intro w hSw; (try dsimp only at hSw); go_simp; (try with_reducible rfl))
 (try simp only [Act.put,xL4,xL5,xL6])
 refine xT 5 (v := ?_) (hy := Or.inl ⟨by rfl,?_⟩) (h := ?_)
 rotate_left
 ·(intro w hSw; (try dsimp only at hSw); go_simp; (try with_reducible rfl))
 (try simp only [Act.put,xL4,xL5,xL6])
 refine xR [3] (h := ?_)
 refine xN (h := fun K hK => ?_)
 go_simp
 refine (nfrom_atB _ _ 9000 _ (hn.at 9000 (by omega)) (by omega)).mono ?_
 rintro e w1 ⟨e1,rfl,h1,b1⟩
 go_wp2_with fail
 replace hn := hn.below b1
 replace hd := hd.below b1
 replace VA := VA.below b1
 replace BB := BB.trans (b1.mono BB.size)
 clear b1
 refine hK.out _ _ ?_ (fun hH1 => ?_)
 ·exact ⟨VA.1,VA.2.1,VA.2.2.1⟩
 clear hK K hHeld
 (try simp only [Act.put,xL4,xL5,xL6])
 refine xR [6] (h := ?_)
 refine xN (h := fun K hK => ?_)
 go_simp
 refine (nfrom_atB _ _ 9000 _ (hd.at 9000 (by omega)) (by omega)).mono ?_
 rintro e w2 ⟨e2,rfl,h2,b2⟩
 go_wp2_with fail
 replace hn := hn.below b2
 replace hd := hd.below b2
 replace h1 := h1.below b2
 replace VA := VA.below b2
 replace BB := BB.trans (b2.mono BB.size)
 clear b2
 refine hK.out _ _ ?_ (fun hH2 => ?_)
 ·exact ⟨VA.1,VA.2.1,VA.2.2.1⟩
 clear hK K hH1
 (try simp only [Act.put,xL4,xL5,xL6])
 refine xR [7] (h := ?_)
 refine xN (h := fun K hK => ?_)
 go_simp
 refine (rgcd_any _ _ q.num.natAbs q.den _ h1 h2 (nlj6B (x := q.num) l1) (nlj6B (x := (q.den : Int)) (natc_nl l2))).mono ?_
 rintro e w3 ⟨e3,rfl,h3,b3⟩
 rw [hco] at h3
 go_wp2_with fail
 replace hn := hn.below b3
 replace hd := hd.below b3
 replace h1 := h1.below b3
 replace h2 := h2.below b3
 replace VA := VA.below b3
 replace BB := BB.trans (b3.mono BB.size)
 clear b3
 refine hK.out _ _ ?_ (fun hH3 => ?_)
 ·exact ⟨VA.1,VA.2.1,VA.2.2.1⟩
 clear hK K hH2
 (try simp only [Act.put,xL4,xL5,xL6])
 refine xT 8 (v := ?_) (hy := Or.inl ⟨by rfl,?_⟩) (h := ?_)
 rotate_left
 ·(intro w hSw; (try dsimp only at hSw); go_simp; (try with_reducible rfl))
 (try simp only [Act.put,xL4,xL5,xL6])
 refine wpAnyH_done (by kernel_rfl) ?_ _
 clear hH3
 go_wp2_with fail
 refine (small_any 1 _ (by omega)).mono ?_
 rintro e w4 ⟨e4,rfl,h4,b4⟩
 replace hn := hn.below b4
 replace hd := hd.below b4
 replace h1 := h1.below b4
 replace h2 := h2.below b4
 replace h3 := h3.below b4
 replace VA := VA.below b4
 replace BB := BB.trans (b4.mono BB.size)
 clear b4
 go_wp2_with fail
 refine (order_any _ _ 1 1 _ h3 h4).mono ?_
 rintro e w5 ⟨rfl,b5⟩
 replace hn := hn.below b5
 replace hd := hd.below b5
 replace h1 := h1.below b5
 replace h2 := h2.below b5
 replace h3 := h3.below b5
 replace h4 := h4.below b5
 replace VA := VA.below b5
 replace BB := BB.trans (b5.mono BB.size)
 clear b5
 rw [cmpI_eq rfl]
 go_wp2
 go_ret
 exact ⟨rfl,BB⟩
theorem jright_repB (u : Value) (q : Rat) (L : Nat) (w : World) (hu : RepQ w u q) (hs : qsz q ≤ L) (hL : L ≤ 9000) : Calls Tryz.prog 95 #[u] w fun e w' => e = .returned (.bool true) ∧ Below w.heap.size w w' := by
 by_cases h0 : q.num = 0
 ·exact jright_zeroB u q L w hu hs hL h0
 ·exact jright_someB u q L w hu hs hL h0
set_option maxRecDepth 20000 in
set_option maxHeartbeats 1000000 in
theorem jis_atB (u v : Value) (q : Rat) (L M : Nat) (w : World) (hu : RepQ w u q) (hs : qsz q ≤ L) (hv : DocQ w v q M) (hL : L + M ≤ 8900) :
  Calls Tryz.prog 52 #[u,v] w fun e w' => e = .returned (.bool true) ∧ Below w.heap.size w w' := by
 obtain ⟨p,ao,n,c,bo,m,d,rfl⟩ := hu.open
 obtain ⟨p2,ao2,n2,c2,bo2,m2,d2,rfl⟩ := hv.open
 have hp := qsz_pos q
 have BB : Below w.heap.size w w := Below.refl _ _
 obtain ⟨Wb0,hW0,hS0,hL0,VA⟩ := V3.lay w 34 (.bool p) (.slice ao n c) (.slice bo m d)
 replace hu := hu.below hL0
 replace hv := hv.below hL0
 replace BB := BB.trans (hL0.mono BB.size)
 clear hL0
 obtain ⟨Wb1,hW1,hS1,hL1,VB⟩ := V3.lay Wb0 101 (.bool p2) (.slice ao2 n2 c2) (.slice bo2 m2 d2)
 rw [hS0] at VB hS1
 replace hu := hu.below hL1
 replace hv := hv.below hL1
 replace VA := VA.below hL1
 replace BB := BB.trans (hL1.mono BB.size)
 clear hL1
 go_enter Tryz.func52,Tryz.ntmps52
 go_wp2
 rw [← hW0]
 rw [← hW1]
 clear hW0 hW1 hS0 hS1
 have hDr : Below Wb1.heap.size Wb1 Wb1.drew := (Below.refl _ _).drew
 replace hu := hu.below hDr
 replace hv := hv.below hDr
 replace VA := VA.below hDr
 replace VB := VB.below hDr
 replace BB := BB.trans (hDr.mono BB.size)
 clear hDr
 refine wp_region_held_drew (S := (fun w' => w'.cell? ⟨w.heap.size,0,none⟩ = some (.bool p) ∧ w'.cell? ⟨w.heap.size,1,none⟩ = some (.slice ao n c) ∧ w'.cell? ⟨w.heap.size,2,none⟩ = some (.slice bo m d) ∧ w'.cell? ⟨w.heap.size + 1,0,none⟩ = some (.bool p2) ∧ w'.cell? ⟨w.heap.size + 1,1,none⟩ = some (.slice ao2 n2 c2) ∧ w'.cell? ⟨w.heap.size + 1,2,none⟩ = some (.slice bo2 m2 d2))) (by kernel_rfl) ?_ (fun hHeld => ?_)
 ·exact ⟨VA.1,VA.2.1,VA.2.2.1,VB.1,VB.2.1,VB.2.2.1⟩
 generalize Wb1.drew = W1 at *
 refine xT 0 (v := ?_) (hy := Or.inl ⟨by rfl,?_⟩) (h := ?_)
 rotate_left
 ·(intro w hSw; (try dsimp only at hSw); go_simp; (try with_reducible rfl))
 (try simp only [Act.put,xL4,xL5,xL6])
 refine xR [1] (h := ?_)
 refine xN (h := fun K hK => ?_)
 go_simp
 refine (jright_repB _ q L _ hu hs (by omega)).mono ?_
 rintro e w1 ⟨rfl,b1⟩
 go_wp2_with fail
 replace hu := hu.below b1
 replace hv := hv.below b1
 replace VA := VA.below b1
 replace VB := VB.below b1
 replace BB := BB.trans (b1.mono BB.size)
 clear b1
 refine hK.out _ _ ?_ (fun hH1 => ?_)
 ·exact ⟨VA.1,VA.2.1,VA.2.2.1,VB.1,VB.2.1,VB.2.2.1⟩
 clear hK K hHeld
 (try simp only [Act.put,xL4,xL5,xL6])
 refine xT 2 (v := ?_) (hy := Or.inl ⟨by rfl,?_⟩) (h := ?_)
 rotate_left
 ·(intro w hSw; (try dsimp only at hSw); go_simp; (try with_reducible rfl))
 (try simp only [Act.put,xL4,xL5,xL6])
 refine xT 3 (v := ?_) (hy := Or.inl ⟨by rfl,?_⟩) (h := ?_)
 rotate_left
 ·(intro w hSw; (try dsimp only at hSw); go_simp; (try with_reducible rfl))
 (try simp only [Act.put,xL4,xL5,xL6])
 refine xT 5 (v := ?_) (hy := Or.inl ⟨by rfl,?_⟩) (h := ?_)
 rotate_left
 ·(intro w hSw; (try dsimp only at hSw); go_simp; (try with_reducible rfl))
 (try simp only [Act.put,xL4,xL5,xL6])
 refine xR [4] (h := ?_)
 refine xN (h := fun K hK => ?_)
 go_simp
 refine (jfrom_atB _ q (L + 1) _ (hu.at (L + 1) (by omega)) (by omega) (by omega)).mono ?_
 rintro e w2 ⟨e1,rfl,h1,b2⟩
 go_wp2_with fail
 replace hu := hu.below b2
 replace hv := hv.below b2
 replace VA := VA.below b2
 replace VB := VB.below b2
 replace BB := BB.trans (b2.mono BB.size)
 clear b2
 refine hK.out _ _ ?_ (fun hH2 => ?_)
 ·exact ⟨VA.1,VA.2.1,VA.2.2.1,VB.1,VB.2.1,VB.2.2.1⟩
 clear hK K hH1
 (try simp only [Act.put,xL4,xL5,xL6])
 refine xR [6] (h := ?_)
 refine xN (h := fun K hK => ?_)
 go_simp
 refine (jorder_atB _ _ q q (L + 1) M _ h1 hv (by omega)).mono ?_
 rintro e w3 ⟨rfl,b3⟩
 rw [cmpQ_self]
 go_wp2_with fail
 replace hu := hu.below b3
 replace hv := hv.below b3
 replace h1 := h1.below b3
 replace VA := VA.below b3
 replace VB := VB.below b3
 replace BB := BB.trans (b3.mono BB.size)
 clear b3
 refine hK.out _ _ ?_ (fun hH3 => ?_)
 ·exact ⟨VA.1,VA.2.1,VA.2.2.1,VB.1,VB.2.1,VB.2.2.1⟩
 clear hK K hH2
 (try simp only [Act.put,xL4,xL5,xL6])
 refine xT 7 (v := ?_) (hy := Or.inl ⟨by rfl,?_⟩) (h := ?_)
 rotate_left
 ·(intro w hSw; (try dsimp only at hSw); go_simp; (try with_reducible rfl))
 (try simp only [Act.put,xL4,xL5,xL6])
 refine xT 8 (v := ?_) (hy := Or.inl ⟨by rfl,?_⟩) (h := ?_)
 rotate_left
 ·(intro w hSw; (try dsimp only at hSw); go_simp; (try with_reducible rfl))
 (try simp only [Act.put,xL4,xL5,xL6])
 refine xT 9 (v := ?_) (hy := Or.inl ⟨by rfl,?_⟩) (h := ?_)
 rotate_left
 ·(intro w hSw; (try dsimp only at hSw); go_simp; (try with_reducible rfl))
 (try simp only [Act.put,xL4,xL5,xL6])
 refine wpAnyH_done (by kernel_rfl) ?_ _
 clear hH3
 go_wp2
 go_ret
 exact ⟨rfl,BB⟩
set_option maxRecDepth 100000 in
set_option maxHeartbeats 4000000 in
theorem is10_atB (u v : Value) (q : Rat) (L M : Nat) (w : World) (hu : RepQ w u q) (hs : qsz q ≤ L) (hv : RatAt w v q M) (hM2 : 2 ≤ M) (hLM : L + M ≤ 8900) :
  Calls Tryz.prog 17 #[u,v] w fun e w' => e = .returned (.bool true) ∧ Below w.heap.size w w' := by
 obtain ⟨pu,au,nu,cu,bu,mu,du,rfl⟩ := hu.open
 obtain ⟨pv,av,nv,cv,bv,mv,dv,rfl⟩ := hv.open
 have BB : Below w.heap.size w w := Below.refl _ _
 obtain ⟨Wb0,hW0,hS0,hL0,VU⟩ := V3.lay w 34 (.bool pu) (.slice au nu cu) (.slice bu mu du)
 replace hu := hu.below hL0
 replace hv := hv.below hL0
 replace BB := BB.trans (hL0.mono BB.size)
 clear hL0
 obtain ⟨Wb1,hW1,hS1,hL1,VV⟩ := V3.lay Wb0 34 (.bool pv) (.slice av nv cv) (.slice bv mv dv)
 rw [hS0] at VV hS1
 replace hu := hu.below hL1
 replace hv := hv.below hL1
 replace VU := VU.below hL1
 replace BB := BB.trans (hL1.mono BB.size)
 clear hL1
 go_enter Tryz.func17,Tryz.ntmps17
 go_wp2
 rw [← hW0]
 rw [← hW1]
 clear hW0 hW1 hS0 hS1
 have hDr : Below Wb1.heap.size Wb1 Wb1.drew := (Below.refl _ _).drew
 replace hu := hu.below hDr
 replace hv := hv.below hDr
 replace VU := VU.below hDr
 replace VV := VV.below hDr
 replace BB := BB.trans (hDr.mono BB.size)
 clear hDr
 refine wp_region_held_drew (S := (fun w' => w'.cell? ⟨w.heap.size,0,none⟩ = some (.bool pu) ∧ w'.cell? ⟨w.heap.size,1,none⟩ = some (.slice au nu cu) ∧ w'.cell? ⟨w.heap.size,2,none⟩ = some (.slice bu mu du) ∧ w'.cell? ⟨w.heap.size + 1,0,none⟩ = some (.bool pv) ∧ w'.cell? ⟨w.heap.size + 1,1,none⟩ = some (.slice av nv cv) ∧ w'.cell? ⟨w.heap.size + 1,2,none⟩ = some (.slice bv mv dv))) (by kernel_rfl) ?_ (fun hHeld => ?_)
 ·exact ⟨VU.1,VU.2.1,VU.2.2.1,VV.1,VV.2.1,VV.2.2.1⟩
 generalize Wb1.drew = W1 at *
 refine xT 0 (v := ?_) (hy := Or.inl ⟨by rfl,?_⟩) (h := ?_)
 rotate_left
 ·(intro w hSw; (try dsimp only at hSw); go_simp; (try with_reducible rfl))
 (try simp only [Act.put,xL4,xL5,xL6])
 refine xT 1 (v := ?_) (hy := Or.inl ⟨by rfl,?_⟩) (h := ?_)
 rotate_left
 ·(intro w hSw; (try dsimp only at hSw); go_simp; (try with_reducible rfl))
 (try simp only [Act.put,xL4,xL5,xL6])
 refine xR [2] (h := ?_)
 refine xN (h := fun K hK => ?_)
 go_simp
 refine (jfrom_atB _ q M _ hv hM2 (by omega)).mono ?_
 rintro e w1 ⟨x1,rfl,j1,b1⟩
 go_wp2_with fail
 replace hu := hu.below b1
 replace hv := hv.below b1
 replace VU := VU.below b1
 replace VV := VV.below b1
 replace BB := BB.trans (b1.mono BB.size)
 clear b1
 refine hK.out _ _ ?_ (fun hH1 => ?_)
 ·exact ⟨VU.1,VU.2.1,VU.2.2.1,VV.1,VV.2.1,VV.2.2.1⟩
 clear hK K hHeld
 (try simp only [Act.put,xL4,xL5,xL6])
 refine xR [3] (h := ?_)
 refine xN (h := fun K hK => ?_)
 go_simp
 refine (jis_atB _ _ q L M _ hu hs j1 hLM).mono ?_
 rintro e w2 ⟨rfl,b2⟩
 go_wp2_with fail
 replace hu := hu.below b2
 replace hv := hv.below b2
 replace j1 := j1.below b2
 replace VU := VU.below b2
 replace VV := VV.below b2
 replace BB := BB.trans (b2.mono BB.size)
 clear b2
 refine hK.out _ _ ?_ (fun hH2 => ?_)
 ·exact ⟨VU.1,VU.2.1,VU.2.2.1,VV.1,VV.2.1,VV.2.2.1⟩
 clear hK K hH1
 (try simp only [Act.put,xL4,xL5,xL6])
 refine xT 4 (v := ?_) (hy := Or.inl ⟨by rfl,?_⟩) (h := ?_)
 rotate_left
 ·(intro w hSw; (try dsimp only at hSw); go_simp; (try with_reducible rfl))
 (try simp only [Act.put,xL4,xL5,xL6])
 refine wpAnyH_done (by kernel_rfl) ?_ _
 clear hH2
 go_wp2
 go_ret
 exact ⟨rfl,BB⟩
end Go.Proofs.YtjmagcgobhaenaaGreatDoor
