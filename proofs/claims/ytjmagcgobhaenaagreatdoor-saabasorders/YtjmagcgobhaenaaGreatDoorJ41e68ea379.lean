/-
  Texts of mine, joined: what lies beneath the statement.
-/
import Derived.Test.YtjmagcgobhaenaaGreatDoorJc66f179fb5
import Derived.Test.YtjmagcgobhaenaaGreatDoorJc35467fed7
import Derived.Test.YtjmagcgobhaenaaGreatDoorJ432889f0dc
import Derived.Test.YtjmagcgobhaenaaGreatDoorJ9f76112506
import Derived.Test.YtjmagcgobhaenaaGreatDoorJb9d05976c1
import Derived.Test.YtjmagcgobhaenaaGreatDoorJeefe35e92d
namespace Go.Proofs.YtjmagcgobhaenaaGreatDoor
open Go.RowKit
set_option linter.unusedVariables false
set_option linter.unusedSimpArgs false
theorem cmpQ_lt10 (q r : Rat) : decide (cmpQ q r < 0) = decide (q < r) := by
 unfold cmpQ
 by_cases h : q < r
 ·simp [h]
 ·by_cases h2 : r < q
  ·simp [h,h2]
  ·simp [h,h2]
set_option maxRecDepth 100000 in
set_option maxHeartbeats 4000000 in
theorem rleft_at (d : Nd) (c : Cl) (p1 p2 p3 p4 : Bool) (a1 b1 a2 b2 a3 b3 a4 b4 : Option Addr) (n1 c1 m1 d1 n2 c2 m2 d2 n3 c3 m3 d3 n4 c4 m4 d4 : Nat) (L : Nat) (w : World) (hu : RatAt w (.agg #[.bool p1,.slice a1 n1 c1,.slice b1 m1 d1]) d.cut L) (hv : RatAt w (.agg #[.bool p4,.slice a4 n4 c4,.slice b4 m4 d4]) c.val L) (hL : 1 ≤ L) (hM : L ≤ 100000) :
  Calls Tryz.prog 64 #[.agg #[.bool d.leaf,.int .i64 d.feat,.bool p1,.slice a1 n1 c1,.slice b1 m1 d1,.int .i64 d.left,.int .i64 d.right,.bool d.miss,.bool p2,.slice a2 n2 c2,.slice b2 m2 d2,.bool p3,.slice a3 n3 c3,.slice b3 m3 d3],.agg #[.bool c.miss,.bool p4,.slice a4 n4 c4,.slice b4 m4 d4]] w fun e w' => e = .returned (.bool (goL d c)) ∧ Below w.heap.size w w' := by
 have hAB : ∀ o o',Below w.heap.size w ((w.alloc o).alloc o') := fun o o' => ((Below.refl _ _).alloc (Nat.le_refl _) _).alloc (by simp) _
 rcases d with ⟨lf,ft,q,ll,rr,ms,vl,cv⟩
 rcases c with ⟨cm,r⟩
 dsimp only at hu hv ⊢
 cases lf
 ·cases cm
  ·have HO : Hid (goL ⟨false,ft,q,ll,rr,ms,vl,cv⟩ ⟨false,r⟩ = decide (r < q)) := rfl
   have h1 := hu.below (hAB (.cells #[.bool false,.int .i64 ft,.bool p1,.slice a1 n1 c1,.slice b1 m1 d1,.int .i64 ll,.int .i64 rr,.bool ms,.bool p2,.slice a2 n2 c2,.slice b2 m2 d2,.bool p3,.slice a3 n3 c3,.slice b3 m3 d3] 61) (.cells #[.bool false,.bool p4,.slice a4 n4 c4,.slice b4 m4 d4] 71))
   have h2 := hv.below (hAB (.cells #[.bool false,.int .i64 ft,.bool p1,.slice a1 n1 c1,.slice b1 m1 d1,.int .i64 ll,.int .i64 rr,.bool ms,.bool p2,.slice a2 n2 c2,.slice b2 m2 d2,.bool p3,.slice a3 n3 c3,.slice b3 m3 d3] 61) (.cells #[.bool false,.bool p4,.slice a4 n4 c4,.slice b4 m4 d4] 71))
   have BB := hAB (.cells #[.bool false,.int .i64 ft,.bool p1,.slice a1 n1 c1,.slice b1 m1 d1,.int .i64 ll,.int .i64 rr,.bool ms,.bool p2,.slice a2 n2 c2,.slice b2 m2 d2,.bool p3,.slice a3 n3 c3,.slice b3 m3 d3] 61) (.cells #[.bool false,.bool p4,.slice a4 n4 c4,.slice b4 m4 d4] 71)
   go_enter Tryz.func64,Tryz.ntmps64
   go_wp2_with fail
   refine (qcmp_at _ _ r q L _ h2 h1 hL hM).mono ?_
   rintro e w1 ⟨rfl,b1⟩
   replace BB := BB.trans (b1.mono BB.size)
   clear b1 h1 h2
   have HC : Hid (decide (cmpQ r q < 0) = decide (r < q)) := cmpQ_lt10 r q
   generalize cmpQ r q = cq at *
   go_wp2
   go_ret
   exact ⟨by rw [HO.out,← HC.out]; rfl,BB⟩
  ·cases ms <;> (go_enter Tryz.func64,Tryz.ntmps64; go_wp2; go_ret; exact ⟨rfl,hAB _ _⟩)
 ·go_enter Tryz.func64,Tryz.ntmps64
  go_wp2
  go_ret
  exact ⟨rfl,hAB _ _⟩
def Quad10 (w : World) (b o : Nat) (x y z u : Value) : Prop := w.cell? ⟨b,o,none⟩ = some x ∧ w.cell? ⟨b,o + 1,none⟩ = some y ∧ w.cell? ⟨b,o + 2,none⟩ = some z ∧ w.cell? ⟨b,o + 3,none⟩ = some u
theorem Quad10.out {w : World} {b o : Nat} {x y z u : Value} (h : Quad10 w b o x y z u) : w.cell? ⟨b,o,none⟩ = some x ∧ w.cell? ⟨b,o + 1,none⟩ = some y ∧ w.cell? ⟨b,o + 2,none⟩ = some z ∧ w.cell? ⟨b,o + 3,none⟩ = some u := h
theorem Quad10.below {w w' : World} {b o : Nat} {x y z u : Value} (h : Quad10 w b o x y z u) (hb : Below w.heap.size w w') : Quad10 w' b o x y z u := by
 have hl := World.block_lt_of_cell? w _ h.1
 exact ⟨(hb.cell (p := ⟨b,o,none⟩) hl).trans h.1,(hb.cell (p := ⟨b,o + 1,none⟩) hl).trans h.2.1,(hb.cell (p := ⟨b,o + 2,none⟩) hl).trans h.2.2.1,(hb.cell (p := ⟨b,o + 3,none⟩) hl).trans h.2.2.2⟩
set_option maxRecDepth 100000 in
set_option maxHeartbeats 8000000 in
theorem child_at (d : Nd) (r : Nat → Cl) (vr : Value) (nr : Nat) (p1 p2 p3 : Bool) (a1 b1 a2 b2 a3 b3 : Option Addr) (n1 c1 m1 d1 n2 c2 m2 d2 n3 c3 m3 d3 : Nat) (L : Nat) (w : World) (hu : RatAt w (.agg #[.bool p1,.slice a1 n1 c1,.slice b1 m1 d1]) d.cut L) (hrow : CRow w vr nr r L) (hf : 0 ≤ d.feat ∧ d.feat < (nr : Int)) (hl : 0 ≤ d.left) (hr : 0 ≤ d.right) (hL : 1 ≤ L) (hM : L ≤ 100000) :
  Calls Tryz.prog 101 #[.agg #[.bool d.leaf,.int .i64 d.feat,.bool p1,.slice a1 n1 c1,.slice b1 m1 d1,.int .i64 d.left,.int .i64 d.right,.bool d.miss,.bool p2,.slice a2 n2 c2,.slice b2 m2 d2,.bool p3,.slice a3 n3 c3,.slice b3 m3 d3],vr] w fun e w' => e = .returned (.int .i64 (nxt d r : Int)) ∧ Below w.heap.size w w' := by
 obtain ⟨hf0,hf1⟩ := hf
 obtain ⟨fn,hfn⟩ : ∃ fn : Nat,d.feat = (fn : Int) := ⟨d.feat.toNat,by omega⟩
 have hfl : fn < nr := by omega
 obtain ⟨lr,hlr⟩ : ∃ x : Nat,d.left = (x : Int) := ⟨d.left.toNat,by omega⟩
 obtain ⟨rr,hrr⟩ : ∃ x : Nat,d.right = (x : Int) := ⟨d.right.toNat,by omega⟩
 have HO : Hid (nxt d r = if goL d (r fn) = true then lr else rr) := by
  show nxt d r = _
  unfold nxt
  rw [hfn,hlr,hrr]
  rfl
 rw [hfn,hlr,hrr]
 have g0 : (0 : Int) ≤ (fn : Int) := by omega
 have g1 : (fn : Int) < (nr : Int) := by omega
 clear hf0 hf1 hl hr hfn hlr hrr
 obtain ⟨lf,hlf⟩ : ∃ z,d.leaf = z := ⟨_,rfl⟩
 obtain ⟨ms,hms⟩ : ∃ z,d.miss = z := ⟨_,rfl⟩
 have CON := fun w (h1 : RatAt w (.agg #[.bool p1,.slice a1 n1 c1,.slice b1 m1 d1]) d.cut L) p4 a4 b4 n4 c4 m4 d4 h2 => rleft_at ⟨lf,(fn : Int),d.cut,(lr : Int),(rr : Int),ms,d.val,d.cov⟩ (r fn) p1 p2 p3 p4 a1 b1 a2 b2 a3 b3 a4 b4 n1 c1 m1 d1 n2 c2 m2 d2 n3 c3 m3 d3 n4 c4 m4 d4 L w h1 h2 hL hM
 have HG : Hid (goL ⟨lf,(fn : Int),d.cut,(lr : Int),(rr : Int),ms,d.val,d.cov⟩ (r fn) = goL d (r fn)) := by
  show goL _ _ = _
  rw [← hlf,← hms]
  rfl
 have HCON : Hid (∀ (w : World) (h1 : RatAt w (.agg #[.bool p1,.slice a1 n1 c1,.slice b1 m1 d1]) d.cut L) p4 a4 b4 n4 c4 m4 d4 (h2 : RatAt w (.agg #[.bool p4,.slice a4 n4 c4,.slice b4 m4 d4]) (r fn).val L),Calls Tryz.prog 64 #[.agg #[.bool lf,.int .i64 (fn : Int),.bool p1,.slice a1 n1 c1,.slice b1 m1 d1,.int .i64 (lr : Int),.int .i64 (rr : Int),.bool ms,.bool p2,.slice a2 n2 c2,.slice b2 m2 d2,.bool p3,.slice a3 n3 c3,.slice b3 m3 d3],.agg #[.bool (r fn).miss,.bool p4,.slice a4 n4 c4,.slice b4 m4 d4]] w fun e w' => e = .returned (.bool (goL ⟨lf,(fn : Int),d.cut,(lr : Int),(rr : Int),ms,d.val,d.cov⟩ (r fn))) ∧ Below w.heap.size w w') := CON
 rw [hlf,hms]
 clear CON hlf hms
 obtain ⟨ar,cr,rfl,hrc,hr63⟩ := hrow.open
 have BB : Below w.heap.size w w := Below.refl _ _
 obtain ⟨W0,hW0,hS0,hL0,VN,FN⟩ := V14.lay w 61 (.bool lf) (.int .i64 (fn : Int)) (.bool p1) (.slice a1 n1 c1) (.slice b1 m1 d1) (.int .i64 (lr : Int)) (.int .i64 (rr : Int)) (.bool ms) (.bool p2) (.slice a2 n2 c2) (.slice b2 m2 d2) (.bool p3) (.slice a3 n3 c3) (.slice b3 m3 d3)
 replace hu := hu.below hL0
 replace hrow := hrow.below hL0
 replace BB := BB.trans (hL0.mono BB.size)
 clear hL0
 go_enter Tryz.func101,Tryz.ntmps101
 go_wp2_with fail
 rw [← hW0]
 clear hW0 hS0 FN
 obtain ⟨b4,off4,c94,p4,a4,n4,c4,bb4,m4,d4,hv4,hcc4,hc64,X0,X1,X2,X3,r4⟩ := hrow.at hfl
 cases hv4
 obtain ⟨cm,hcm⟩ : ∃ z,(r fn).miss = z := ⟨_,rfl⟩
 rw [hcm] at X0 HCON
 clear hcm
 have QC : Quad10 W0 b4 (off4 + fn * 4) (.bool cm) (.bool p4) (.slice a4 n4 c4) (.slice bb4 m4 d4) := ⟨X0,X1,X2,X3⟩
 clear X0 X1 X2 X3 hrow
 have hDr : Below W0.heap.size W0 W0.drew := (Below.refl _ _).drew
 replace hu := hu.below hDr
 replace r4 := r4.below hDr
 replace QC := QC.below hDr
 replace VN := VN.below hDr
 replace BB := BB.trans (hDr.mono BB.size)
 clear hDr
 refine wp_region_held_drew (S := (fun w' => w'.cell? ⟨w.heap.size,0,none⟩ = some (.bool lf) ∧ w'.cell? ⟨w.heap.size,1,none⟩ = some (.int .i64 (fn : Int)) ∧ w'.cell? ⟨w.heap.size,2,none⟩ = some (.bool p1) ∧ w'.cell? ⟨w.heap.size,3,none⟩ = some (.slice a1 n1 c1) ∧ w'.cell? ⟨w.heap.size,4,none⟩ = some (.slice b1 m1 d1) ∧ w'.cell? ⟨w.heap.size,5,none⟩ = some (.int .i64 (lr : Int)) ∧ w'.cell? ⟨w.heap.size,6,none⟩ = some (.int .i64 (rr : Int)) ∧ w'.cell? ⟨w.heap.size,7,none⟩ = some (.bool ms) ∧ w'.cell? ⟨w.heap.size,8,none⟩ = some (.bool p2) ∧ w'.cell? ⟨w.heap.size,9,none⟩ = some (.slice a2 n2 c2) ∧ w'.cell? ⟨w.heap.size,10,none⟩ = some (.slice b2 m2 d2) ∧ w'.cell? ⟨w.heap.size,11,none⟩ = some (.bool p3) ∧ w'.cell? ⟨w.heap.size,12,none⟩ = some (.slice a3 n3 c3) ∧ w'.cell? ⟨w.heap.size,13,none⟩ = some (.slice b3 m3 d3) ∧ w'.cell? ⟨b4,off4 + fn * 4,none⟩ = some (.bool cm) ∧ w'.cell? ⟨b4,off4 + fn * 4 + 1,none⟩ = some (.bool p4) ∧ w'.cell? ⟨b4,off4 + fn * 4 + 2,none⟩ = some (.slice a4 n4 c4) ∧ w'.cell? ⟨b4,off4 + fn * 4 + 3,none⟩ = some (.slice bb4 m4 d4))) (by kernel_rfl) ?_ (fun hHeld => ?_)
 ·exact ⟨VN.c0,VN.c1,VN.c2,VN.c3,VN.c4,VN.c5,VN.c6,VN.c7,VN.c8,VN.c9,VN.c10,VN.c11,VN.c12,VN.c13,QC.out.1,QC.out.2.1,QC.out.2.2.1,QC.out.2.2.2⟩
 generalize W0.drew = W1 at *
 refine xT 0 (v := ?_) (hy := Or.inl ⟨by rfl,?_⟩) (h := ?_)
 rotate_left
 ·(intro w hSw; (try dsimp only at hSw); go_simp; (try with_reducible rfl))
 (try simp only [Act.put,xL4,xL5,xL6])
 refine xT 1 (v := ?_) (hy := Or.inl ⟨by rfl,?_⟩) (h := ?_)
 rotate_left
 ·(intro w hSw; (try dsimp only at hSw); go_simp; (try with_reducible rfl))
 (try simp only [Act.put,xL4,xL5,xL6])
 refine xT 2 (v := ?_) (hy := Or.inl ⟨by rfl,?_⟩) (h := ?_)
 rotate_left
 ·(intro w hSw; (try dsimp only at hSw); go_simp; (try with_reducible rfl))
 (try simp only [Act.put,xL4,xL5,xL6])
 refine xT 3 (v := ?_) (hy := Or.inl ⟨by rfl,?_⟩) (h := ?_)
 rotate_left
 ·(intro w hSw; (try dsimp only at hSw); go_simp; (try with_reducible rfl))
 (try simp only [Act.put,xL4,xL5,xL6])
 refine xT 4 (v := ?_) (hy := Or.inl ⟨by rfl,?_⟩) (h := ?_)
 rotate_left
 ·(intro w hSw; (try dsimp only at hSw); go_simp; (try with_reducible rfl))
 (try simp only [Act.put,xL4,xL5,xL6])
 refine xT 5 (v := ?_) (hy := Or.inl ⟨by rfl,?_⟩) (h := ?_)
 rotate_left
 ·(intro w hSw; (try dsimp only at hSw); go_simp; (try with_reducible rfl))
 (try simp only [Act.put,xL4,xL5,xL6])
 refine xR [6] (h := ?_)
 refine xN (h := fun K hK => ?_)
 go_simp
 refine (HCON.out _ hu _ _ _ _ _ _ _ r4).mono ?_
 rintro e w1 ⟨rfl,b1⟩
 rw [HG.out]
 obtain ⟨g,hg⟩ : ∃ g,goL d (r fn) = g := ⟨_,rfl⟩
 have HGG : Hid (goL d (r fn) = g) := hg
 rw [hg]
 clear hg HCON HG
 go_wp2_with fail
 replace hu := hu.below b1
 replace r4 := r4.below b1
 replace QC := QC.below b1
 replace VN := VN.below b1
 replace BB := BB.trans (b1.mono BB.size)
 clear b1
 refine hK.out _ _ ?_ (fun hH1 => ?_)
 ·exact ⟨VN.c0,VN.c1,VN.c2,VN.c3,VN.c4,VN.c5,VN.c6,VN.c7,VN.c8,VN.c9,VN.c10,VN.c11,VN.c12,VN.c13,QC.out.1,QC.out.2.1,QC.out.2.2.1,QC.out.2.2.2⟩
 clear hK K hHeld
 (try simp only [Act.put,xL4,xL5,xL6])
 refine wpAnyH_done (by kernel_rfl) ?_ _
 clear hH1
 obtain ⟨V_0,V_1,V_2,V_3,V_4,V_5,V_6,V_7,V_8,V_9,V_10,V_11,V_12,V_13⟩ := id VN
 cases g
 ·go_wp2
  go_ret
  exact ⟨by rw [HO.out,HGG.out]; rfl,BB⟩
 ·go_wp2
  go_ret
  exact ⟨by rw [HO.out,HGG.out]; rfl,BB⟩

theorem ChkOut.open {F : Int} {k : Nat} {N : Nat → Nat} {T : Nat → Nat → Nd} {u : Value} (h : ChkOut F k N T u) : ∃ a s d : Int,u = .agg #[.int .i64 a,.int .i64 0,.int .i64 s,.int .i64 d] ∧ (a = 0 → s = 0 ∧ d = 0) := by
 rcases h with ⟨_,rfl⟩ | ⟨_,x,h,rfl⟩
 ·exact ⟨1,0,0,rfl,fun h => by omega⟩
 ·rcases h with ⟨rfl,_⟩ | ⟨r,i,e,nd,hr,hi,rfl,h1,_,_⟩
  ·exact ⟨0,0,0,rfl,fun _ => ⟨rfl,rfl⟩⟩
  ·have := rl_err h1
   exact ⟨e,(i : Int),(nd : Int),rfl,fun h => by omega⟩
set_option maxRecDepth 100000 in
set_option maxHeartbeats 4000000 in
theorem ok_at (F : Int) (v : Value) (k : Nat) (N : Nat → Nat) (T : Nat → Nat → Nd) (L : Nat) (w : World) (hv : MRow w v k N T L) (ht : Tab w) (hL : 1 ≤ L) (hLM : L ≤ 30000) :
  Calls Tryz.prog 49 #[.agg #[.int .i64 F,v]] w fun e w' => ∃ a s d : Int,e = .returned (.bool (decide (a = 0))) ∧ ChkOut F k N T (.agg #[.int .i64 a,.int .i64 0,.int .i64 s,.int .i64 d]) ∧ Below w.heap.size w w' := by
 obtain ⟨ao,c,rfl,hnc,hc63⟩ := hv.open
 have BB : Below w.heap.size w w := Below.refl _ _
 obtain ⟨Wb0,hW0,hS0,hL0,VM⟩ := V2.lay w 24 (.int .i64 F) (.slice ao k c)
 replace hv := hv.below hL0
 replace ht := ht.below hL0
 replace BB := BB.trans (hL0.mono BB.size)
 clear hL0
 go_enter Tryz.func49,Tryz.ntmps49
 obtain ⟨VM_0,VM_1,VM_2,VM_3⟩ := id VM
 rw [hW0] at VM_0 VM_1 VM_2 VM_3
 go_wp2_with fail
 clear VM_0 VM_1 VM_2 VM_3
 rw [← hW0]
 clear hW0 hS0
 refine (check_at F _ k N T L _ hv ht hL hLM).mono ?_
 rintro e w1 ⟨u,rfl,HC,b1⟩
 replace hv := hv.below b1
 replace ht := ht.below b1
 replace VM := VM.below b1
 replace BB := BB.trans (b1.mono BB.size)
 clear b1
 have HCC : Hid (ChkOut F k N T u) := HC
 obtain ⟨a,s,d,rfl,hz⟩ := HC.open
 clear HC
 by_cases ha : a = 0
 ·obtain ⟨rfl,rfl⟩ := hz ha
  subst ha
  go_wp2
  go_ret
  exact ⟨0,0,0,rfl,HCC.out,BB⟩
 ·have hab : (a == 0) = false := by simp [ha]
  have HR : Hid (decide (a = 0) = false) := decide_eq_false ha
  clear hz
  go_wp2
  go_ret
  exact ⟨a,s,d,ret_bool (a := false) HR.out.symm,HCC.out,BB⟩

theorem one_cell (w : World) (u : Value) (t : TypeId) : RowAt 1 (w.alloc (.cells #[u] t)) (.slice (some ⟨w.heap.size,0,none⟩) 1 1) 1 (fun _ _ => u) := by
 refine ⟨_,_,rfl,Nat.le_refl _,by omega,fun _ => ⟨_,_,rfl,fun i hi j hj => ?_⟩⟩
 obtain rfl : i = 0 := by omega
 obtain rfl : j = 0 := by omega
 rw [cell_of_row _ _ _ _ _ _ (heap_alloc_new w (.cells #[u] t))]
 rfl
theorem one_tree {w : World} {v : Value} {n : Nat} {t : Nat → Nd} {L : Nat} (hv : TRow w v n t L) (ty : TypeId) : MRow (w.alloc (.cells #[v] ty)) (.slice (some ⟨w.heap.size,0,none⟩) 1 1) 1 (fun _ => n) (fun _ => t) L :=
 ⟨_,one_cell w v ty,fun _ _ => hv.below ((Below.refl _ _).alloc (Nat.le_refl _) _)⟩
set_option maxRecDepth 100000 in
set_option maxHeartbeats 4000000 in
theorem tree_at (F : Int) (v : Value) (n : Nat) (t : Nat → Nd) (L : Nat) (w : World) (hv : TRow w v n t L) (ht : Tab w) (hL : 1 ≤ L) (hLM : L ≤ 30000) :
  Calls Tryz.prog 25 #[v,.int .i64 F] w fun e w' => ∃ a s d : Int,e = .returned (.bool (decide (a = 0))) ∧ ChkOut F 1 (fun _ => n) (fun _ => t) (.agg #[.int .i64 a,.int .i64 0,.int .i64 s,.int .i64 d]) ∧ Below w.heap.size w w' := by
 obtain ⟨ao,c,rfl,hnc,hc63⟩ := hv.open
 have BB : Below w.heap.size w w := Below.refl _ _
 have M1 := one_tree hv 48
 have hA : Below w.heap.size w (w.alloc (.cells #[.slice ao n c] 48)) := (Below.refl _ _).alloc (Nat.le_refl _) _
 have ht1 := ht.below hA
 go_enter Tryz.func25,Tryz.ntmps25
 go_wp2_with fail
 refine (ok_at F _ 1 (fun _ => n) (fun _ => t) L _ M1 ht1 hL hLM).mono ?_
 rintro e w1 ⟨a,s,d,rfl,HC,b1⟩
 have HCC : Hid (ChkOut F 1 (fun _ => n) (fun _ => t) (.agg #[.int .i64 a,.int .i64 0,.int .i64 s,.int .i64 d])) := HC
 have BB1 := hA.trans (b1.mono hA.size)
 clear HC b1 M1 ht1 hA
 generalize hd : decide (a = 0) = dd
 have HD : Hid (decide (a = 0) = dd) := hd
 clear hd
 go_wp2
 go_ret
 exact ⟨a,s,d,by rw [HD.out]; rfl,HCC.out,BB1⟩

noncomputable def mayB (F : Int) (k : Nat) (N : Nat → Nat) (T : Nat → Nat → Nd) : Bool := @decide (ChkOut F k N T (.agg #[.int .i64 0,.int .i64 0,.int .i64 0,.int .i64 0])) (Classical.propDecidable _)
theorem mayB_of {F : Int} {k : Nat} {N : Nat → Nat} {T : Nat → Nat → Nd} {a s d : Int} (h : ChkOut F k N T (.agg #[.int .i64 a,.int .i64 0,.int .i64 s,.int .i64 d])) : decide (a = 0) = mayB F k N T := by
 unfold mayB
 by_cases e : a = 0
 ·subst e
  obtain ⟨a2,s2,d2,e2,hz⟩ := h.open
  injection e2 with e2
  simp only [Array.mk.injEq,List.cons.injEq,Value.int.injEq,true_and,and_true] at e2
  obtain ⟨e0,es,ed⟩ := e2
  obtain ⟨rfl,rfl⟩ := hz e0.symm
  subst es ed
  rw [decide_eq_true rfl]
  exact (@decide_eq_true _ (Classical.propDecidable _) h).symm
 ·rw [decide_eq_false e]
  refine (@decide_eq_false _ (Classical.propDecidable _) (fun h2 => e ?_)).symm
  have := h.one h2
  injection this with this
  simp only [Array.mk.injEq,List.cons.injEq,Value.int.injEq,true_and,and_true] at this
  exact this.1
theorem mayB_may {F : Int} {k : Nat} {N : Nat → Nat} {T : Nat → Nat → Nd} (h : mayB F k N T = true) : 0 ≤ F ∧ F ≤ 64 ∧ k ≤ 64 ∧ ∀ i,i < k → MayT F (T i) (N i) := by
 unfold mayB at h
 exact (@of_decide_eq_true _ (Classical.propDecidable _) h).may
theorem tree_may (F : Int) (v : Value) (n : Nat) (t : Nat → Nd) (L : Nat) (w : World) (hv : TRow w v n t L) (ht : Tab w) (hL : 1 ≤ L) (hLM : L ≤ 30000) :
  Calls Tryz.prog 25 #[v,.int .i64 F] w fun e w' => e = .returned (.bool (mayB F 1 (fun _ => n) (fun _ => t))) ∧ Below w.heap.size w w' := by
 refine (tree_at F v n t L w hv ht hL hLM).mono ?_
 rintro e w' ⟨a,s,d,rfl,h,hb⟩
 exact ⟨by rw [mayB_of h],hb⟩
theorem ok_may (F : Int) (v : Value) (k : Nat) (N : Nat → Nat) (T : Nat → Nat → Nd) (L : Nat) (w : World) (hv : MRow w v k N T L) (ht : Tab w) (hL : 1 ≤ L) (hLM : L ≤ 30000) :
  Calls Tryz.prog 49 #[.agg #[.int .i64 F,v]] w fun e w' => e = .returned (.bool (mayB F k N T)) ∧ Below w.heap.size w w' := by
 refine (ok_at F v k N T L w hv ht hL hLM).mono ?_
 rintro e w' ⟨a,s,d,rfl,h,hb⟩
 exact ⟨by rw [mayB_of h],hb⟩
def WInv (t : Nat → Nd) (n : Nat) (r : Nat → Cl) (zs : List Nat) (x : Nat) : Prop := x < n ∧ ∃ pre,zs = pre ++ [x] ∧ pre ++ way t n r x = way t n r 0
theorem WInv.start {t : Nat → Nd} {n : Nat} (r : Nat → Cl) (h : 0 < n) : WInv t n r [0] 0 := ⟨h,[],rfl,rfl⟩
theorem WInv.leaf {t : Nat → Nd} {n : Nat} {r : Nat → Cl} {zs : List Nat} {x : Nat} (h : WInv t n r zs x) (hl : (t x).leaf = true) : zs = way t n r 0 := by
 obtain ⟨_,pre,e,h⟩ := h
 rw [way_leaf hl] at h
 rw [e,h]
theorem WInv.split {F : Int} {t : Nat → Nd} {n : Nat} {r : Nat → Cl} {zs : List Nat} {x : Nat} (h : WInv t n r zs x) (hm : MayT F t n) (hl : (t x).leaf = false) : WInv t n r (zs ++ [nxt (t x) r]) (nxt (t x) r) := by
 obtain ⟨hx,pre,e,h⟩ := h
 rw [hm.way_split r hx hl] at h
 refine ⟨(hm.nxt hx hl r).1,pre ++ [x],by rw [e],?_⟩
 rw [← h,List.append_assoc]
 rfl
theorem WInv.len {F : Int} {t : Nat → Nd} {n : Nat} {r : Nat → Cl} {zs : List Nat} {x : Nat} (h : WInv t n r zs x) (hm : MayT F t n) : 1 ≤ zs.length ∧ zs.length ≤ n + 1 := by
 obtain ⟨hx,pre,e,h⟩ := h
 have h1 := hm.way_len r (x := 0) (by omega)
 rw [← h,List.length_append] at h1
 have := List.length_pos_iff.2 (way_ne t n r x)
 rw [e,List.length_append]
 simp
 omega
theorem int_app {B : Nat} {w : World} {g c k m : Nat} {zs ys : List Nat} (hz : zs.length = k) (hy : ys.length = m) (h : w.ownsRow B 3 1 (.slice (some ⟨g,0,none⟩) (k + m) c) (k + m) (zs.map (fun x : Nat => Value.int .i64 (x : Int)) ++ ys.map (fun x : Nat => Value.int .i64 (x : Int)))) : IntOwn B w (.slice (some ⟨g,0,none⟩) (k + m) c) (zs ++ ys) := by
 unfold IntOwn
 rw [List.length_append,List.map_append,hz,hy]
 exact h
theorem IntOwn.le {B B' : Nat} {w : World} {v : Value} {zs : List Nat} (h : IntOwn B w v zs) (hb : B' ≤ B) : IntOwn B' w v zs := by
 refine ⟨h.1,?_⟩
 rcases h.2 with h | ⟨g,c,cur,e,h1,h2⟩
 ·exact .inl h
 ·exact .inr ⟨g,c,cur,e,Nat.le_trans hb h1,h2⟩
set_option maxRecDepth 100000 in
set_option maxHeartbeats 8000000 in
theorem rway_yes (vt vr : Value) (n nr : Nat) (t : Nat → Nd) (r : Nat → Cl) (L : Nat) (w : World) (ht : TRow w vt n t L) (hr : CRow w vr nr r L) (hT : Tab w) (hL : 1 ≤ L) (hM : L ≤ 30000) (hB : mayB (nr : Int) 1 (fun _ => n) (fun _ => t) = true) (hm : MayT (nr : Int) t n) :
  Calls Tryz.prog 119 #[vt,vr] w fun e w' => ∃ u,e = .returned (.tuple #[u,.int .i64 0]) ∧ IntOwn w.heap.size w' u (way t n r 0) ∧ Below w.heap.size w w' := by
 obtain ⟨ao,ct,rfl,htc,ht63⟩ := ht.open
 obtain ⟨ar,cr,rfl,hrc,hr63⟩ := hr.open
 have HR0 : Hid (CRow w (.slice ar nr cr) nr r L) := hr
 have HMT : Hid (MayT (nr : Int) t n) := hm
 have hn255 := hm.few
 have HI0 : Hid (WInv t n r [0] 0) := WInv.start r hm.pos
 clear hm
 go_enter Tryz.func119,Tryz.ntmps119
 go_wp2_with fail
 refine (tree_may (nr : Int) _ n t L _ ht hT hL hM).mono ?_
 rintro e w1 ⟨rfl,b1⟩
 rw [hB]
 have HT0 : Hid (TRow w (.slice ao n ct) n t L) := ht
 have hA0 := int_first w1 0 w.heap.size b1.size
 have hB0 : Below w.heap.size w (w1.alloc (.cells #[.int .i64 0] 3)) := b1.alloc b1.size _
 clear hB ht hr hT b1
 go_wp2
 go_loopw [6,7] (fun vo va wr => ∃ (zs : List Nat) (x : Nat),va = .int .i64 (x : Int) ∧ IntOwn w.heap.size wr vo zs ∧ Hid (WInv t n r zs x) ∧ Below w.heap.size w wr) (fun _ va _ => n + 1 - lvl t n (intOf va).toNat)
 case atStart => exact ⟨[0],0,rfl,hA0,HI0,hB0⟩
 case round =>
  clear hA0 hB0 HI0
  obtain ⟨zs,x,rfl,hO,HI,BB⟩ := hrel
  have hxn : x < n := HI.out.1
  have hlen := HI.out.len HMT.out
  obtain ⟨go,co,rfl,hoc⟩ := hO.open (by omega)
  have g0 : (0 : Int) ≤ (x : Int) := by omega
  have g1 : (x : Int) < (n : Int) := by omega
  obtain ⟨b,off,cc,p1,a1,n1,c1,b1,m1,d1,p2,a2,n2,c2,b2,m2,d2,p3,a3,n3,c3,b3,m3,d3,hvv,hcc,hc6,NN,r1,r2,r3,i1,i2,i3⟩ := (HT0.out.below BB).at hxn
  cases hvv
  obtain ⟨lf,hlf⟩ : ∃ z,(t x).leaf = z := ⟨_,rfl⟩
  obtain ⟨k,hk⟩ : ∃ k,zs.length = k := ⟨_,rfl⟩
  rw [hk] at hlen hoc ⊢
  cases lf
  ·have HN := HMT.out.named x hxn hlf
   have HF := HMT.out.feat x hxn hlf
   have hrw := HR0.out.below BB
   have HI2 : Hid (WInv t n r (zs ++ [nxt (t x) r]) (nxt (t x) r)) := HI.out.split HMT.out hlf
   have HLV : Hid (lvl t n (nxt (t x) r) = lvl t n x + 1) := (HMT.out.nxt hxn hlf r).2
   have HLX : Hid (lvl t n x ≤ n) := HMT.out.lvl_le hxn
   have HCH : Hid (∀ w',RatAt w' (.agg #[.bool p1,.slice a1 n1 c1,.slice b1 m1 d1]) (t x).cut L → CRow w' (.slice ar nr cr) nr r L → Calls Tryz.prog 101 #[.agg #[.bool false,.int .i64 (t x).feat,.bool p1,.slice a1 n1 c1,.slice b1 m1 d1,.int .i64 (t x).left,.int .i64 (t x).right,.bool (t x).miss,.bool p2,.slice a2 n2 c2,.slice b2 m2 d2,.bool p3,.slice a3 n3 c3,.slice b3 m3 d3],.slice ar nr cr] w' fun e w'' => e = .returned (.int .i64 (nxt (t x) r : Int)) ∧ Below w'.heap.size w' w'') := fun w' h1 h2 => by
    have := child_at (t x) r _ nr p1 p2 p3 a1 b1 a2 b2 a3 b3 n1 c1 m1 d1 n2 c2 m2 d2 n3 c3 m3 d3 L w' h1 h2 HF (by omega) (by omega) hL (by omega)
    rw [hlf] at this
    exact this
   rw [hlf] at NN
   clear hlf HN HF HI
   obtain ⟨N_0,N_1,N_2,N_3,N_4,N_5,N_6,N_7,N_8,N_9,N_10,N_11,N_12,N_13⟩ := NN
   go_wp2_with fail
   refine (HCH.out _ r1 hrw).mono ?_
   rintro e w2 ⟨rfl,b9⟩
   have hO2 : IntOwn w.heap.size w2 _ zs := hO.later b9
   have BB2 := BB.trans (b9.mono BB.size)
   clear N_0 N_1 N_2 N_3 N_4 N_5 N_6 N_7 N_8 N_9 N_10 N_11 N_12 N_13 HCH hrw r1 r2 r3 i1 i2 i3 hO BB b9
   obtain ⟨y,hy⟩ : ∃ y,nxt (t x) r = y := ⟨_,rfl⟩
   rw [hy] at HI2 HLV ⊢
   clear hy
   have hA3 : Below w2.heap.size w2 (w2.alloc (.cells #[.int .i64 (y : Int)] 3)) := (Below.refl _ _).alloc (Nat.le_refl _) _
   have hO3 := hO2.later hA3
   have BB3 := BB2.trans (hA3.mono BB2.size)
   have hsz3 := BB3.size
   rw [hk] at hO3
   have hO4 := int_len hk hO3
   have HK : Hid (zs.length = k) := hk
   clear hk hO2 BB2 hA3
   go_wp2_with (at_builtin; refine wpList_append_pureM (Q' := fun _ => False) rfl _ _ _ rfl w.heap.size 3 (.int .i64 0) 1 8 Tryz.underlying55 info_int rfl (by omega) (.slice (some ⟨go,0,none⟩) k co) rfl k (zs.map (fun x : Nat => Value.int .i64 (x : Int))) hO4 (fun _ _ _ _ _ h => h) ⟨w2.heap.size,0,none⟩ 1 1 (by omega) (by omega) rfl [.int .i64 (y : Int)] rfl (news_block (heap_alloc_new _ _)) (by simp [Value.oneCell']) (by simp) (by simp) (by omega) (by omega) hsz3 ?_; intro gn cn w3 hO5 hg5 hat5 _ _; have BB5 : Below w.heap.size w w3 := below_grownB BB3 hg5 BB3.size (fun g h => (hO3.both g h).1); clear hg5 hat5 hO3 hO4 BB3)
   go_roundw
   case rel => exact ⟨zs ++ [y],y,rfl,int_app (ys := [y]) HK.out rfl hO5,HI2,BB5⟩
   case measure =>
    have h1 := HLV.out
    have h2 := HLX.out
    simp [intOf]
    omega
  ·have HW : Hid (zs = way t n r 0) := HI.out.leaf hlf
   rw [hlf] at NN
   clear hlf HI r1 r2 r3 i1 i2 i3
   have HK : Hid (zs.length = k) := hk
   rw [hk] at hO
   clear hk
   obtain ⟨N_0,N_1,N_2,N_3,N_4,N_5,N_6,N_7,N_8,N_9,N_10,N_11,N_12,N_13⟩ := NN
   go_wp2
   go_ret2
   exact ⟨_,rfl,HW.out ▸ hO,BB⟩



def VArr (w : World) (g k i : Nat) (q : Nat → Rat) : Prop := ∃ el,Arr3 w g k el ∧ ∀ j,j < i → RepQ w (elv el j) (q j)
theorem VArr.below {w w' : World} {g k i : Nat} {q : Nat → Rat} (h : VArr w g k i q) (hb : Below w.heap.size w w') : VArr w' g k i q := let ⟨el,a,b⟩ := h; ⟨el,a.below hb,fun j hj => (b j hj).below hb⟩
theorem VArr.put {w : World} {g k i : Nat} {q : Nat → Rat} (h : VArr w g k i q) (hi : i < k) {p : Bool} {a b : Option Addr} {n c m d : Nat} (hr : RepQ w (.agg #[.bool p,.slice a n c,.slice b m d]) (q i)) : ∃ u0 u1 u2,w.cell? ⟨g,i * 3,none⟩ = some u0 ∧ w.cell? ⟨g,i * 3 + 1,none⟩ = some u1 ∧ w.cell? ⟨g,i * 3 + 2,none⟩ = some u2 ∧ w.frozen? ⟨g,i * 3,none⟩ = false ∧ w.frozen? ⟨g,i * 3 + 1,none⟩ = false ∧ w.frozen? ⟨g,i * 3 + 2,none⟩ = false ∧
  VArr (((w.setCell ⟨g,i * 3,none⟩ (.bool p)).setCell ⟨g,i * 3 + 1,none⟩ (.slice a n c)).setCell ⟨g,i * 3 + 2,none⟩ (.slice b m d)) g k (i + 1) q := by
 obtain ⟨el,A,R⟩ := h
 obtain ⟨A2,K2⟩ := A.set i hi (.bool p) (.slice a n c) (.slice b m d) (num_bool _) (num_slice _ _ _) (num_slice _ _ _)
 refine ⟨_,_,_,A.1 i hi 0 (by omega),A.1 i hi 1 (by omega),A.1 i hi 2 (by omega),A.2.1 i hi 0 (by omega),A.2.1 i hi 1 (by omega),A.2.1 i hi 2 (by omega),_,A2,fun j hj => ?_⟩
 by_cases e : j = i
 ·subst e
  have := hr.keep K2
  simpa [elv,upd3] using this
 ·have := (R j (by omega)).keep K2
  simp only [elv,upd3_other el i j _ _ _ e] at *
  exact this
theorem VArr.row {w : World} {g k : Nat} {q : Nat → Rat} (h : VArr w g k k q) (hk : k ≤ 100000) : FRow w (.slice (some ⟨g,0,none⟩) k k) k q :=
 let ⟨el,a,b⟩ := h; ⟨el,a.row k k (Nat.le_refl _) (Nat.le_refl _) (by omega),b⟩
noncomputable def whyI (F : Int) (k : Nat) (N : Nat → Nat) (T : Nat → Nat → Nd) (nr : Nat) : Int := if mayB F k N T = true then (if (nr : Int) = F then 0 else 14) else 1
theorem whyI_no {F : Int} {k : Nat} {N : Nat → Nat} {T : Nat → Nat → Nd} {nr : Nat} (h : mayB F k N T = false) : whyI F k N T nr = 1 := by unfold whyI; rw [h]; rfl
theorem whyI_yes {F : Int} {k : Nat} {N : Nat → Nat} {T : Nat → Nat → Nd} {nr : Nat} (h : mayB F k N T = true) (h2 : (nr : Int) = F) : whyI F k N T nr = 0 := by unfold whyI; rw [if_pos h,if_pos h2]
set_option maxRecDepth 20000 in
set_option maxHeartbeats 2000000 in
theorem rlength_at (F : Int) (a ar : Option Addr) (k c nr cr : Nat) (w : World) :
  Calls Tryz.prog 87 #[.agg #[.int .i64 F,.slice a k c],.slice ar nr cr] w fun e w' => e = .returned (.int .i64 (if (nr : Int) = F then 0 else 14)) ∧ Below w.heap.size w w' := by
 have hA : Below w.heap.size w (w.alloc (.cells #[.int .i64 F,.slice a k c] 24)) := (Below.refl _ _).alloc (Nat.le_refl _) _
 by_cases h : (nr : Int) = F
 ·rw [if_pos h]
  have g2 : ((nr : Int) != F) = false := by simpa using h
  have g3 : decide ((nr : Int) = F) = true := decide_eq_true h
  go_enter Tryz.func87,Tryz.ntmps87
  go_wp2
  go_ret
  exact ⟨rfl,hA⟩
 ·rw [if_neg h]
  have g2 : ((nr : Int) != F) = true := by simpa using h
  have g3 : decide ((nr : Int) = F) = false := decide_eq_false h
  go_enter Tryz.func87,Tryz.ntmps87
  go_wp2
  go_ret
  exact ⟨rfl,hA⟩
set_option maxRecDepth 100000 in
set_option maxHeartbeats 4000000 in
theorem rfits_at (F : Int) (vm vr : Value) (k nr : Nat) (N : Nat → Nat) (T : Nat → Nat → Nd) (r : Nat → Cl) (L : Nat) (w : World) (hM : MRow w vm k N T L) (hR : CRow w vr nr r L) (hT : Tab w) (hL : 1 ≤ L) (hLM : L ≤ 30000) :
  Calls Tryz.prog 46 #[.agg #[.int .i64 F,vm],vr] w fun e w' => e = .returned (.int .i64 (whyI F k N T nr)) ∧ Below w.heap.size w w' := by
 obtain ⟨ao,c,rfl,hnc,hc63⟩ := hM.open
 obtain ⟨ar,cr,rfl,hrc,hr63⟩ := hR.open
 obtain ⟨W0,hW0,hS0,hL0,VM⟩ := V2.lay w 24 (.int .i64 F) (.slice ao k c)
 have BB : Below w.heap.size w W0 := hL0
 have hM1 := hM.below hL0
 have hT1 := hT.below hL0
 clear hL0
 go_enter Tryz.func46,Tryz.ntmps46
 obtain ⟨VM_0,VM_1,VM_2,VM_3⟩ := id VM
 rw [hW0] at VM_0 VM_1 VM_2 VM_3
 go_wp2_with fail
 clear VM_0 VM_1 VM_2 VM_3
 rw [← hW0]
 clear hW0 hS0
 refine (ok_may F _ k N T L _ hM1 hT1 hL hLM).mono ?_
 rintro e w1 ⟨rfl,b1⟩
 replace VM := VM.below b1
 replace BB := BB.trans (b1.mono BB.size)
 clear b1 hM1 hT1
 obtain ⟨VM_0,VM_1,VM_2,VM_3⟩ := id VM
 obtain ⟨mb,hmb⟩ : ∃ mb,mayB F k N T = mb := ⟨_,rfl⟩
 rw [hmb]
 have HB : Hid (mayB F k N T = mb) := hmb
 clear hmb
 cases mb
 ·go_wp2
  go_ret
  exact ⟨by rw [whyI_no HB.out]; rfl,BB⟩
 ·go_wp2_with fail
  refine (rlength_at F _ _ k c nr cr _).mono ?_
  rintro e w2 ⟨rfl,b2⟩
  replace BB := BB.trans (b2.mono BB.size)
  clear b2
  have HW : Hid (whyI F k N T nr = if (nr : Int) = F then 0 else 14) := by show whyI _ _ _ _ _ = _; unfold whyI; rw [if_pos HB.out]
  generalize (if (nr : Int) = F then (0 : Int) else 14) = x at *
  go_wp2
  go_ret
  exact ⟨by rw [HW.out]; rfl,BB⟩

structure Cel10 (w : World) (b o : Nat) (x : Value) : Prop where
 cell : w.cell? ⟨b,o,none⟩ = some x
theorem Cel10.lt {w : World} {b o : Nat} {x : Value} (h : Cel10 w b o x) : b < w.heap.size := World.block_lt_of_cell? _ _ h.cell
theorem Cel10.below {w w' : World} {b o : Nat} {x : Value} (h : Cel10 w b o x) (hb : Below w.heap.size w w') : Cel10 w' b o x := ⟨(hb.cell (p := ⟨b,o,none⟩) h.lt).trans h.cell⟩
theorem Cel10.from {B : Nat} {w w' : World} {b o : Nat} {x : Value} (h : w.cell? ⟨b,o,none⟩ = some x) (hb : Below w.heap.size w w') : Cel10 w' b o x := ⟨(hb.cell (p := ⟨b,o,none⟩) (World.block_lt_of_cell? _ _ h)).trans h⟩
theorem Cel10.other3 {w : World} {b o R : Nat} {x : Value} (h : Cel10 w b o x) (hne : b ≠ R) (u0 u1 u2 : Value) : Cel10 (((w.setCell ⟨R,0,none⟩ u0).setCell ⟨R,1,none⟩ u1).setCell ⟨R,2,none⟩ u2) b o x :=
 ⟨by rw [World.cell?_setCell_other _ _ _ _ (fun e => by injection e; omega),World.cell?_setCell_other _ _ _ _ (fun e => by injection e; omega),World.cell?_setCell_other _ _ _ _ (fun e => by injection e; omega)]; exact h.cell⟩

theorem IntOwn.below {B : Nat} {w w' : World} {v : Value} {zs : List Nat} (h : IntOwn B w v zs) (hb : Below w.heap.size w w') : IntOwn B w' v zs := h.later hb
theorem V3.low11 {B R : Nat} {W W' : World} {x y z : Value} (h : V3 W R x y z) (hb : Below B W W') (hlt : R < B) : V3 W' R x y z :=
 ⟨(hb.cell (p := ⟨R,0,none⟩) hlt).trans h.1,(hb.cell (p := ⟨R,1,none⟩) hlt).trans h.2.1,(hb.cell (p := ⟨R,2,none⟩) hlt).trans h.2.2.1,(hb.frozen (p := ⟨R,0,none⟩) hlt).trans h.2.2.2.1,(hb.frozen (p := ⟨R,1,none⟩) hlt).trans h.2.2.2.2.1,(hb.frozen (p := ⟨R,2,none⟩) hlt).trans h.2.2.2.2.2⟩
theorem int_more1 {B : Nat} {w : World} {g c x k : Nat} {zs : List Nat} (hk : zs.length = k) (h : w.ownsRow B 3 1 (.slice (some ⟨g,0,none⟩) (k + 1) c) (k + 1) (zs.map (fun x : Nat => Value.int .i64 (x : Int)) ++ [.int .i64 (x : Int)])) : IntOwn B w (.slice (some ⟨g,0,none⟩) (k + 1) c) (zs ++ [x]) := by
 unfold IntOwn
 rw [List.map_append,List.length_append,hk]
 exact h
theorem news_v1 {w : World} {R : Nat} {x : Value} (h : V1 w R x) : ∀ j u,[x][j]? = some u → w.cell? ((⟨R,0,none⟩ : Addr).add j) = some u := by
 intro j u hu
 match j,hu with
 | 0,hu => simp at hu; subst hu; exact h.1
 | k + 1,hu => simp at hu
def Blt11 (B : Nat) (w : World) (v x : Value) : Prop := ∃ R,v = .slice (some ⟨R,0,none⟩) 1 1 ∧ B ≤ R ∧ V1 w R x
theorem Blt11.below {B : Nat} {w w' : World} {v x : Value} (h : Blt11 B w v x) (hb : Below w.heap.size w w') : Blt11 B w' v x := let ⟨R,e,hB,hv⟩ := h; ⟨R,e,hB,hv.below hb⟩
theorem info_node11 : (Tryz.prog.info? 61).map (·.size) = some 14 := by kernel_rfl
structure OnW (w : World) (v : Value) (n : Nat) (t : Nat → Nd) (r : Nat → Cl) (s : Nat) : Prop where
 form : ∃ a k c,v = .slice a k c
 at' : ∀ x,x < n → (t x).leaf = false → inS s (t x).feat.toNat = true → ∃ b off c,v = .slice (some ⟨b,off,none⟩) n c ∧ n ≤ c ∧ w.cell? ⟨b,off + x,none⟩ = some (.int .i64 (nxt (t x) r : Int))
theorem OnW.below {w w' : World} {v : Value} {n : Nat} {t : Nat → Nd} {r : Nat → Cl} {s : Nat} (h : OnW w v n t r s) (hb : Below w.heap.size w w') : OnW w' v n t r s :=
 ⟨h.form,fun x hx hl hi => by
  obtain ⟨b,off,c,e,hc,hcl⟩ := h.at' x hx hl hi
  exact ⟨b,off,c,e,hc,(hb.cell (p := ⟨b,off + x,none⟩) (World.block_lt_of_cell? _ _ hcl)).trans hcl⟩⟩
theorem OnW.none (w : World) (v : Value) (n : Nat) (t : Nat → Nd) (r : Nat → Cl) (h : ∃ a k c,v = .slice a k c) : OnW w v n t r 0 := ⟨h,fun x _ _ hi => by rw [inS_none] at hi; cases hi⟩
set_option maxRecDepth 100000 in
set_option maxHeartbeats 16000000 in
theorem counted_at (F : Int) (va vb vc : Value) (n : Nat) (t : Nat → Nd) (r : Nat → Cl) (s L : Nat) (w : World) (hT : TRow w va n t L) (hO : OnW w vb n t r s) (hC : ∃ a k c,vc = .slice a k c) (hm : MayT F t n) (hF : F ≤ 64) (hs : s < 18446744073709551616) :
  Calls Tryz.prog 89 #[.agg #[va,vb,vc],.int .u64 (s : Int)] w fun e w' => ∃ u outs,e = .returned u ∧ IntOwn w.heap.size w' u outs ∧ QInv t n r s outs outs.length ∧ Below w.heap.size w w' := by
 obtain ⟨at_,ct,rfl,htc,ht63⟩ := hT.open
 obtain ⟨ao,ko,co_,rfl⟩ := hO.form
 obtain ⟨ac,kc_,cc_,rfl⟩ := hC
 have BB : Below w.heap.size w w := Below.refl _ _
 have hn0 : 0 < n := hm.pos
 have hn255 := hm.few
 obtain ⟨i0,hi0,hsz0⟩ : ∃ i0,Tryz.prog.info? 61 = some i0 ∧ i0.size = 14 := by
  have := info_node11
  cases e : Tryz.prog.info? 61 with
  | none => rw [e] at this; cases this
  | some i0 => rw [e] at this; exact ⟨i0,rfl,by simpa using this⟩
 have HI0 : Hid (Tryz.prog.info? 61 = some i0 ∧ i0.size = 14) := ⟨hi0,hsz0⟩
 clear hi0 hsz0
 obtain ⟨Wb0,hW0,hS0,hL0,VV⟩ := V3.lay w 90 (.slice at_ n ct) (.slice ao ko co_) (.slice ac kc_ cc_)
 have HT0 : Hid (TRow w (.slice at_ n ct) n t L) := hT
 have HOW : Hid (OnW w (.slice ao ko co_) n t r s) := hO
 have HM : Hid (MayT F t n) := hm
 replace BB := BB.trans (hL0.mono BB.size)
 have hF0 := int_first Wb0 0 (w.heap.size + 1) (by omega)
 have hA0 : Below Wb0.heap.size Wb0 (Wb0.alloc (.cells #[.int .i64 0] 3)) := (Below.refl _ _).alloc (Nat.le_refl _) _
 replace VV := VV.below hA0
 replace BB := BB.trans (hA0.mono BB.size)
 have HQ0 : Hid (QInv t n r s [0] 0) := QInv.start hn0
 clear hL0 hA0 hT hO hm
 go_enter Tryz.func89,Tryz.ntmps89
 go_wp2
 rw [← hW0]
 have hF1 : IntOwn (w.heap.size + 1) (Wb0.alloc (.cells #[.int .i64 0] 3)) (.slice (some ⟨w.heap.size + 1,0,none⟩) 1 1) [0] := by rw [hS0] at hF0; exact hF0
 clear hF0 hW0 hS0
 generalize Wb0.alloc (.cells #[.int .i64 0] 3) = W1 at *
 go_loopw [5,6] (fun vo vk wr => ∃ (outs : List Nat) (k : Nat),vk = .int .i64 (k : Int) ∧ IntOwn (w.heap.size + 1) wr vo outs ∧ Hid (QInv t n r s outs k) ∧ V3 wr w.heap.size (.slice at_ n ct) (.slice ao ko co_) (.slice ac kc_ cc_) ∧ Below w.heap.size w wr) (fun _ vk _ => n + 1 - (intOf vk).toNat)
 case atStart => exact ⟨[0],0,rfl,hF1,HQ0,VV,BB⟩
 case round =>
  clear hF1 HQ0 VV BB
  obtain ⟨outs,k,rfl,hO1,HQ,VV,BB⟩ := hrel
  have hle := HQ.out.len
  have hkl := HQ.out.le
  have hne : 0 < outs.length := (List.getElem?_eq_some_iff.1 HQ.out.root).1
  obtain ⟨go,co,rfl,hoc⟩ := hO1.open hne
  have HC : Hid (∀ j x : Nat,outs[j]? = some x → wr.cell? ⟨go,j,none⟩ = some (.int .i64 (x : Int))) := fun j x hj => hO1.cell rfl hj
  obtain ⟨len,hlen⟩ : ∃ len,outs.length = len := ⟨_,rfl⟩
  have HLN : Hid (outs.length = len) := hlen
  have hgo : w.heap.size + 1 ≤ go := (hO1.both go rfl).1
  rw [hlen] at hle hkl hoc hne hO1 ⊢
  clear hlen
  by_cases hlt : k < len
  ·have g1 : (k : Int) < (len : Int) := by omega
   have g0 : (0 : Int) ≤ (k : Int) := by omega
   obtain ⟨x,hx⟩ : ∃ x,outs[k]? = some x := ⟨_,List.getElem?_eq_getElem (by have := HLN.out; omega)⟩
   have hxn : x < n := HQ.out.small x (List.mem_of_getElem? hx)
   have XO : Cel10 wr go k (.int .i64 (x : Int)) := ⟨HC.out k x hx⟩
   have HQ2 : Hid (QInv t n r s (outs ++ kidS t r s x) (k + 1)) := HQ.out.step HM.out hx
   have hq2 := HQ2.out.len
   rw [List.length_append,HLN.out] at hq2
   have f0 : (0 : Int) ≤ (x : Int) := by omega
   have f1 : (x : Int) < (n : Int) := by omega
   obtain ⟨b,off,cc,p1,a1,n1,c1,b1,m1,d1,p2,a2,n2,c2,b2,m2,d2,p3,a3,n3,c3,b3,m3,d3,hvv,hcc,hc6,NN,r1,r2,r3,i1,i2,i3⟩ := (HT0.out.below BB).at hxn
   cases hvv
   have HKS : Hid (kidS t r s x = if (t x).leaf = true then [] else if inS s (t x).feat.toNat = true then [nxt (t x) r] else [kl t x,kr t x]) := rfl
   have HKD : Hid ((t x).leaf = false → (t x).left = (kl t x : Int) ∧ (t x).right = (kr t x : Int)) := fun h => ⟨(HM.out.kids hxn h).1,(HM.out.kids hxn h).2.1⟩
   have HFT : Hid ((t x).leaf = false → 0 ≤ (t x).feat ∧ (t x).feat < F) := HM.out.feat x hxn
   have HON : Hid (∀ w',Below w.heap.size w w' → (t x).leaf = false → inS s (t x).feat.toNat = true → ∃ b off c,Value.slice ao ko co_ = .slice (some ⟨b,off,none⟩) n c ∧ n ≤ c ∧ w'.cell? ⟨b,off + x,none⟩ = some (.int .i64 (nxt (t x) r : Int))) := fun w' hb => (HOW.out.below hb).at' x hxn
   clear hx HC HQ r1 r2 r3 i1 i2 i3
   generalize kidS t r s x = ks at *
   generalize nxt (t x) r = nx at *
   generalize kl t x = kx at *
   generalize kr t x = ky at *
   obtain ⟨lf,hlf⟩ : ∃ z,(t x).leaf = z := ⟨_,rfl⟩
   obtain ⟨ft,hft⟩ : ∃ z,(t x).feat = z := ⟨_,rfl⟩
   obtain ⟨ll,hll⟩ : ∃ z,(t x).left = z := ⟨_,rfl⟩
   obtain ⟨rr,hrr⟩ : ∃ z,(t x).right = z := ⟨_,rfl⟩
   obtain ⟨ms,hms⟩ : ∃ z,(t x).miss = z := ⟨_,rfl⟩
   rw [hlf,hft] at HKS HON
   rw [hlf,hll,hrr] at HKD
   rw [hlf,hft] at HFT
   rw [hlf,hft,hll,hrr,hms] at NN
   clear hlf hft hll hrr hms
   have HO1 := hO1
   go_wp2_with fail
   have hDr : Below wr.heap.size wr wr.drew := (Below.refl _ _).drew
   replace VV := VV.below hDr
   replace XO := XO.below hDr
   replace NN := NN.below hDr
   replace hO1 := hO1.below hDr
   replace BB := BB.trans (hDr.mono BB.size)
   clear hDr
   refine wp_region_held_drew (S := (fun w' => w'.cell? ⟨w.heap.size,0,none⟩ = some (.slice (some ⟨b,off,none⟩) n ct) ∧ w'.cell? ⟨go,k,none⟩ = some (.int .i64 (x : Int)) ∧ w'.cell? ⟨b,off + x * 14,none⟩ = some (.bool lf) ∧ w'.cell? ⟨b,off + x * 14 + 1,none⟩ = some (.int .i64 ft) ∧ w'.cell? ⟨b,off + x * 14 + 2,none⟩ = some (.bool p1) ∧ w'.cell? ⟨b,off + x * 14 + 3,none⟩ = some (.slice a1 n1 c1) ∧ w'.cell? ⟨b,off + x * 14 + 4,none⟩ = some (.slice b1 m1 d1) ∧ w'.cell? ⟨b,off + x * 14 + 5,none⟩ = some (.int .i64 ll) ∧ w'.cell? ⟨b,off + x * 14 + 6,none⟩ = some (.int .i64 rr) ∧ w'.cell? ⟨b,off + x * 14 + 7,none⟩ = some (.bool ms) ∧ w'.cell? ⟨b,off + x * 14 + 8,none⟩ = some (.bool p2) ∧ w'.cell? ⟨b,off + x * 14 + 9,none⟩ = some (.slice a2 n2 c2) ∧ w'.cell? ⟨b,off + x * 14 + 10,none⟩ = some (.slice b2 m2 d2) ∧ w'.cell? ⟨b,off + x * 14 + 11,none⟩ = some (.bool p3) ∧ w'.cell? ⟨b,off + x * 14 + 12,none⟩ = some (.slice a3 n3 c3) ∧ w'.cell? ⟨b,off + x * 14 + 13,none⟩ = some (.slice b3 m3 d3))) (by kernel_rfl) ?_ (fun hHeld => ?_)
   ·exact ⟨VV.1,XO.cell,NN.c0,NN.c1,NN.c2,NN.c3,NN.c4,NN.c5,NN.c6,NN.c7,NN.c8,NN.c9,NN.c10,NN.c11,NN.c12,NN.c13⟩
   generalize wr.drew = W1 at *
   refine xT 0 (v := ?_) (hy := Or.inl ⟨by rfl,?_⟩) (h := ?_)
   rotate_left
   ·(intro w hSw; (try dsimp only at hSw); go_simp; (try with_reducible rfl))
   (try simp only [Act.put,xL4,xL5,xL6])
   refine xT 1 (v := ?_) (hy := Or.inl ⟨by rfl,?_⟩) (h := ?_)
   rotate_left
   ·(intro w hSw; (try dsimp only at hSw); go_simp; (try with_reducible rfl))
   (try simp only [Act.put,xL4,xL5,xL6])
   refine xT 2 (v := ?_) (hy := Or.inl ⟨by rfl,?_⟩) (h := ?_)
   rotate_left
   ·(intro w hSw; (try dsimp only at hSw); go_simp; (try with_reducible rfl))
   (try simp only [Act.put,xL4,xL5,xL6])
   refine xT 3 (v := ?_) (hy := Or.inl ⟨by rfl,?_⟩) (h := ?_)
   rotate_left
   ·(intro w hSw; (try dsimp only at hSw); go_simp; (try with_reducible rfl))
   (try simp only [Act.put,xL4,xL5,xL6])
   refine xT 4 (v := ?_) (hy := Or.inl ⟨by rfl,?_⟩) (h := ?_)
   rotate_left
   ·(intro w hSw; (try dsimp only at hSw); go_simp; (try with_reducible rfl))
   (try simp only [Act.put,xL4,xL5,xL6])
   refine xT 5 (v := ?_) (hy := Or.inl ⟨by rfl,?_⟩) (h := ?_)
   rotate_left
   ·(intro w hSw; (try dsimp only at hSw); go_simp; (try with_reducible rfl))
   (try simp only [Act.put,xL4,xL5,xL6])
   refine xT 6 (v := ?_) (hy := Or.inl ⟨by rfl,?_⟩) (h := ?_)
   rotate_left
   ·(intro w hSw; (try dsimp only at hSw); go_simp; (try with_reducible rfl))
   (try simp only [Act.put,xL4,xL5,xL6])
   refine xT 7 (v := ?_) (hy := Or.inl ⟨by rfl,?_⟩) (h := ?_)
   rotate_left
   ·(intro w hSw; (try dsimp only at hSw); go_simp; (try with_reducible rfl))
   (try simp only [Act.put,xL4,xL5,xL6])
   refine xR [8] (h := ?_)
   refine xN (h := fun K hK => ?_)
   go_simp
   have hAl : Below W1.heap.size W1 (W1.alloc (.cells #[.bool false,.int .i64 0,.bool false,.slice none 0 0,.slice none 0 0,.int .i64 0,.int .i64 0,.bool false,.bool false,.slice none 0 0,.slice none 0 0,.bool false,.slice none 0 0,.slice none 0 0] 61)) := (Below.refl _ _).alloc (Nat.le_refl _) _
   have hBk : (W1.alloc (.cells #[.bool false,.int .i64 0,.bool false,.slice none 0 0,.slice none 0 0,.int .i64 0,.int .i64 0,.bool false,.bool false,.slice none 0 0,.slice none 0 0,.bool false,.slice none 0 0,.slice none 0 0] 61)).heap[W1.heap.size]? = some (.cells #[.bool false,.int .i64 0,.bool false,.slice none 0 0,.slice none 0 0,.int .i64 0,.int .i64 0,.bool false,.bool false,.slice none 0 0,.slice none 0 0,.bool false,.slice none 0 0,.slice none 0 0] 61 (0,0)) := heap_alloc_new _ _
   have VV0 := VV
   replace VV := VV.below hAl
   have XO0 := XO
   replace XO := XO.below hAl
   have NN0 := NN
   replace NN := NN.below hAl
   refine hK.out _ _ ?_ (fun hH1 => ?_)
   ·exact ⟨VV.1,XO.cell,NN.c0,NN.c1,NN.c2,NN.c3,NN.c4,NN.c5,NN.c6,NN.c7,NN.c8,NN.c9,NN.c10,NN.c11,NN.c12,NN.c13⟩
   clear hK K hHeld
   (try simp only [Act.put,xL4,xL5,xL6])
   refine xR [9] (h := ?_)
   refine xN (h := fun K hK => ?_)
   refine step_store_new rfl 61 (.tmp 7) (.tmp 22) rfl i0 HI0.out.1 W1.heap.size rfl #[.bool lf,.int .i64 ft,.bool p1,.slice a1 n1 c1,.slice b1 m1 d1,.int .i64 ll,.int .i64 rr,.bool ms,.bool p2,.slice a2 n2 c2,.slice b2 m2 d2,.bool p3,.slice a3 n3 c3,.slice b3 m3 d3] rfl #[.bool false,.int .i64 0,.bool false,.slice none 0 0,.slice none 0 0,.int .i64 0,.int .i64 0,.bool false,.bool false,.slice none 0 0,.slice none 0 0,.bool false,.slice none 0 0,.slice none 0 0] 61 hBk rfl HI0.out.2 (by simp [Value.oneCell']) ?_
   rw [alloc_setRow]
   obtain ⟨W9,hW9,hS9,hL9,VN,FN⟩ := V14.lay W1 61 (.bool lf) (.int .i64 ft) (.bool p1) (.slice a1 n1 c1) (.slice b1 m1 d1) (.int .i64 ll) (.int .i64 rr) (.bool ms) (.bool p2) (.slice a2 n2 c2) (.slice b2 m2 d2) (.bool p3) (.slice a3 n3 c3) (.slice b3 m3 d3)
   rw [← hW9]
   have hRw : w.heap.size < W1.heap.size := VV0.lt
   replace VV := VV0.below hL9
   clear VV0
   replace XO := XO0.below hL9
   clear XO0
   replace NN := NN0.below hL9
   clear NN0
   replace hO1 := hO1.below hL9
   replace BB := BB.trans (hL9.mono BB.size)
   clear hL9 hAl hBk hW9 HO1
   refine hK.out _ _ ?_ (fun hH2 => ?_)
   ·exact ⟨VV.1,XO.cell,NN.c0,NN.c1,NN.c2,NN.c3,NN.c4,NN.c5,NN.c6,NN.c7,NN.c8,NN.c9,NN.c10,NN.c11,NN.c12,NN.c13⟩
   clear hK K hH1
   (try simp only [Act.put,xL4,xL5,xL6])
   refine wpAnyH_done (by kernel_rfl) ?_ _
   clear hH2
   generalize W1.heap.size = R9 at *
   obtain ⟨V_0,V_1,V_2,V_3,V_4,V_5,V_6,V_7,V_8,V_9,V_10,V_11,V_12,V_13⟩ := id VN
   cases lf
   ·obtain ⟨e1,e2⟩ := HKD.out rfl
    obtain ⟨fe1,fe2⟩ := HFT.out rfl
    obtain ⟨fn,rfl⟩ : ∃ fn : Nat,ft = (fn : Int) := ⟨ft.toNat,by omega⟩
    subst e1 e2
    have hfn : fn < 64 := by omega
    go_wp2_with fail
    refine (xin_at s fn hs hfn _).mono ?_
    rintro e wx ⟨rfl,hwx⟩
    replace hwx := hwx.symm
    subst hwx
    have HK2 : Hid (ks = if inS s fn = true then [nx] else [kx,ky]) := by
     show ks = _
     rw [HKS.out,if_neg (by simp)]
     rfl
    have HN2 : Hid (∀ w',Below w.heap.size w w' → inS s fn = true → ∃ b off c,Value.slice ao ko co_ = .slice (some ⟨b,off,none⟩) n c ∧ n ≤ c ∧ w'.cell? ⟨b,off + x,none⟩ = some (.int .i64 (nx : Int))) := fun w' hb hi => HON.out w' hb (by first | exact trivial | rfl) hi
    clear HKS HON HKD HFT fe1 fe2
    obtain ⟨g,hg⟩ : ∃ g,inS s fn = g := ⟨_,rfl⟩
    rw [hg] at HK2 HN2 ⊢
    clear hg
    cases g
    ·have HK3 : ks = [kx,ky] := by rw [HK2.out]; rfl
     subst HK3
     have hA6 : Below W9.heap.size W9 (W9.alloc (.cells #[.int .i64 (kx : Int),.int .i64 (ky : Int)] 3)) := (Below.refl _ _).alloc (Nat.le_refl _) _
     have hnb6 := news_block (heap_alloc_new W9 (.cells #[.int .i64 (kx : Int),.int .i64 (ky : Int)] 3))
     rw [hS9] at hnb6
     have hO6 := hO1.later hA6
     have hO7 := int_len HLN.out hO6
     have VV6 := VV.below hA6
     have BB6 := BB.trans (hA6.mono BB.size)
     have hsz6 : w.heap.size + 1 ≤ (W9.alloc (.cells #[.int .i64 (kx : Int),.int .i64 (ky : Int)] 3)).heap.size := by have := VV6.lt; omega
     clear HK2 HN2
     go_wp2_with (at_builtin; refine wpList_append_pureM (Q' := fun _ => False) rfl _ _ _ rfl (w.heap.size + 1) 3 (.int .i64 0) 1 8 Tryz.underlying55 info_int rfl (by omega) (.slice (some ⟨go,0,none⟩) len co) rfl len (outs.map (fun x : Nat => Value.int .i64 (x : Int))) hO7 (fun _ _ _ _ _ h => h) ⟨R9 + 1,0,none⟩ 2 2 (by omega) (by omega) (by first | (simp; done) | rfl) [.int .i64 (kx : Int),.int .i64 (ky : Int)] rfl hnb6 (by simp [Value.oneCell']) (by simp) (by simp) (by omega) (by omega) hsz6 ?_; intro gn cn w3 hW8 hg8 hat8 _ _; have hB9 := below_grownB (Below.refl (w.heap.size + 1) _) hg8 hsz6 (fun g h => (hO6.both g h).1); have VV9 := VV6.low11 hB9 (by omega); have BB9 : Below w.heap.size w w3 := below_grownB BB6 hg8 BB6.size (fun g h => by have := (hO6.both g h).1; omega); have hO9 := int_more2 HLN.out hW8; clear hW8 hg8 hat8 hO7 hO6 BB6 VV6 hA6 hnb6 hB9 hsz6)
     go_roundw
     case rel => exact ⟨outs ++ [kx,ky],k + 1,by go_num,hO9,HQ2,VV9,BB9⟩
     case measure => simp [intOf]; omega
    ·have HK3 : ks = [nx] := by rw [HK2.out]; rfl
     subst HK3
     obtain ⟨b7,off7,c7,e7,hc7,hcl7⟩ := HN2.out _ BB rfl
     cases e7
     have XN : Cel10 W9 b7 (off7 + x) (.int .i64 (nx : Int)) := ⟨hcl7⟩
     clear HK2 HN2 hcl7 V_0 V_1 V_2 V_3 V_4 V_5 V_6 V_7 V_8 V_9 V_10 V_11 V_12 V_13 VN FN NN hS9
     go_wp2_with fail
     refine wp_region_until 10 #[true,true,true,true,true,true,true,true,true,true,false,false] (fun aF lsd a' w' => ∃ vu0 vu1 vu2 vu3 vu4 vu5 vu6 vu7 vu8 vu9 : Value,a' = (((((((((aF.put (some 38) vu0).put (some 39) vu1).put (some 40) vu2).put (some 41) vu3).put (some 42) vu4).put (some 43) vu5).put (some 44) vu6).put (some 45) vu7).put (some 46) vu8).put (some 47) vu9 ∧ Below W9.heap.size W9 w' ∧ (lsd.getD 0 false = true → vu0 = .slice (some ⟨go,0,none⟩) len co) ∧ (lsd.getD 1 false = true → vu1 = .pointer (some ⟨w.heap.size,1,none⟩)) ∧ (lsd.getD 2 false = true → vu2 = .slice (some ⟨b7,off7,none⟩) n co_) ∧ (lsd.getD 3 false = true → vu3 = .slice (some ⟨go,0,none⟩) len co) ∧ (lsd.getD 4 false = true → vu4 = .int .i64 (k : Int)) ∧ (lsd.getD 5 false = true → vu5 = .pointer (some ⟨go,k,none⟩)) ∧ (lsd.getD 6 false = true → vu6 = .int .i64 (x : Int)) ∧ (lsd.getD 7 false = true → vu7 = .pointer (some ⟨b7,off7 + x,none⟩)) ∧ (lsd.getD 8 false = true → vu8 = .int .i64 (nx : Int)) ∧ (lsd.getD 9 false = true → Blt11 W9.heap.size w' vu9 (.int .i64 (nx : Int)))) (by kernel_rfl) (by decide) (by kernel_rfl) (by rfl) (by kernel_rfl) ?_ ?_ ?_
     ·exact ⟨_,_,_,_,_,_,_,_,_,_,by simp only [Act.put,xL4,xL5,xL6]; rfl,(Below.refl _ _).drew,fun h => absurd h (fun h => mark_none h),fun h => absurd h (fun h => mark_none h),fun h => absurd h (fun h => mark_none h),fun h => absurd h (fun h => mark_none h),fun h => absurd h (fun h => mark_none h),fun h => absurd h (fun h => mark_none h),fun h => absurd h (fun h => mark_none h),fun h => absurd h (fun h => mark_none h),fun h => absurd h (fun h => mark_none h),fun h => absurd h (fun h => mark_none h)⟩
     ·rintro lsd au wn iu hszu ⟨vu0,vu1,vu2,vu3,vu4,vu5,vu6,vu7,vu8,vu9,rfl,hbu,fu0,fu1,fu2,fu3,fu4,fu5,fu6,fu7,fu8,fu9⟩ himu hru
      rcases (show iu = 0 ∨ iu = 1 ∨ iu = 2 ∨ iu = 3 ∨ iu = 4 ∨ iu = 5 ∨ iu = 6 ∨ iu = 7 ∨ iu = 8 ∨ iu = 9 by omega) with rfl | rfl | rfl | rfl | rfl | rfl | rfl | rfl | rfl | rfl
      ·refine wpOp_shut (by rfl) (fun K hK => ?_)
       simp only [Act.put,xL4,xL5,xL6]
       go_simp
       exact hK.out _ _ ⟨(.slice (some ⟨go,0,none⟩) len co),vu1,vu2,vu3,vu4,vu5,vu6,vu7,vu8,vu9,by simp only [Act.put,xL4,xL5,xL6],hbu,fun _ => rfl,fun h => fu1 (mark_of (by decide) h),fun h => fu2 (mark_of (by decide) h),fun h => fu3 (mark_of (by decide) h),fun h => fu4 (mark_of (by decide) h),fun h => fu5 (mark_of (by decide) h),fun h => fu6 (mark_of (by decide) h),fun h => fu7 (mark_of (by decide) h),fun h => fu8 (mark_of (by decide) h),fun h => fu9 (mark_of (by decide) h)⟩
      ·refine wpOp_shut (by rfl) (fun K hK => ?_)
       simp only [Act.put,xL4,xL5,xL6]
       go_simp
       exact hK.out _ _ ⟨vu0,(.pointer (some ⟨w.heap.size,1,none⟩)),vu2,vu3,vu4,vu5,vu6,vu7,vu8,vu9,by simp only [Act.put,xL4,xL5,xL6],hbu,fun h => fu0 (mark_of (by decide) h),fun _ => rfl,fun h => fu2 (mark_of (by decide) h),fun h => fu3 (mark_of (by decide) h),fun h => fu4 (mark_of (by decide) h),fun h => fu5 (mark_of (by decide) h),fun h => fu6 (mark_of (by decide) h),fun h => fu7 (mark_of (by decide) h),fun h => fu8 (mark_of (by decide) h),fun h => fu9 (mark_of (by decide) h)⟩
      ·have eu1 := fu1 (dep_of 1 hru rfl (by kernel_rfl))
       replace eu1 := eu1.symm
       subst eu1
       refine wpOp_shut (by rfl) (fun K hK => ?_)
       simp only [Act.put,xL4,xL5,xL6]
       have z1 := (VV.below hbu).2.1
       go_simp
       exact hK.out _ _ ⟨vu0,(.pointer (some ⟨w.heap.size,1,none⟩)),(.slice (some ⟨b7,off7,none⟩) n co_),vu3,vu4,vu5,vu6,vu7,vu8,vu9,by simp only [Act.put,xL4,xL5,xL6],hbu,fun h => fu0 (mark_of (by decide) h),fun _ => rfl,fun _ => rfl,fun h => fu3 (mark_of (by decide) h),fun h => fu4 (mark_of (by decide) h),fun h => fu5 (mark_of (by decide) h),fun h => fu6 (mark_of (by decide) h),fun h => fu7 (mark_of (by decide) h),fun h => fu8 (mark_of (by decide) h),fun h => fu9 (mark_of (by decide) h)⟩
      ·refine wpOp_shut (by rfl) (fun K hK => ?_)
       simp only [Act.put,xL4,xL5,xL6]
       go_simp
       exact hK.out _ _ ⟨vu0,vu1,vu2,(.slice (some ⟨go,0,none⟩) len co),vu4,vu5,vu6,vu7,vu8,vu9,by simp only [Act.put,xL4,xL5,xL6],hbu,fun h => fu0 (mark_of (by decide) h),fun h => fu1 (mark_of (by decide) h),fun h => fu2 (mark_of (by decide) h),fun _ => rfl,fun h => fu4 (mark_of (by decide) h),fun h => fu5 (mark_of (by decide) h),fun h => fu6 (mark_of (by decide) h),fun h => fu7 (mark_of (by decide) h),fun h => fu8 (mark_of (by decide) h),fun h => fu9 (mark_of (by decide) h)⟩
      ·refine wpOp_shut (by rfl) (fun K hK => ?_)
       simp only [Act.put,xL4,xL5,xL6]
       go_simp
       exact hK.out _ _ ⟨vu0,vu1,vu2,vu3,(.int .i64 (k : Int)),vu5,vu6,vu7,vu8,vu9,by simp only [Act.put,xL4,xL5,xL6],hbu,fun h => fu0 (mark_of (by decide) h),fun h => fu1 (mark_of (by decide) h),fun h => fu2 (mark_of (by decide) h),fun h => fu3 (mark_of (by decide) h),fun _ => rfl,fun h => fu5 (mark_of (by decide) h),fun h => fu6 (mark_of (by decide) h),fun h => fu7 (mark_of (by decide) h),fun h => fu8 (mark_of (by decide) h),fun h => fu9 (mark_of (by decide) h)⟩
      ·have eu3 := fu3 (dep_of 3 hru rfl (by kernel_rfl))
       have eu4 := fu4 (dep_of 4 hru rfl (by kernel_rfl))
       replace eu3 := eu3.symm
       subst eu3
       replace eu4 := eu4.symm
       subst eu4
       refine wpOp_shut (by rfl) (fun K hK => ?_)
       simp only [Act.put,xL4,xL5,xL6]
       go_simp
       exact hK.out _ _ ⟨vu0,vu1,vu2,(.slice (some ⟨go,0,none⟩) len co),(.int .i64 (k : Int)),(.pointer (some ⟨go,k,none⟩)),vu6,vu7,vu8,vu9,by simp only [Act.put,xL4,xL5,xL6],hbu,fun h => fu0 (mark_of (by decide) h),fun h => fu1 (mark_of (by decide) h),fun h => fu2 (mark_of (by decide) h),fun _ => rfl,fun _ => rfl,fun _ => rfl,fun h => fu6 (mark_of (by decide) h),fun h => fu7 (mark_of (by decide) h),fun h => fu8 (mark_of (by decide) h),fun h => fu9 (mark_of (by decide) h)⟩
      ·have eu5 := fu5 (dep_of 5 hru rfl (by kernel_rfl))
       replace eu5 := eu5.symm
       subst eu5
       refine wpOp_shut (by rfl) (fun K hK => ?_)
       simp only [Act.put,xL4,xL5,xL6]
       have z1 := (XO.below hbu).cell
       go_simp
       exact hK.out _ _ ⟨vu0,vu1,vu2,vu3,vu4,(.pointer (some ⟨go,k,none⟩)),(.int .i64 (x : Int)),vu7,vu8,vu9,by simp only [Act.put,xL4,xL5,xL6],hbu,fun h => fu0 (mark_of (by decide) h),fun h => fu1 (mark_of (by decide) h),fun h => fu2 (mark_of (by decide) h),fun h => fu3 (mark_of (by decide) h),fun h => fu4 (mark_of (by decide) h),fun _ => rfl,fun _ => rfl,fun h => fu7 (mark_of (by decide) h),fun h => fu8 (mark_of (by decide) h),fun h => fu9 (mark_of (by decide) h)⟩
      ·have eu2 := fu2 (dep_of 2 hru rfl (by kernel_rfl))
       have eu6 := fu6 (dep_of 6 hru rfl (by kernel_rfl))
       replace eu2 := eu2.symm
       subst eu2
       replace eu6 := eu6.symm
       subst eu6
       refine wpOp_shut (by rfl) (fun K hK => ?_)
       simp only [Act.put,xL4,xL5,xL6]
       go_simp
       exact hK.out _ _ ⟨vu0,vu1,(.slice (some ⟨b7,off7,none⟩) n co_),vu3,vu4,vu5,(.int .i64 (x : Int)),(.pointer (some ⟨b7,off7 + x,none⟩)),vu8,vu9,by simp only [Act.put,xL4,xL5,xL6],hbu,fun h => fu0 (mark_of (by decide) h),fun h => fu1 (mark_of (by decide) h),fun _ => rfl,fun h => fu3 (mark_of (by decide) h),fun h => fu4 (mark_of (by decide) h),fun h => fu5 (mark_of (by decide) h),fun _ => rfl,fun _ => rfl,fun h => fu8 (mark_of (by decide) h),fun h => fu9 (mark_of (by decide) h)⟩
      ·have eu7 := fu7 (dep_of 7 hru rfl (by kernel_rfl))
       replace eu7 := eu7.symm
       subst eu7
       refine wpOp_shut (by rfl) (fun K hK => ?_)
       simp only [Act.put,xL4,xL5,xL6]
       have z1 := (XN.below hbu).cell
       go_simp
       exact hK.out _ _ ⟨vu0,vu1,vu2,vu3,vu4,vu5,vu6,(.pointer (some ⟨b7,off7 + x,none⟩)),(.int .i64 (nx : Int)),vu9,by simp only [Act.put,xL4,xL5,xL6],hbu,fun h => fu0 (mark_of (by decide) h),fun h => fu1 (mark_of (by decide) h),fun h => fu2 (mark_of (by decide) h),fun h => fu3 (mark_of (by decide) h),fun h => fu4 (mark_of (by decide) h),fun h => fu5 (mark_of (by decide) h),fun h => fu6 (mark_of (by decide) h),fun _ => rfl,fun _ => rfl,fun h => fu9 (mark_of (by decide) h)⟩
      ·have eu8 := fu8 (dep_of 8 hru rfl (by kernel_rfl))
       replace eu8 := eu8.symm
       subst eu8
       refine wpOp_shut (by rfl) (fun K hK => ?_)
       simp only [Act.put,xL4,xL5,xL6]
       go_simp
       obtain ⟨wx,hWx,hSx,bu,VXu⟩ := V1.lay wn 3 (.int .i64 (nx : Int))
       rw [← hWx]
       have hbu2 := hbu.trans (bu.mono hbu.size)
       exact hK.out _ _ ⟨vu0,vu1,vu2,vu3,vu4,vu5,vu6,vu7,(.int .i64 (nx : Int)),_,by simp only [Act.put,xL4,xL5,xL6],hbu2,fun h => fu0 (mark_of (by decide) h),fun h => fu1 (mark_of (by decide) h),fun h => fu2 (mark_of (by decide) h),fun h => fu3 (mark_of (by decide) h),fun h => fu4 (mark_of (by decide) h),fun h => fu5 (mark_of (by decide) h),fun h => fu6 (mark_of (by decide) h),fun h => fu7 (mark_of (by decide) h),fun _ => rfl,fun _ => ⟨_,rfl,hbu.size,VXu⟩⟩
     rintro au Wu1 ⟨vu0,vu1,vu2,vu3,vu4,vu5,vu6,vu7,vu8,vu9,rfl,hbu,fu0,fu1,fu2,fu3,fu4,fu5,fu6,fu7,fu8,fu9⟩
     have eu0 := (fu0 rfl).symm
     subst eu0
     have eu1 := (fu1 rfl).symm
     subst eu1
     have eu2 := (fu2 rfl).symm
     subst eu2
     have eu3 := (fu3 rfl).symm
     subst eu3
     have eu4 := (fu4 rfl).symm
     subst eu4
     have eu5 := (fu5 rfl).symm
     subst eu5
     have eu6 := (fu6 rfl).symm
     subst eu6
     have eu7 := (fu7 rfl).symm
     subst eu7
     have eu8 := (fu8 rfl).symm
     subst eu8
     obtain ⟨RB9,rfl,hRB9,VB9⟩ := fu9 rfl
     clear fu0 fu1 fu2 fu3 fu4 fu5 fu6 fu7 fu8 fu9
     replace VV := VV.below hbu
     replace XO := XO.below hbu
     replace XN := XN.below hbu
     replace hO1 := hO1.below hbu
     replace BB := BB.trans (hbu.mono BB.size)
     clear hbu
     simp only [Act.put,xL4,xL5,xL6]
     refine xR [10] (h := ?_)
     refine AllReadyH.cons (by rfl) (fun K hK => ?_) AllReadyH.nil
     have hO7 := int_len HLN.out hO1
     have hsz6 : w.heap.size + 1 ≤ Wu1.heap.size := by have := VV.lt; omega
     refine step_append_pure (Q' := fun _ => False) (by rfl) _ _ _ (by rfl) (w.heap.size + 1) 3 (.int .i64 0) 1 8 Tryz.underlying55 info_int (by rfl) (by omega) (.slice (some ⟨go,0,none⟩) len co) (by rfl) len (outs.map (fun x : Nat => Value.int .i64 (x : Int))) hO7 (fun _ _ _ _ _ h => h) ⟨RB9,0,none⟩ 1 (by rfl) [.int .i64 (nx : Int)] rfl (news_v1 VB9) (by simp [Value.oneCell']) (by simp) (by simp) (by omega) (by omega) hsz6 ?_
     intro gn cn w3 hW8 hg8 hat8 _ _
     have hB9 := below_grownB (Below.refl (w.heap.size + 1) _) hg8 hsz6 (fun g h => (hO1.both g h).1)
     have VV9 := VV.low11 hB9 (by omega)
     have BB9 : Below w.heap.size w w3 := below_grownB BB hg8 BB.size (fun g h => by have := (hO1.both g h).1; omega)
     have hO9 := int_more1 HLN.out hW8
     clear hW8 hg8 hat8 hO7 hO1 BB VV hB9 hsz6
     refine hK.out _ _ trivial (fun _ => ?_)
     clear hK K
     simp only [Act.put,xL4,xL5,xL6]
     refine xR [11] (h := ?_)
     refine AllReadyH.cons (by rfl) (fun K hK => ?_) AllReadyH.nil
     go_simp
     refine hK.out _ _ trivial (fun _ => ?_)
     clear hK K
     simp only [Act.put,xL4,xL5,xL6]
     refine wpAnyH_done (by kernel_rfl) ?_ _
     go_wp2
     go_roundw
     case rel => exact ⟨outs ++ [nx],k + 1,by go_num,hO9,HQ2,VV9,BB9⟩
     case measure => simp [intOf]; omega
   ·have HK2 : ks = [] := by rw [HKS.out]; rfl
    subst HK2
    go_wp2
    go_roundw
    case rel => exact ⟨outs,k + 1,by go_num,hO1,(by show QInv _ _ _ _ _ _; simpa using HQ2.out),VV,BB⟩
    case measure => simp [intOf]; omega
  ·obtain rfl : k = len := by omega
   have g1 : ¬ (k : Int) < (k : Int) := by omega
   go_wp2
   go_ret
   exact ⟨_,rfl,outs,hO1.le (by omega),by have := HQ.out; rw [HLN.out]; exact this,BB⟩



end Go.Proofs.YtjmagcgobhaenaaGreatDoor

namespace Go.Proofs.YtjmagcgobhaenaaGreatDoor
open Go.RowKit
set_option linter.unusedVariables false
structure ElG (k : Nat) {α : Type} (A : World → (Nat → Value) → α → Prop) : Prop where
 keep : ∀ {w w' : World} {el : Nat → Value} {d : α},A w el d → KeepQ IsLimb w w' → A w' el d
 congr : ∀ {w : World} {el el' : Nat → Value} {d : α},A w el d → (∀ j,j < k → el j = el' j) → A w el' d
def GOwn (T : TypeId) (k : Nat) {α : Type} (A : World → (Nat → Value) → α → Prop) (B : Nat) (w : World) (v : Value) (l : List α) : Prop :=
 ∃ cs : List Value,w.ownsRow B T k v l.length cs ∧ (∀ g,v.ownBlock = some g → PureB IsLimb w g) ∧ ∀ i a,l[i]? = some a → A w (fun j => cs.getD (i * k + j) undef) a
def GRow (k : Nat) {α : Type} (A : World → (Nat → Value) → α → Prop) (w : World) (v : Value) (l : List α) : Prop := ∃ el,RowAt k w v l.length el ∧ ∀ i a,l[i]? = some a → A w (el i) a
section
variable {T : TypeId} {k : Nat} {α : Type} {A : World → (Nat → Value) → α → Prop} {B : Nat} {w w' : World} {v : Value} {l : List α}
theorem GRow.below (h : GRow k A w v l) (hA : ElG k A) (hb : Below w.heap.size w w') : GRow k A w' v l := by
 obtain ⟨el,h1,h2⟩ := h
 exact ⟨el,h1.below hb,fun i a hi => hA.keep (h2 i a hi) (KeepQ.below hb)⟩
theorem GRow.open (h : GRow k A w v l) : ∃ a c,v = .slice a l.length c ∧ l.length ≤ c ∧ c ≤ 9223372036854775807 := by
 obtain ⟨el,⟨ao,c,h1,h2,h3,_⟩,_⟩ := h
 exact ⟨ao,c,h1,h2,h3⟩
theorem GRow.at (h : GRow k A w v l) {i : Nat} {a : α} (hi : l[i]? = some a) : ∃ (b off c : Nat) (e : Nat → Value),v = .slice (some ⟨b,off,none⟩) l.length c ∧ l.length ≤ c ∧ (∀ j,j < k → w.cell? ⟨b,off + i * k + j,none⟩ = some (e j)) ∧ A w e a := by
 obtain ⟨el,⟨ao,c,h1,h2,h3,h4⟩,h5⟩ := h
 have hl : i < l.length := by have := List.getElem?_eq_some_iff.1 hi; exact this.1
 obtain ⟨b,off,rfl,hc⟩ := h4 (by omega)
 exact ⟨b,off,c,el i,h1,h2,hc i hl,h5 i a hi⟩
theorem GOwn.nil : GOwn T k A B w (.slice none 0 0) [] := ⟨[],World.ownsRow_nil _ _ _ _,fun g h => by simp [Value.ownBlock] at h,fun i a hi => by simp at hi⟩
theorem GOwn.le (h : GOwn T k A B w v l) {B' : Nat} (hb : B' ≤ B) : GOwn T k A B' w v l := by
 obtain ⟨cs,h1,h2,h3⟩ := h
 exact ⟨cs,owns_le h1 hb,h2,h3⟩
theorem GOwn.later (h : GOwn T k A B w v l) (hA : ElG k A) (hb : Below w.heap.size w w') : GOwn T k A B w' v l := by
 obtain ⟨cs,h1,h2,h3⟩ := h
 exact ⟨cs,owns_later h1 hb,fun g hg => (h2 g hg).below hb (World.ownsRow.lt h1 g hg).2,fun i a hi => hA.keep (h3 i a hi) (KeepQ.below hb)⟩
theorem GOwn.form (h : GOwn T k A B w v l) : ∃ a c,v = .slice a l.length c ∧ l.length ≤ c := by
 obtain ⟨cs,h1,_⟩ := h
 rcases h1.2 with ⟨rfl,e⟩ | ⟨g,c,_,rfl,_,_,h,_⟩
 ·exact ⟨none,0,by rw [e],by omega⟩
 ·exact ⟨_,c,rfl,h⟩
theorem GOwn.none (h : GOwn T k A B w v l) (h0 : l.length = 0) : (v = .slice none 0 0) ∨ ∃ g c,v = .slice (some ⟨g,0,Option.none⟩) 0 c := by
 obtain ⟨cs,h1,_⟩ := h
 rcases h1.2 with ⟨rfl,e⟩ | ⟨g,c,_,rfl,_⟩
 ·exact .inl rfl
 ·exact .inr ⟨g,c,by rw [h0]⟩
theorem GOwn.open (h : GOwn T k A B w v l) (h0 : 0 < l.length) : ∃ g c,v = .slice (some ⟨g,0,Option.none⟩) l.length c ∧ l.length ≤ c ∧ B ≤ g ∧ g < w.heap.size := by
 obtain ⟨cs,h1,_⟩ := h
 have h2 := h1
 rcases h1.2 with ⟨rfl,e⟩ | ⟨g,c,_,rfl,hB,hg,hc,_⟩
 ·omega
 ·exact ⟨g,c,rfl,hc,hB,(World.ownsRow.lt h2 g rfl).2⟩
theorem GOwn.row (h : GOwn T k A B w v l) (hA : ElG k A) : GRow k A w v l := by
 obtain ⟨cs,h1,_,h3⟩ := h
 refine ⟨fun i j => cs.getD (i * k + j) undef,?_,h3⟩
 have hl := h1.1
 rcases h1.2 with ⟨rfl,e⟩ | ⟨g,c,cur,rfl,hB,hg,hc,hm,rest⟩
 ·rw [e]; exact RowAt.nil _ _ _
 ·refine ⟨_,c,rfl,hc,by unfold maxLen at hm; omega,fun _ => ⟨g,0,rfl,fun i hi j hj => ?_⟩⟩
  have hlt : i * k + j < cs.length := by
   rw [hl]
   have := Nat.mul_le_mul_right k (show i + 1 ≤ l.length by omega)
   rw [Nat.add_mul] at this
   omega
  rw [Nat.zero_add]
  exact owns_cell h1 (by show cs[i * k + j]? = some (cs.getD (i * k + j) undef); rw [List.getD_eq_getElem?_getD,List.getElem?_eq_getElem hlt]; rfl)
theorem GOwn.kept {row : Option Nat} (h : GOwn T k A B w v l) (hA : ElG k A) (hg : w.grownBy w' row) (hk : KeepQ IsLimb w w') (hne : v.ownBlock = Option.none ∨ v.ownBlock ≠ row) : GOwn T k A B w' v l := by
 obtain ⟨cs,h1,h2,h3⟩ := h
 refine ⟨cs,h1.kept hg hne,fun g hgg o u hu => h2 g hgg o u ?_,fun i a hi => hA.keep (h3 i a hi) hk⟩
 have hlt := (World.ownsRow.lt h1 g hgg).2
 have hne2 : some g ≠ row := fun e => by
  rcases hne with a | a
  ·rw [hgg] at a; cases a
  ·exact a (hgg.trans e)
 rw [← World.cell?_of_block (w := w) (hg.block g hlt hne2)]; exact hu
theorem GOwn.more {v' : Value} {m : Nat} {l' : List α} {cs news : List Value} (hA : ElG k A) (hm : l'.length = m) (h1 : w'.ownsRow B T k v' (l.length + m) (cs ++ news)) (hl : cs.length = l.length * k) (hp : ∀ g,v'.ownBlock = some g → PureB IsLimb w' g) (hk : KeepQ IsLimb w w')
  (h3 : ∀ i a,l[i]? = some a → A w (fun j => cs.getD (i * k + j) undef) a) (hn : ∀ i a,l'[i]? = some a → A w (fun j => news.getD (i * k + j) undef) a) : GOwn T k A B w' v' (l ++ l') := by
 refine ⟨cs ++ news,by rw [List.length_append,hm]; exact h1,hp,fun i a hi => ?_⟩
 by_cases e : i < l.length
 ·rw [List.getElem?_append_left e] at hi
  refine hA.congr (hA.keep (h3 i a hi) hk) (fun j hj => ?_)
  simp only [List.getD_eq_getElem?_getD]
  have := Nat.mul_le_mul_right k (show i + 1 ≤ l.length by omega)
  rw [Nat.add_mul] at this
  rw [List.getElem?_append_left (by omega)]
 ·rw [List.getElem?_append_right (by omega)] at hi
  refine hA.congr (hA.keep (hn _ a hi) hk) (fun j hj => ?_)
  simp only [List.getD_eq_getElem?_getD]
  have h5 : i * k = (i - l.length) * k + l.length * k := by rw [← Nat.add_mul]; congr 1; omega
  rw [List.getElem?_append_right (by omega),hl,h5]
  congr 2
  omega
end
theorem GOwn.parts {T : TypeId} {k : Nat} {α : Type} {A : World → (Nat → Value) → α → Prop} {B : Nat} {w : World} {v : Value} {l : List α} (h : GOwn T k A B w v l) : ∃ cs : List Value,w.ownsRow B T k v l.length cs ∧ cs.length = l.length * k ∧ (∀ g,v.ownBlock = some g → PureB IsLimb w g) ∧ ∀ i a,l[i]? = some a → A w (fun j => cs.getD (i * k + j) undef) a := by
 obtain ⟨cs,h1,h2,h3⟩ := h
 exact ⟨cs,h1,h1.1,h2,h3⟩
end Go.Proofs.YtjmagcgobhaenaaGreatDoor

namespace Go.Proofs.YtjmagcgobhaenaaGreatDoor
open Go.RowKit
set_option linter.unusedVariables false
set_option linter.unusedSimpArgs false
set_option maxRecDepth 20000 in
set_option maxHeartbeats 1000000 in
theorem number7_at (p : Bool) (s t : Value) (n m : Nat) (f g : Nat → Int) (w : World) (h : Raw w s n f) (k : Raw w t m g) :
  Calls Tryz.prog 58 #[.agg #[.bool p,s,t]] w fun e w' => FewOut p (min n 4) (min m 4) f g w e w' := by
 have hA : ∀ o o',Below w.heap.size w ((w.alloc o).alloc o') := fun o o' => ((Below.refl _ _).alloc (Nat.le_refl _) _).alloc (by simp) _
 obtain ⟨ao,c,rfl,hnil,hnc,hcm,hu,h4⟩ := h
 obtain ⟨bo,d,rfl,knil,knc,kcm,ku,k4⟩ := k
 unfold maxLen at hcm kcm
 by_cases hlt : 4 < n
 ·obtain ⟨b1,off1,rfl,hc⟩ := h4 (by omega)
  have hN : Nums .u64 w (.slice (some ⟨b1,off1,none⟩) 4 c) 4 f := ⟨_,_,rfl,by omega,by unfold LIM; omega,fun _ => ⟨_,_,rfl,hc.mono (by omega)⟩⟩
  have hi : (n : Int) > 4 := by omega
  rw [show min n 4 = 4 by omega]
  by_cases klt : 4 < m
  ·obtain ⟨b2,off2,rfl,kc⟩ := k4 (by omega)
   have kN : Nums .u64 w (.slice (some ⟨b2,off2,none⟩) 4 d) 4 g := ⟨_,_,rfl,by omega,by unfold LIM; omega,fun _ => ⟨_,_,rfl,kc.mono (by omega)⟩⟩
   have ki : (m : Int) > 4 := by omega
   rw [show min m 4 = 4 by omega]
   go_enter Tryz.func58,Tryz.ntmps58
   go_wp2
   refine bodyPost_ret (v := .agg #[.bool p,.slice (some ⟨b1,off1,none⟩) 4 c,.slice (some ⟨b2,off2,none⟩) 4 d]) (by simp [results,go_sem]) rfl ?_
   exact ⟨_,_,_,_,rfl,hN.below (hA _ _),fun i hi => hu i (by omega),kN.below (hA _ _),fun i hi => ku i (by omega),hA _ _⟩
  ·have kN : Nums .u64 w (.slice bo m d) m g := ⟨_,_,rfl,knc,by unfold LIM; omega,k4⟩
   have ki : ¬ (m : Int) > 4 := by omega
   rw [show min m 4 = m by omega]
   go_enter Tryz.func58,Tryz.ntmps58
   go_wp2
   refine bodyPost_ret (v := .agg #[.bool p,.slice (some ⟨b1,off1,none⟩) 4 c,.slice bo m d]) (by simp [results,go_sem]) rfl ?_
   exact ⟨_,_,_,_,rfl,hN.below (hA _ _),fun i hi => hu i (by omega),kN.below (hA _ _),fun i hi => ku i (by omega),hA _ _⟩
 ·have hN : Nums .u64 w (.slice ao n c) n f := ⟨_,_,rfl,hnc,by unfold LIM; omega,h4⟩
  have hi : ¬ (n : Int) > 4 := by omega
  rw [show min n 4 = n by omega]
  by_cases klt : 4 < m
  ·obtain ⟨b2,off2,rfl,kc⟩ := k4 (by omega)
   have kN : Nums .u64 w (.slice (some ⟨b2,off2,none⟩) 4 d) 4 g := ⟨_,_,rfl,by omega,by unfold LIM; omega,fun _ => ⟨_,_,rfl,kc.mono (by omega)⟩⟩
   have ki : (m : Int) > 4 := by omega
   rw [show min m 4 = 4 by omega]
   go_enter Tryz.func58,Tryz.ntmps58
   go_wp2
   refine bodyPost_ret (v := .agg #[.bool p,.slice ao n c,.slice (some ⟨b2,off2,none⟩) 4 d]) (by simp [results,go_sem]) rfl ?_
   exact ⟨_,_,_,_,rfl,hN.below (hA _ _),fun i hi => hu i (by omega),kN.below (hA _ _),fun i hi => ku i (by omega),hA _ _⟩
  ·have kN : Nums .u64 w (.slice bo m d) m g := ⟨_,_,rfl,knc,by unfold LIM; omega,k4⟩
   have ki : ¬ (m : Int) > 4 := by omega
   rw [show min m 4 = m by omega]
   go_enter Tryz.func58,Tryz.ntmps58
   go_wp2
   refine bodyPost_ret (v := .agg #[.bool p,.slice ao n c,.slice bo m d]) (by simp [results,go_sem]) rfl ?_
   exact ⟨_,_,_,_,rfl,hN.below (hA _ _),fun i hi => hu i (by omega),kN.below (hA _ _),fun i hi => ku i (by omega),hA _ _⟩

set_option maxRecDepth 100000 in
set_option maxHeartbeats 8000000 in
theorem few7_at (F : Int) (v : Value) (k : Nat) (N : Nat → Nat) (T : Nat → Nat → Nd) (w : World) (hv : MRaw w v k N T 4) :
    Calls Tryz.prog 23 #[.agg #[.int .i64 F,v]] w fun e w' => ∃ r,e = .returned (.agg #[.int .i64 F,r]) ∧ MOwn w.heap.size w' r (min k 6) (fun i => min (N i) 15) T 4 ∧ Below w.heap.size w w' := by
  obtain ⟨ao,c,rfl,hnc,hc63⟩ := hv.open
  have BB : Below w.heap.size w w := Below.refl _ _
  obtain ⟨Wb0,hW0,hS0,hL0,VM⟩ := V2.lay w 24 (.int .i64 F) (.slice ao k c)
  replace BB := BB.trans (hL0.mono BB.size)
  clear hL0
  obtain ⟨Wb1,hW1,hS1,hL1,VR⟩ := V2.lay Wb0 24 (.int .i64 0) (.slice none 0 0)
  rw [hS0] at VR hS1
  replace VM := VM.below hL1
  replace BB := BB.trans (hL1.mono BB.size)
  clear hL1
  go_enter Tryz.func23,Tryz.ntmps23
  obtain ⟨W2,hW2,hS2,hL2,VO⟩ := V2.lay Wb1 24 (.int .i64 F) (.slice none 0 0)
  obtain ⟨VM_0,VM_1,VM_2,VM_3⟩ := id VM
  rw [hW1,hW0] at VM_0 VM_1 VM_2 VM_3
  obtain ⟨VO_0,VO_1,VO_2,VO_3⟩ := id VO
  rw [hW2,hW1,hW0] at VO_0 VO_1 VO_2 VO_3
  go_wp2
  clear VM_0 VM_1 VM_2 VM_3 VO_0 VO_1 VO_2 VO_3
  rw [← hW0]
  rw [← hW1]
  rw [← hW2]
  have HS : Hid (Wb1.heap.size = w.heap.size + 1 + 1) := hS1
  have hR3 : w.heap.size + 1 < Wb1.heap.size := by omega
  rw [hS1] at VO
  clear hW0 hW1 hW2 hS0 hS1
  have VM0 := VM
  have VR0 := VR
  have BB0 : Hid (Below w.heap.size w Wb1) := BB
  clear VM VR BB
  go_loopw [4] (fun vi wr => ∃ (i : Nat) (tr : Value),i ≤ min k 6 ∧ vi = .int .i64 (i : Int) ∧ V2 wr (w.heap.size + 1 + 1) (.int .i64 F) tr ∧ MOwn (w.heap.size + 1 + 1 + 1) wr tr i (fun i => min (N i) 15) T 4 ∧ Below Wb1.heap.size Wb1 wr) (fun vi _ => min k 6 - (intOf vi).toNat)
  case atStart => exact ⟨0,_,by omega,rfl,VO,MOwn.nil _ _ _ _ _,hL2⟩
  case round =>
    clear VO hL2
    obtain ⟨i,tr,hi,rfl,VO,MO,BL⟩ := hrel
    obtain ⟨at3,ct3,rfl⟩ := MO.form
    obtain ⟨VM_0,VM_1,VM_2,VM_3⟩ := VM0.below BL
    by_cases hlt : i < min k 6
    · have hik : i < k := by omega
      have h6 : i < 6 := by omega
      have g1 : (i : Int) < (k : Int) := by omega
      have g2 : (i : Int) < 6 := by omega
      have g0 : (0 : Int) ≤ (i : Int) := by omega
      obtain ⟨bT,oT,cT,aT,dT,hvv,hcc,XT0,TR⟩ := hv.at hik
      cases hvv
      go_wp2
      clear VM_0 VM_1 VM_2 VM_3
      obtain ⟨wo,rfl⟩ : ∃ wo,wo = wr := ⟨_,rfl⟩
      have hwo : Wb1.heap.size ≤ wo.heap.size := BL.size
      have HNi : Hid (N i ≤ dT ∧ dT ≤ 9223372036854775807) := by obtain ⟨_,_,e9,l9,m9⟩ := TR.open; cases e9; exact ⟨l9,m9⟩
      have hNd := HNi.out.1
      obtain ⟨ni,hni⟩ : ∃ ni,N i = ni := ⟨_,rfl⟩
      have HNI : Hid (N i = ni) := hni
      rw [hni] at XT0 TR hNd
      clear hni
      go_loopw [5,6] (fun vt vq wr => ∃ q : Nat,q ≤ min ni 15 ∧ vq = .int .i64 (q : Int) ∧ NOwn wo.heap.size wr vt q (T i) 4 ∧ Below wo.heap.size wo wr) (fun _ vq _ => min ni 15 - (intOf vq).toNat)
      case atStart => exact ⟨0,by omega,rfl,NOwn.nil _ _ _ _,Below.refl _ _⟩
      case round =>
        obtain ⟨q,hq,rfl,TO,BI⟩ := hrel
        have BW := BL.trans (BI.mono BL.size)
        have BB := BB0.out.trans (BW.mono BB0.out.size)
        obtain ⟨VM_0,VM_1,VM_2,VM_3⟩ := VM0.below BW
        have XT : wr.cell? ⟨bT,oT + i,none⟩ = some (.slice aT ni dT) := (BB.cell (World.block_lt_of_cell? _ _ XT0)).trans XT0
        obtain ⟨avt,cvt,rfl⟩ := TO.form
        by_cases hlq : q < min ni 15
        · have hqN : q < ni := by omega
          have e1 : (q : Int) < (ni : Int) := by omega
          have e2 : (q : Int) < 15 := by omega
          have e0 : (0 : Int) ≤ (q : Int) := by omega
          have hq15 : q ≤ 15 := by omega
          obtain ⟨b,off,cc,p1,a1,n1,c1,b1,m1,d1,f1,g1_,p2,a2,n2,c2,b2,m2,d2,f2,g2_,p3,a3,n3,c3,b3,m3,d3,f3,g3_,hvv,hcc2,hc6,NN0,⟨u1,v1,E1⟩,⟨u2,v2,E2⟩,⟨u3,v3,E3_⟩,i1,i2,i3⟩ := TR.at hqN
          cases hvv
          have NN := NN0.low BB
          clear NN0
          have HE1 : Hid ((T i q).cut = mkRat (zof p1 (num f1 (min n1 4))) (num g1_ (min m1 4))) := E1
          have HE2 : Hid ((T i q).val = mkRat (zof p2 (num f2 (min n2 4))) (num g2_ (min m2 4))) := E2
          have HE3 : Hid ((T i q).cov = mkRat (zof p3 (num f3 (min n3 4))) (num g3_ (min m3 4))) := E3_
          clear E1 E2 E3_
          obtain ⟨lf,hlf⟩ : ∃ z,(T i q).leaf = z := ⟨_,rfl⟩
          obtain ⟨ft,hft⟩ : ∃ z,(T i q).feat = z := ⟨_,rfl⟩
          obtain ⟨ll,hll⟩ : ∃ z,(T i q).left = z := ⟨_,rfl⟩
          obtain ⟨rr,hrr⟩ : ∃ z,(T i q).right = z := ⟨_,rfl⟩
          obtain ⟨ms,hms⟩ : ∃ z,(T i q).miss = z := ⟨_,rfl⟩
          rw [hlf,hft,hll,hrr,hms] at NN
          have HI3 : Hid (I64 (T i q).feat ∧ I64 (T i q).left ∧ I64 (T i q).right) := ⟨i1,i2,i3⟩
          have HLE : Hid ((T i q).leaf = lf ∧ (T i q).feat = ft ∧ (T i q).left = ll ∧ (T i q).right = rr ∧ (T i q).miss = ms) := ⟨hlf,hft,hll,hrr,hms⟩
          clear hlf hft hll hrr hms i1 i2 i3
          obtain ⟨N_0,N_1,N_2,N_3,N_4,N_5,N_6,N_7,N_8,N_9,N_10,N_11,N_12,N_13⟩ := id NN
          have hRb : wo.heap.size ≤ wr.heap.size := BI.size
          have HRT : Hid (∀ g,(Value.slice avt q cvt).ownBlock = some g → g ≠ wr.heap.size) := fun g hg => Nat.ne_of_lt (TO.blocks g hg).2
          obtain ⟨W9,hW9,hS9,hL9,VN,FN⟩ := V14.lay wr 61 (.bool lf) (.int .i64 ft) (.bool p1) (.slice a1 n1 c1) (.slice b1 m1 d1) (.int .i64 ll) (.int .i64 rr) (.bool ms) (.bool p2) (.slice a2 n2 c2) (.slice b2 m2 d2) (.bool p3) (.slice a3 n3 c3) (.slice b3 m3 d3)
          replace TO := TO.later hL9
          replace BB := BB.trans (hL9.mono BB.size)
          replace BI := BI.trans (hL9.mono BI.size)
          obtain ⟨V_0,V_1,V_2,V_3,V_4,V_5,V_6,V_7,V_8,V_9,V_10,V_11,V_12,V_13⟩ := id VN
          rw [hW9] at V_0 V_1 V_2 V_3 V_4 V_5 V_6 V_7 V_8 V_9 V_10 V_11 V_12 V_13
          go_wp2_with fail
          clear V_0 V_1 V_2 V_3 V_4 V_5 V_6 V_7 V_8 V_9 V_10 V_11 V_12 V_13 N_0 N_1 N_2 N_3 N_4 N_5 N_6 N_7 N_8 N_9 N_10 N_11 N_12 N_13 VM_0 VM_1 VM_2 VM_3 XT
          rw [← hW9]
          have hRw : w.heap.size ≤ wr.heap.size := by have := BB0.out.size; omega
          generalize wr.heap.size = R at *
          clear hW9 hS9 hL9 NN
          refine (number7_at _ _ _ _ _ _ _ _ (u1.below BB) (v1.below BB)).mono ?_
          rintro e wn1 ⟨ao1,co1,bo1,do1,rfl,hu1,uf1,hv1,vf1,bn1⟩
          have X1 : RatAt wn1 (.agg #[.bool p1,.slice ao1 (min n1 4) co1,.slice bo1 (min m1 4) do1]) (T i q).cut 4 := by rw [HE1.out]; exact RatAt.raw hu1 uf1 hv1 vf1 (Nat.min_le_right _ _) (Nat.min_le_right _ _)
          clear hu1 uf1 hv1 vf1 HE1
          replace FN := soft_below FN VN.lt bn1
          replace VN := VN.below bn1
          replace TO := TO.later bn1
          replace BB := BB.trans (bn1.mono BB.size)
          replace BI := BI.trans (bn1.mono BI.size)
          generalize min n1 4 = k1 at *
          generalize min m1 4 = l1 at *
          clear bn1
          have KK := VN.keep2 (limb_bool _) (limb_slice _ _ _) (limb_slice _ _ _) (.bool p1) (.slice ao1 k1 co1) (.slice bo1 l1 do1)
          have FN_n : ∀ j,((((wn1).setCell ⟨R,2,none⟩ (.bool p1)).setCell ⟨R,3,none⟩ (.slice ao1 k1 co1)).setCell ⟨R,4,none⟩ (.slice bo1 l1 do1)).frozen? ⟨R,j,none⟩ = false := soft_set (soft_set (soft_set FN _ _) _ _) _ _
          have VN_n := VN.set2 (.bool p1) (.slice ao1 k1 co1) (.slice bo1 l1 do1)
          have X1_n := X1.keepL KK
          have BB_n : Below w.heap.size w ((((wn1).setCell ⟨R,2,none⟩ (.bool p1)).setCell ⟨R,3,none⟩ (.slice ao1 k1 co1)).setCell ⟨R,4,none⟩ (.slice bo1 l1 do1)) := ((BB.setCell hRw _).setCell hRw _).setCell hRw _
          have BI_n : Below wo.heap.size wo ((((wn1).setCell ⟨R,2,none⟩ (.bool p1)).setCell ⟨R,3,none⟩ (.slice ao1 k1 co1)).setCell ⟨R,4,none⟩ (.slice bo1 l1 do1)) := ((BI.setCell hRb _).setCell hRb _).setCell hRb _
          have TO_n := TO.apart2 HRT.out VN.c2 VN.c3 VN.c4 (limb_bool _) (limb_slice _ _ _) (limb_slice _ _ _) (.bool p1) (.slice ao1 k1 co1) (.slice bo1 l1 do1)
          obtain ⟨V_0,V_1,V_2,V_3,V_4,V_5,V_6,V_7,V_8,V_9,V_10,V_11,V_12,V_13⟩ := id VN
          have f0_ := FN 2
          have f1_ := FN 3
          have f2_ := FN 4
          clear FN
          obtain ⟨Z_0,Z_1,Z_2,Z_3,Z_4,Z_5,Z_6,Z_7,Z_8,Z_9,Z_10,Z_11,Z_12,Z_13⟩ := id VN_n
          go_wp2_with fail
          clear KK f0_ f1_ f2_ VN TO BB BI X1 V_0 V_1 V_2 V_3 V_4 V_5 V_6 V_7 V_8 V_9 V_10 V_11 V_12 V_13 Z_0 Z_1 Z_2 Z_3 Z_4 Z_5 Z_6 Z_7 Z_8 Z_9 Z_10 Z_11 Z_12 Z_13
          generalize (((wn1).setCell ⟨R,2,none⟩ (.bool p1)).setCell ⟨R,3,none⟩ (.slice ao1 k1 co1)).setCell ⟨R,4,none⟩ (.slice bo1 l1 do1) = ws1 at *
          have FN := FN_n
          have VN := VN_n
          have BB := BB_n
          have BI := BI_n
          have TO := TO_n
          have X1 := X1_n
          clear FN_n VN_n BB_n BI_n TO_n X1_n
          refine (number7_at _ _ _ _ _ _ _ _ (u2.below BB) (v2.below BB)).mono ?_
          rintro e wn2 ⟨ao2,co2,bo2,do2,rfl,hu2,uf2,hv2,vf2,bn2⟩
          have X2 : RatAt wn2 (.agg #[.bool p2,.slice ao2 (min n2 4) co2,.slice bo2 (min m2 4) do2]) (T i q).val 4 := by rw [HE2.out]; exact RatAt.raw hu2 uf2 hv2 vf2 (Nat.min_le_right _ _) (Nat.min_le_right _ _)
          clear hu2 uf2 hv2 vf2 HE2
          replace FN := soft_below FN VN.lt bn2
          replace VN := VN.below bn2
          replace TO := TO.later bn2
          replace BB := BB.trans (bn2.mono BB.size)
          replace BI := BI.trans (bn2.mono BI.size)
          generalize min n2 4 = k2 at *
          generalize min m2 4 = l2 at *
          replace X1 := X1.below bn2
          clear bn2
          have KK := VN.keep8 (limb_bool _) (limb_slice _ _ _) (limb_slice _ _ _) (.bool p2) (.slice ao2 k2 co2) (.slice bo2 l2 do2)
          have FN_n : ∀ j,((((wn2).setCell ⟨R,8,none⟩ (.bool p2)).setCell ⟨R,9,none⟩ (.slice ao2 k2 co2)).setCell ⟨R,10,none⟩ (.slice bo2 l2 do2)).frozen? ⟨R,j,none⟩ = false := soft_set (soft_set (soft_set FN _ _) _ _) _ _
          have VN_n := VN.set8 (.bool p2) (.slice ao2 k2 co2) (.slice bo2 l2 do2)
          have X1_n := X1.keepL KK
          have X2_n := X2.keepL KK
          have BB_n : Below w.heap.size w ((((wn2).setCell ⟨R,8,none⟩ (.bool p2)).setCell ⟨R,9,none⟩ (.slice ao2 k2 co2)).setCell ⟨R,10,none⟩ (.slice bo2 l2 do2)) := ((BB.setCell hRw _).setCell hRw _).setCell hRw _
          have BI_n : Below wo.heap.size wo ((((wn2).setCell ⟨R,8,none⟩ (.bool p2)).setCell ⟨R,9,none⟩ (.slice ao2 k2 co2)).setCell ⟨R,10,none⟩ (.slice bo2 l2 do2)) := ((BI.setCell hRb _).setCell hRb _).setCell hRb _
          have TO_n := TO.apart8 HRT.out VN.c8 VN.c9 VN.c10 (limb_bool _) (limb_slice _ _ _) (limb_slice _ _ _) (.bool p2) (.slice ao2 k2 co2) (.slice bo2 l2 do2)
          obtain ⟨V_0,V_1,V_2,V_3,V_4,V_5,V_6,V_7,V_8,V_9,V_10,V_11,V_12,V_13⟩ := id VN
          have f0_ := FN 8
          have f1_ := FN 9
          have f2_ := FN 10
          clear FN
          obtain ⟨Z_0,Z_1,Z_2,Z_3,Z_4,Z_5,Z_6,Z_7,Z_8,Z_9,Z_10,Z_11,Z_12,Z_13⟩ := id VN_n
          go_wp2_with fail
          clear KK f0_ f1_ f2_ VN TO BB BI X1 X2 V_0 V_1 V_2 V_3 V_4 V_5 V_6 V_7 V_8 V_9 V_10 V_11 V_12 V_13 Z_0 Z_1 Z_2 Z_3 Z_4 Z_5 Z_6 Z_7 Z_8 Z_9 Z_10 Z_11 Z_12 Z_13
          generalize (((wn2).setCell ⟨R,8,none⟩ (.bool p2)).setCell ⟨R,9,none⟩ (.slice ao2 k2 co2)).setCell ⟨R,10,none⟩ (.slice bo2 l2 do2) = ws2 at *
          have FN := FN_n
          have VN := VN_n
          have BB := BB_n
          have BI := BI_n
          have TO := TO_n
          have X1 := X1_n
          have X2 := X2_n
          clear FN_n VN_n BB_n BI_n TO_n X1_n X2_n
          refine (number7_at _ _ _ _ _ _ _ _ (u3.below BB) (v3.below BB)).mono ?_
          rintro e wn3 ⟨ao3,co3,bo3,do3,rfl,hu3,uf3,hv3,vf3,bn3⟩
          have X3 : RatAt wn3 (.agg #[.bool p3,.slice ao3 (min n3 4) co3,.slice bo3 (min m3 4) do3]) (T i q).cov 4 := by rw [HE3.out]; exact RatAt.raw hu3 uf3 hv3 vf3 (Nat.min_le_right _ _) (Nat.min_le_right _ _)
          clear hu3 uf3 hv3 vf3 HE3
          replace FN := soft_below FN VN.lt bn3
          replace VN := VN.below bn3
          replace TO := TO.later bn3
          replace BB := BB.trans (bn3.mono BB.size)
          replace BI := BI.trans (bn3.mono BI.size)
          generalize min n3 4 = k3 at *
          generalize min m3 4 = l3 at *
          replace X1 := X1.below bn3
          replace X2 := X2.below bn3
          clear bn3
          have KK := VN.keep11 (limb_bool _) (limb_slice _ _ _) (limb_slice _ _ _) (.bool p3) (.slice ao3 k3 co3) (.slice bo3 l3 do3)
          have FN_n : ∀ j,((((wn3).setCell ⟨R,11,none⟩ (.bool p3)).setCell ⟨R,12,none⟩ (.slice ao3 k3 co3)).setCell ⟨R,13,none⟩ (.slice bo3 l3 do3)).frozen? ⟨R,j,none⟩ = false := soft_set (soft_set (soft_set FN _ _) _ _) _ _
          have VN_n := VN.set11 (.bool p3) (.slice ao3 k3 co3) (.slice bo3 l3 do3)
          have X1_n := X1.keepL KK
          have X2_n := X2.keepL KK
          have X3_n := X3.keepL KK
          have BB_n : Below w.heap.size w ((((wn3).setCell ⟨R,11,none⟩ (.bool p3)).setCell ⟨R,12,none⟩ (.slice ao3 k3 co3)).setCell ⟨R,13,none⟩ (.slice bo3 l3 do3)) := ((BB.setCell hRw _).setCell hRw _).setCell hRw _
          have BI_n : Below wo.heap.size wo ((((wn3).setCell ⟨R,11,none⟩ (.bool p3)).setCell ⟨R,12,none⟩ (.slice ao3 k3 co3)).setCell ⟨R,13,none⟩ (.slice bo3 l3 do3)) := ((BI.setCell hRb _).setCell hRb _).setCell hRb _
          have TO_n := TO.apart11 HRT.out VN.c11 VN.c12 VN.c13 (limb_bool _) (limb_slice _ _ _) (limb_slice _ _ _) (.bool p3) (.slice ao3 k3 co3) (.slice bo3 l3 do3)
          obtain ⟨V_0,V_1,V_2,V_3,V_4,V_5,V_6,V_7,V_8,V_9,V_10,V_11,V_12,V_13⟩ := id VN
          have f0_ := FN 11
          have f1_ := FN 12
          have f2_ := FN 13
          clear FN
          obtain ⟨Z_0,Z_1,Z_2,Z_3,Z_4,Z_5,Z_6,Z_7,Z_8,Z_9,Z_10,Z_11,Z_12,Z_13⟩ := id VN_n
          have hA : Below ((((wn3).setCell ⟨R,11,none⟩ (.bool p3)).setCell ⟨R,12,none⟩ (.slice ao3 k3 co3)).setCell ⟨R,13,none⟩ (.slice bo3 l3 do3)).heap.size ((((wn3).setCell ⟨R,11,none⟩ (.bool p3)).setCell ⟨R,12,none⟩ (.slice ao3 k3 co3)).setCell ⟨R,13,none⟩ (.slice bo3 l3 do3)) (((((wn3).setCell ⟨R,11,none⟩ (.bool p3)).setCell ⟨R,12,none⟩ (.slice ao3 k3 co3)).setCell ⟨R,13,none⟩ (.slice bo3 l3 do3)).alloc (.cells #[.bool lf,.int .i64 ft,.bool p1,.slice ao1 k1 co1,.slice bo1 l1 do1,.int .i64 ll,.int .i64 rr,.bool ms,.bool p2,.slice ao2 k2 co2,.slice bo2 l2 do2,.bool p3,.slice ao3 k3 co3,.slice bo3 l3 do3] 61)) := (Below.refl _ _).alloc (Nat.le_refl _) _
          have TO2 := TO_n.later hA
          have BI2 := BI_n.trans (hA.mono BI_n.size)
          have Y1 := X1_n.below hA
          have Y2 := X2_n.below hA
          have Y3 := X3_n.below hA
          obtain ⟨cs,hcl,hco,hcp,hcn⟩ := TO2.parts
          have hsz2 := BI2.size
          have hbk := TO2.blocks
          have HND : Hid (NodeAt (((((wn3).setCell ⟨R,11,none⟩ (.bool p3)).setCell ⟨R,12,none⟩ (.slice ao3 k3 co3)).setCell ⟨R,13,none⟩ (.slice bo3 l3 do3)).alloc (.cells #[.bool lf,.int .i64 ft,.bool p1,.slice ao1 k1 co1,.slice bo1 l1 do1,.int .i64 ll,.int .i64 rr,.bool ms,.bool p2,.slice ao2 k2 co2,.slice bo2 l2 do2,.bool p3,.slice ao3 k3 co3,.slice bo3 l3 do3] 61)) (fun j => [.bool lf,.int .i64 ft,.bool p1,.slice ao1 k1 co1,.slice bo1 l1 do1,.int .i64 ll,.int .i64 rr,.bool ms,.bool p2,.slice ao2 k2 co2,.slice bo2 l2 do2,.bool p3,.slice ao3 k3 co3,.slice bo3 l3 do3].getD j undef) (T i q) 4) := by
            obtain ⟨z1,z2,z3,z4,z5⟩ := HLE.out
            obtain ⟨y1,y2,y3⟩ := HI3.out
            exact ⟨by rw [z1]; rfl,by rw [z2]; rfl,⟨_,_,_,_,_,_,_,rfl,rfl,rfl,Y1⟩,by rw [z3]; rfl,by rw [z4]; rfl,by rw [z5]; rfl,⟨_,_,_,_,_,_,_,rfl,rfl,rfl,Y2⟩,⟨_,_,_,_,_,_,_,rfl,rfl,rfl,Y3⟩,y1,y2,y3⟩
          have HCN : Hid (∀ j,j < q → NodeAt (((((wn3).setCell ⟨R,11,none⟩ (.bool p3)).setCell ⟨R,12,none⟩ (.slice ao3 k3 co3)).setCell ⟨R,13,none⟩ (.slice bo3 l3 do3)).alloc (.cells #[.bool lf,.int .i64 ft,.bool p1,.slice ao1 k1 co1,.slice bo1 l1 do1,.int .i64 ll,.int .i64 rr,.bool ms,.bool p2,.slice ao2 k2 co2,.slice bo2 l2 do2,.bool p3,.slice ao3 k3 co3,.slice bo3 l3 do3] 61)) (fun x => cs.getD (j * 14 + x) undef) (T i j) 4) := hcn
          have HCL : Hid (cs.length = q * 14) := hcl
          have hws : ((((wn3).setCell ⟨R,11,none⟩ (.bool p3)).setCell ⟨R,12,none⟩ (.slice ao3 k3 co3)).setCell ⟨R,13,none⟩ (.slice bo3 l3 do3)).heap.size = wn3.heap.size := by simp
          have hnb := news_block (heap_alloc_new ((((wn3).setCell ⟨R,11,none⟩ (.bool p3)).setCell ⟨R,12,none⟩ (.slice ao3 k3 co3)).setCell ⟨R,13,none⟩ (.slice bo3 l3 do3)) (.cells #[.bool lf,.int .i64 ft,.bool p1,.slice ao1 k1 co1,.slice bo1 l1 do1,.int .i64 ll,.int .i64 rr,.bool ms,.bool p2,.slice ao2 k2 co2,.slice bo2 l2 do2,.bool p3,.slice ao3 k3 co3,.slice bo3 l3 do3] 61))
          rw [hws] at hnb
          clear hws
          clear hcn hcl TO2 Y1 Y2 Y3 TO_n TO BB BI X1 X2 X3 X1_n X2_n X3_n HLE HI3 KK VN
          go_wp2_with (first
            | (at_builtin
               refine wpList_append_pure (Q' := IsLimb) rfl _ _ _ rfl wo.heap.size 61 (.agg #[.bool false,.int .i64 0,.bool false,.slice none 0 0,.slice none 0 0,.int .i64 0,.int .i64 0,.bool false,.bool false,.slice none 0 0,.slice none 0 0,.bool false,.slice none 0 0,.slice none 0 0]) 14 208 Tryz.underlying48 info_node rfl (by omega) (.slice avt q cvt) rfl q cs hco hcp ⟨wn3.heap.size,0,none⟩ 1 rfl [.bool lf,.int .i64 ft,.bool p1,.slice ao1 k1 co1,.slice bo1 l1 do1,.int .i64 ll,.int .i64 rr,.bool ms,.bool p2,.slice ao2 k2 co2,.slice bo2 l2 do2,.bool p3,.slice ao3 k3 co3,.slice bo3 l3 do3] rfl ?g14 ?g15 ?g16 ?g17 (by omega) (by omega) hsz2 ?_
               case g14 => exact hnb
               case g15 => simp [Value.oneCell']
               case g16 => simp [limb_bool,limb_slice,limb_int]
               case g17 => simp [Value.cells,limb_bool,limb_slice,limb_int]
               intro gN cN w5 ho5 hg5 _ hp5 hk5
               have NO5 : NOwn wo.heap.size w5 (.slice (some ⟨gN,0,none⟩) (q + 1) cN) (q + 1) (T i) 4 := NOwn.more (v := .slice none 0 0) ho5 HCL.out (fun g hg => by cases hg; exact hp5) hk5 HCN.out HND.out
               have BI5 : Below wo.heap.size wo w5 := below_grownB BI2 hg5 hsz2 (fun g hg => (hbk g hg).1)
               clear ho5 hg5 hp5 hk5 hco hcp BI2 hbk hA HCN HND HCL))
          go_roundw
          case rel => exact ⟨q + 1,by omega,by go_num,NO5,BI5⟩
          case measure => simp [intOf]; omega
        · have hqe : q = min ni 15 := by omega
          have HQ : Hid (q = min (N i) 15) := by rw [HNI.out]; exact hqe
          have MO2 : MOwn (w.heap.size + 1 + 1 + 1) wr (.slice at3 i ct3) i (fun i => min (N i) 15) T 4 := MO.later BI
          have TO2 : NOwn (w.heap.size + 1 + 1 + 1) wr (.slice avt q cvt) q (T i) 4 := TO.le (by have := VO.lt; omega)
          have VO2 := VO.below BI
          clear BI TO MO VO BB
          have HSZ : Hid (Wb1.heap.size = w.heap.size + 1 + 1) := HS
          have hsz1 : w.heap.size + 1 + 1 + 1 ≤ wr.heap.size := by have := BW.size; have := VO2.lt; omega
          have hA : Below wr.heap.size wr (wr.alloc (.cells #[.slice avt q cvt] 48)) := (Below.refl _ _).alloc (Nat.le_refl _) _
          replace MO2 := MO2.later hA
          replace TO2 := TO2.later hA
          have VO3 := VO2.below hA
          have BW2 := BW.trans (hA.mono BW.size)
          obtain ⟨us,huo,hup⟩ := MO2.parts
          have hbk := MO2.blocks
          have hsz2 : w.heap.size + 1 + 1 + 1 ≤ (wr.alloc (.cells #[.slice avt q cvt] 48)).heap.size := Nat.le_trans hsz1 hA.size
          obtain ⟨VO_0,VO_1,VO_2,VO_3⟩ := id VO2
          have hqm : ¬ ((q : Int) < (ni : Int) ∧ (q : Int) < 15) := by omega
          have hbl : w.heap.size + 1 + 1 < wr.heap.size := by omega
          clear hqe hq hlq
          by_cases hqn : q < ni
          · have c1 : (q : Int) < (ni : Int) := by omega
            have c2 : ¬ (q : Int) < 15 := by omega
            go_wp2_with (first
              | (at_builtin
                 refine wpList_append_pure (Q' := IsLimb) rfl _ _ _ rfl (w.heap.size + 1 + 1 + 1) 48 (.slice none 0 0) 1 24 Tryz.underlying22 info_tree rfl (by omega) (.slice at3 i ct3) rfl i us huo hup ⟨wr.heap.size,0,none⟩ 1 rfl [.slice avt q cvt] rfl ?g14 ?g15 ?g16 ?g17 (by omega) (by omega) hsz2 ?_
                 case g14 => exact news_block (heap_alloc_new _ _)
                 case g15 => simp [Value.oneCell']
                 case g16 => simp [limb_slice]
                 case g17 => simp [Value.cells,limb_slice]
                 intro gN cN w5 ho5 hg5 _ hp5 hk5
                 have MO5 : MOwn (w.heap.size + 1 + 1 + 1) w5 (.slice (some ⟨gN,0,none⟩) (i + 1) cN) (i + 1) (fun i => min (N i) 15) T 4 := MO2.more1 huo (by rw [← HQ.out]; exact TO2) ho5 hg5 (fun g hg => by cases hg; exact hp5) hk5
                 have hlow : Below (w.heap.size + 1 + 1 + 1) (wr.alloc (.cells #[.slice avt q cvt] 48)) w5 := below_grownB (Below.refl _ _) hg5 hsz2 (fun g hg => (hbk g hg).1)
                 have VO5 : V2 w5 (w.heap.size + 1 + 1) (.int .i64 F) (.slice at3 i ct3) := ⟨(hlow.cell (p := ⟨_,0,none⟩) (by show w.heap.size + 1 + 1 < _; omega)).trans VO3.1,(hlow.cell (p := ⟨_,1,none⟩) (by show w.heap.size + 1 + 1 < _; omega)).trans VO3.2.1,(hlow.frozen (p := ⟨_,0,none⟩) (by show w.heap.size + 1 + 1 < _; omega)).trans VO3.2.2.1,(hlow.frozen (p := ⟨_,1,none⟩) (by show w.heap.size + 1 + 1 < _; omega)).trans VO3.2.2.2⟩
                 have BW5 : Below Wb1.heap.size Wb1 w5 := BW2.trans (hlow.mono (by have := HSZ.out; omega))
                 obtain ⟨U_0,U_1,U_2,U_3⟩ := id VO5
                 have K5 : KeepQ IsLimb w5 (w5.setCell ⟨w.heap.size + 1 + 1,1,none⟩ (.slice (some ⟨gN,0,none⟩) (i + 1) cN)) := keepL_set U_1 (limb_slice _ _ _) _
                 have MO6 := MO5.set (a := ⟨w.heap.size + 1 + 1,1,none⟩) (by show w.heap.size + 1 + 1 < _; omega) _ K5
                 have VO6 : V2 (w5.setCell ⟨w.heap.size + 1 + 1,1,none⟩ (.slice (some ⟨gN,0,none⟩) (i + 1) cN)) (w.heap.size + 1 + 1) (.int .i64 F) (.slice (some ⟨gN,0,none⟩) (i + 1) cN) := ⟨cell_set_by U_0 (by omega),cell_set_at U_1,by simp [U_2],by simp [U_3]⟩
                 have BW6 := BW5.setCell (p := ⟨w.heap.size + 1 + 1,1,none⟩) (by show Wb1.heap.size ≤ w.heap.size + 1 + 1; have := HSZ.out; omega) (.slice (some ⟨gN,0,none⟩) (i + 1) cN)
                 clear ho5 hg5 hp5 hk5 huo hup hbk hlow hA MO5 MO2 TO2 K5 VO5 VO3 BW5 BW2))
            go_roundw
            case rel => exact ⟨i + 1,_,by omega,by go_num,VO6,MO6,BW6⟩
            case measure => simp [intOf]; omega
          · have c1 : ¬ (q : Int) < (ni : Int) := by omega
            have c1b : decide ((q : Int) < (ni : Int)) = false := decide_eq_false c1
            go_wp2_with (first
              | (at_builtin
                 refine wpList_append_pure (Q' := IsLimb) rfl _ _ _ rfl (w.heap.size + 1 + 1 + 1) 48 (.slice none 0 0) 1 24 Tryz.underlying22 info_tree rfl (by omega) (.slice at3 i ct3) rfl i us huo hup ⟨wr.heap.size,0,none⟩ 1 rfl [.slice avt q cvt] rfl ?g14 ?g15 ?g16 ?g17 (by omega) (by omega) hsz2 ?_
                 case g14 => exact news_block (heap_alloc_new _ _)
                 case g15 => simp [Value.oneCell']
                 case g16 => simp [limb_slice]
                 case g17 => simp [Value.cells,limb_slice]
                 intro gN cN w5 ho5 hg5 _ hp5 hk5
                 have MO5 : MOwn (w.heap.size + 1 + 1 + 1) w5 (.slice (some ⟨gN,0,none⟩) (i + 1) cN) (i + 1) (fun i => min (N i) 15) T 4 := MO2.more1 huo (by rw [← HQ.out]; exact TO2) ho5 hg5 (fun g hg => by cases hg; exact hp5) hk5
                 have hlow : Below (w.heap.size + 1 + 1 + 1) (wr.alloc (.cells #[.slice avt q cvt] 48)) w5 := below_grownB (Below.refl _ _) hg5 hsz2 (fun g hg => (hbk g hg).1)
                 have VO5 : V2 w5 (w.heap.size + 1 + 1) (.int .i64 F) (.slice at3 i ct3) := ⟨(hlow.cell (p := ⟨_,0,none⟩) (by show w.heap.size + 1 + 1 < _; omega)).trans VO3.1,(hlow.cell (p := ⟨_,1,none⟩) (by show w.heap.size + 1 + 1 < _; omega)).trans VO3.2.1,(hlow.frozen (p := ⟨_,0,none⟩) (by show w.heap.size + 1 + 1 < _; omega)).trans VO3.2.2.1,(hlow.frozen (p := ⟨_,1,none⟩) (by show w.heap.size + 1 + 1 < _; omega)).trans VO3.2.2.2⟩
                 have BW5 : Below Wb1.heap.size Wb1 w5 := BW2.trans (hlow.mono (by have := HSZ.out; omega))
                 obtain ⟨U_0,U_1,U_2,U_3⟩ := id VO5
                 have K5 : KeepQ IsLimb w5 (w5.setCell ⟨w.heap.size + 1 + 1,1,none⟩ (.slice (some ⟨gN,0,none⟩) (i + 1) cN)) := keepL_set U_1 (limb_slice _ _ _) _
                 have MO6 := MO5.set (a := ⟨w.heap.size + 1 + 1,1,none⟩) (by show w.heap.size + 1 + 1 < _; omega) _ K5
                 have VO6 : V2 (w5.setCell ⟨w.heap.size + 1 + 1,1,none⟩ (.slice (some ⟨gN,0,none⟩) (i + 1) cN)) (w.heap.size + 1 + 1) (.int .i64 F) (.slice (some ⟨gN,0,none⟩) (i + 1) cN) := ⟨cell_set_by U_0 (by omega),cell_set_at U_1,by simp [U_2],by simp [U_3]⟩
                 have BW6 := BW5.setCell (p := ⟨w.heap.size + 1 + 1,1,none⟩) (by show Wb1.heap.size ≤ w.heap.size + 1 + 1; have := HSZ.out; omega) (.slice (some ⟨gN,0,none⟩) (i + 1) cN)
                 clear ho5 hg5 hp5 hk5 huo hup hbk hlow hA MO5 MO2 TO2 K5 VO5 VO3 BW5 BW2))
            go_roundw
            case rel => exact ⟨i + 1,_,by omega,by go_num,VO6,MO6,BW6⟩
            case measure => simp [intOf]; omega
    · have hik : i = min k 6 := by omega
      have VR := VR0.below BL
      have BB := BB0.out.trans (BL.mono BB0.out.size)
      obtain ⟨VO_0,VO_1,VO_2,VO_3⟩ := id VO
      obtain ⟨q1,q2,q3,q4⟩ := id VR
      have HIK : Hid (i = min k 6) := hik
      clear hik
      have K1 : KeepQ IsLimb wr (wr.setCell ⟨w.heap.size + 1,0,none⟩ (.int .i64 F)) := keepL_set q1 (limb_int 0) _
      have K2 := keepL_set (cell_set_by (u := .int .i64 F) (j := 0) q2 (by omega)) (limb_slice _ _ _) (.slice at3 i ct3)
      have MO2 := (MO.set (a := ⟨w.heap.size + 1,0,none⟩) (by show w.heap.size + 1 < _; omega) _ K1).set (a := ⟨w.heap.size + 1,1,none⟩) (by show w.heap.size + 1 < _; omega) _ K2
      have HMR : Hid (MOwn w.heap.size _ (.slice at3 i ct3) i (fun i => min (N i) 15) T 4) := MO2.le (by omega)
      have BB2 := (BB.setCell (p := ⟨w.heap.size + 1,0,none⟩) (by show w.heap.size ≤ w.heap.size + 1; omega) (.int .i64 F)).setCell (p := ⟨w.heap.size + 1,1,none⟩) (by show w.heap.size ≤ w.heap.size + 1; omega) (.slice at3 i ct3)
      clear MO2 K1 K2 MO
      by_cases hk6 : i < k
      · have g1 : (i : Int) < (k : Int) := by omega
        have g2 : ¬ (i : Int) < 6 := by have := HIK.out; omega
        go_wp2
        (try simp only [Exit.inBlock,Exit.then])
        refine bodyPost_ret (v := .agg #[.int .i64 F,.slice at3 i ct3]) (by simp [results,go_sem,q1,q2]) rfl ?_
        have h9 := HMR.out
        have h8 := HIK.out
        exact ⟨_,rfl,by rw [← h8]; exact h9,BB2⟩
      · have g1 : ¬ (i : Int) < (k : Int) := by omega
        have g1b : decide ((i : Int) < (k : Int)) = false := decide_eq_false g1
        go_wp2
        (try simp only [Exit.inBlock,Exit.then])
        refine bodyPost_ret (v := .agg #[.int .i64 F,.slice at3 i ct3]) (by simp [results,go_sem,q1,q2]) rfl ?_
        have h9 := HMR.out
        have h8 := HIK.out
        exact ⟨_,rfl,by rw [← h8]; exact h9,BB2⟩

set_option maxRecDepth 20000 in
set_option maxHeartbeats 1000000 in
theorem number9_at (p : Bool) (s t : Value) (n m : Nat) (f g : Nat → Int) (w : World) (h : Raw w s n f) (k : Raw w t m g) :
  Calls Tryz.prog 57 #[.agg #[.bool p,s,t]] w fun e w' => FewOut p (min n 3) (min m 3) f g w e w' := by
 have hA : ∀ o o',Below w.heap.size w ((w.alloc o).alloc o') := fun o o' => ((Below.refl _ _).alloc (Nat.le_refl _) _).alloc (by simp) _
 obtain ⟨ao,c,rfl,hnil,hnc,hcm,hu,h4⟩ := h
 obtain ⟨bo,d,rfl,knil,knc,kcm,ku,k4⟩ := k
 unfold maxLen at hcm kcm
 by_cases hlt : 3 < n
 ·obtain ⟨b1,off1,rfl,hc⟩ := h4 (by omega)
  have hN : Nums .u64 w (.slice (some ⟨b1,off1,none⟩) 3 c) 3 f := ⟨_,_,rfl,by omega,by unfold LIM; omega,fun _ => ⟨_,_,rfl,hc.mono (by omega)⟩⟩
  have hi : (n : Int) > 3 := by omega
  rw [show min n 3 = 3 by omega]
  by_cases klt : 3 < m
  ·obtain ⟨b2,off2,rfl,kc⟩ := k4 (by omega)
   have kN : Nums .u64 w (.slice (some ⟨b2,off2,none⟩) 3 d) 3 g := ⟨_,_,rfl,by omega,by unfold LIM; omega,fun _ => ⟨_,_,rfl,kc.mono (by omega)⟩⟩
   have ki : (m : Int) > 3 := by omega
   rw [show min m 3 = 3 by omega]
   go_enter Tryz.func57,Tryz.ntmps57
   go_wp2
   refine bodyPost_ret (v := .agg #[.bool p,.slice (some ⟨b1,off1,none⟩) 3 c,.slice (some ⟨b2,off2,none⟩) 3 d]) (by simp [results,go_sem]) rfl ?_
   exact ⟨_,_,_,_,rfl,hN.below (hA _ _),fun i hi => hu i (by omega),kN.below (hA _ _),fun i hi => ku i (by omega),hA _ _⟩
  ·have kN : Nums .u64 w (.slice bo m d) m g := ⟨_,_,rfl,knc,by unfold LIM; omega,k4⟩
   have ki : ¬ (m : Int) > 3 := by omega
   rw [show min m 3 = m by omega]
   go_enter Tryz.func57,Tryz.ntmps57
   go_wp2
   refine bodyPost_ret (v := .agg #[.bool p,.slice (some ⟨b1,off1,none⟩) 3 c,.slice bo m d]) (by simp [results,go_sem]) rfl ?_
   exact ⟨_,_,_,_,rfl,hN.below (hA _ _),fun i hi => hu i (by omega),kN.below (hA _ _),fun i hi => ku i (by omega),hA _ _⟩
 ·have hN : Nums .u64 w (.slice ao n c) n f := ⟨_,_,rfl,hnc,by unfold LIM; omega,h4⟩
  have hi : ¬ (n : Int) > 3 := by omega
  rw [show min n 3 = n by omega]
  by_cases klt : 3 < m
  ·obtain ⟨b2,off2,rfl,kc⟩ := k4 (by omega)
   have kN : Nums .u64 w (.slice (some ⟨b2,off2,none⟩) 3 d) 3 g := ⟨_,_,rfl,by omega,by unfold LIM; omega,fun _ => ⟨_,_,rfl,kc.mono (by omega)⟩⟩
   have ki : (m : Int) > 3 := by omega
   rw [show min m 3 = 3 by omega]
   go_enter Tryz.func57,Tryz.ntmps57
   go_wp2
   refine bodyPost_ret (v := .agg #[.bool p,.slice ao n c,.slice (some ⟨b2,off2,none⟩) 3 d]) (by simp [results,go_sem]) rfl ?_
   exact ⟨_,_,_,_,rfl,hN.below (hA _ _),fun i hi => hu i (by omega),kN.below (hA _ _),fun i hi => ku i (by omega),hA _ _⟩
  ·have kN : Nums .u64 w (.slice bo m d) m g := ⟨_,_,rfl,knc,by unfold LIM; omega,k4⟩
   have ki : ¬ (m : Int) > 3 := by omega
   rw [show min m 3 = m by omega]
   go_enter Tryz.func57,Tryz.ntmps57
   go_wp2
   refine bodyPost_ret (v := .agg #[.bool p,.slice ao n c,.slice bo m d]) (by simp [results,go_sem]) rfl ?_
   exact ⟨_,_,_,_,rfl,hN.below (hA _ _),fun i hi => hu i (by omega),kN.below (hA _ _),fun i hi => ku i (by omega),hA _ _⟩
end Go.Proofs.YtjmagcgobhaenaaGreatDoor
