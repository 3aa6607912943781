/-
  Texts of mine, joined: what lies beneath the statement.
-/
import Derived.Test.YtieeneaebjihlaaGreatDoorJ0bdc9dde62
import Derived.Test.YtieeneaebjihlaaGreatDoorJ61119b3224
import Derived.Deep.Cut
import Derived.Deep.CutRange
namespace Go.Proofs.YtieeneaebjihlaaGreatDoor
open Go.RowKit
set_option linter.unusedVariables false
set_option linter.unusedSimpArgs false

theorem FFar.fap {R : Nat} {w : World} {v : Value} {n : Nat} {q : Nat → Rat} (h : FFar R w v n q) : FAp R (R + 1) none w v n q :=
 ⟨h.1,fun b off c e hn => by have h1 := h.2 b off c e hn; exact ⟨by omega,by omega,by simp,h.1.ffar.2 b off c e hn⟩⟩
theorem FFar.congr {R : Nat} {w : World} {v : Value} {n : Nat} {q q' : Nat → Rat} (h : FFar R w v n q) (e : ∀ i,i < n → q i = q' i) : FFar R w v n q' := by
 obtain ⟨⟨el,h1,h2⟩,h3⟩ := h
 exact ⟨⟨el,h1,fun i hi => by rw [← e i hi]; exact h2 i hi⟩,h3⟩
theorem V4.grown {w w' : World} {R : Nat} {x y z u : Value} {row : Option Nat} (h : V4 w R x y z u) (hg : w.grownBy w' row) (hne : some R ≠ row) : V4 w' R x y z u :=
 ⟨h.1.grown hg hne,(World.cell?_of_block (w := w) (hg.block R h.lt hne)).trans h.2.1,(World.frozen?_of_block (w := w) (hg.block R h.lt hne)).trans h.2.2⟩
/-- A link as a value: a new row, and a number. -/
def LinkVal (B : Nat) (w : World) (v : Value) (N : Nat) (q : Nat → Rat) (r : Rat) : Prop :=
 ∃ am cm p a n c b m d,v = .agg #[.slice am N cm,.bool p,.slice a n c,.slice b m d] ∧ FNew B w (.slice am N cm) N q ∧ RepQ w (.agg #[.bool p,.slice a n c,.slice b m d]) r
theorem LinkVal.below {B : Nat} {w w' : World} {v : Value} {N : Nat} {q : Nat → Rat} {r : Rat} (h : LinkVal B w v N q r) (hb : Below w.heap.size w w') : LinkVal B w' v N q r :=
 let ⟨am,cm,p,a,n,c,b,m,d,e,f,g⟩ := h; ⟨am,cm,p,a,n,c,b,m,d,e,f.below hb,g.below hb⟩
theorem plink_val (v x : Value) (n L X : Nat) (q q' : Nat → Rat) (r r' : Rat) (w : World) (hv : FRow w v n q) (hx : RepQ w x r) (sq : ∀ i,i < n → qsz (q i) ≤ L) (sx : qsz r ≤ X) (ht : Tab w) (hL : 1 ≤ L) (hn1 : n ≤ 1000) (hS : L + X ≤ 40000) (N : Nat) (hN : trimN q n = N) (h0 : 0 < N) (hq : ∀ i,i < N → q i * (q (N - 1))⁻¹ = q' i) (hr : q (N - 1) * r = r') :
  Calls Tryz.prog 51 #[v,x] w fun e w' => ∃ y,e = .returned y ∧ LinkVal w.heap.size w' y N q' r' ∧ Below w.heap.size w w' := by
 subst hN
 refine (plink_some v x n L X q r w hv hx sq sx ht hL hn1 hS h0).mono ?_
 rintro e w' ⟨y,p,a,n3,c,b,m,d,rfl,f,g,hb⟩
 obtain ⟨am,cm,rfl⟩ := f.open
 rw [hr] at g
 exact ⟨_,rfl,⟨am,cm,p,a,n3,c,b,m,d,rfl,f.congr hq,g⟩,hb⟩
theorem plink_zero (v x : Value) (n L : Nat) (q : Nat → Rat) (r : Rat) (w : World) (hv : FRow w v n q) (hx : RepQ w x r) (sq : ∀ i,i < n → qsz (q i) ≤ L) (hL : 1 ≤ L) (hS : L ≤ 40000) (h0 : trimN q n = 0) :
  Calls Tryz.prog 51 #[v,x] w fun e w' => e = .returned (.agg #[.slice none 0 0,.bool false,.slice none 0 0,.slice none 0 0]) ∧ Below w.heap.size w w' := by
 obtain ⟨px,ax,nx,cx,bx,mx,dx,rfl⟩ := hx.open
 exact plink_none v n L q px ax nx cx bx mx dx w hv sq hL hS h0
/-- The rest of two of a chain. -/
def restQ (N : Nat → Nat) (Q : Nat → Nat → Rat) (t : Nat) : Nat → Rat := divR (Q (t + 1)) (N (t + 1) - 1) (N t - (N (t + 1) - 1)) (Q t)
/-- T links: each behind the first two is the rest of the two ahead, made monic, and what it is times, with the other sign. -/
structure IsChain (T : Nat) (N : Nat → Nat) (Q : Nat → Nat → Rat) (R : Nat → Rat) (L : Nat) : Prop where
 pos : ∀ t,t < T → 0 < N t
 zero : N T = 0
 small : ∀ t,t < T → N t ≤ 1000
 sz : ∀ t i,t < T → i < N t → qsz (Q t i) ≤ L
 szR : ∀ t,t < T → qsz (R t) ≤ L
 top : ∀ t,t < T → Q t (N t - 1) ≠ 0
 len : ∀ t,t + 1 < T → trimN (restQ N Q t) (min (N t) (N (t + 1) - 1)) = N (t + 2)
 szS : ∀ t,t + 1 < T → szS L (N t - (N (t + 1) - 1)) ≤ 40000
 szr : ∀ t i,t + 1 < T → i < N (t + 2) → qsz (restQ N Q t i) ≤ L
 next : ∀ t,t + 2 < T → (∀ i,i < N (t + 2) → restQ N Q t i * (restQ N Q t (N (t + 2) - 1))⁻¹ = Q (t + 2) i) ∧ restQ N Q t (N (t + 2) - 1) * -(R t) = R (t + 2)
 most : L ≤ 20000
 least : 2 ≤ L
/-- How many a slice holds. -/
def lenC : Value → Nat
 | .slice _ n _ => n
 | _ => 0
/-- The variable next: a link, or none. -/
def NextVar (R4 R5 : Nat) (o : Option Nat) (w : World) (T : Nat) (N : Nat → Nat) (Q : Nat → Nat → Rat) (R : Nat → Rat) (t : Nat) : Prop :=
 (t < T ∧ ∃ y p a n c b m d,V4 w R5 y (.bool p) (.slice a n c) (.slice b m d) ∧ LinkAt R4 R5 o w y p a n c b m d (N t) (Q t) (R t)) ∨ (t = T ∧ V4 w R5 (.slice none 0 0) (.bool false) (.slice none 0 0) (.slice none 0 0))
theorem LinkVal.le {B B' : Nat} {w : World} {v : Value} {N : Nat} {q : Nat → Rat} {r : Rat} (h : LinkVal B w v N q r) (hb : B' ≤ B) : LinkVal B' w v N q r :=
 let ⟨am,cm,p,a,n,c,b,m,d,e,f,g⟩ := h; ⟨am,cm,p,a,n,c,b,m,d,e,f.le hb,g⟩
theorem COwn.lt {R4 R5 B : Nat} {w : World} {v : Value} {t : Nat} {N : Nat → Nat} {Q : Nat → Nat → Rat} {R : Nat → Rat} (h : COwn R4 R5 B w v t N Q R) {g : Nat} (hg : v.ownBlock = some g) : g < w.heap.size := by
 obtain ⟨us,o,_⟩ := h; exact (o.lt g hg).2
theorem qsz_neg_le {q : Rat} {L : Nat} (h : qsz q ≤ L) : qsz (-q) ≤ L := by
 rw [qsz_neg]; exact h
theorem trimN_self {q : Nat → Rat} {n m : Nat} (h : trimN q n = m) : trimN q m = m := by rw [← h]; exact trimN_idem q n
theorem V4.other4 {w : World} {R R' : Nat} {x y z u : Value} (h : V4 w R' x y z u) (hne : R' ≠ R) (x' y' z' u' : Value) : V4 ((((w.setCell ⟨R,0,none⟩ x').setCell ⟨R,1,none⟩ y').setCell ⟨R,2,none⟩ z').setCell ⟨R,3,none⟩ u') R' x y z u :=
 h.grown (grown_set4 w R x' y' z' u') (fun e => by injection e; omega)


set_option maxRecDepth 100000 in
set_option maxHeartbeats 8000000 in
theorem plinks_at (v : Value) (n : Nat) (q : Nat → Rat) (T : Nat) (N : Nat → Nat) (Q : Nat → Nat → Rat) (R : Nat → Rat) (L : Nat) (w : World) (hv : FRow w v n q) (ht : Tab w) (hC : IsChain T N Q R L) (hT : 2 ≤ T) (hTM : T ≤ 1000000) (hn : n ≤ 1000) (sq : ∀ i,i < n → qsz (q i) ≤ L) (e0 : trimN q n = N 0) (e1 : ∀ i,i < N 0 → q i * (q (N 0 - 1))⁻¹ = Q 0 i) (e2 : q (N 0 - 1) * 1 = R 0) (d0 : trimN (fun i => q (i + 1) * (((i + 1 : Nat) : Int) : Rat)) (n - 1) = N 1) (d1 : ∀ i,i < N 1 → (fun i => q (i + 1) * (((i + 1 : Nat) : Int) : Rat)) i * ((fun i => q (i + 1) * (((i + 1 : Nat) : Int) : Rat)) (N 1 - 1))⁻¹ = Q 1 i) (d2 : (fun i => q (i + 1) * (((i + 1 : Nat) : Int) : Rat)) (N 1 - 1) * 1 = R 1) (sd : ∀ i,i < N 1 → qsz ((fun i => q (i + 1) * (((i + 1 : Nat) : Int) : Rat)) i) ≤ L) :
  Calls Tryz.prog 32 #[v] w fun e w' => ∃ u,e = .returned u ∧ CRow w' u T N Q R ∧ Below w.heap.size w w' := by
 have hL2 := hC.least
 have hLM := hC.most
 have HP0 := hC.pos 0 (by omega)
 have HP1 := hC.pos 1 (by omega)
 have HS1 := hC.small 1 (by omega)
 have HC : Hid (IsChain T N Q R L) := hC
 clear hC
 have S1 : qsz (1 : Rat) ≤ L := Nat.le_trans (by decide +kernel) hL2
 obtain ⟨ao,c,rfl⟩ := hv.open
 have BB : Below w.heap.size w w := Below.refl _ _
 go_enter Tryz.func32,Tryz.ntmps32
 go_wp2_with fail
 refine (qone_at _).mono ?_
 rintro e w1 ⟨x1,rfl,h1,b1⟩
 replace hv := hv.below b1
 replace ht := ht.below b1
 replace BB := BB.trans (b1.mono BB.size)
 clear b1
 go_wp2_with fail
 refine (plink_val _ _ n L L q (Q 0) 1 (R 0) _ hv h1 sq S1 ht (by omega) hn (by omega) (N 0) e0 HP0 e1 e2).mono ?_
 rintro e w2 ⟨y0,rfl,K0,b2⟩
 replace hv := hv.below b2
 replace ht := ht.below b2
 replace h1 := h1.below b2
 replace BB := BB.trans (b2.mono BB.size)
 clear b2
 go_wp2_with fail
 clear h1
 refine (pderive_at _ n q L _ (hv.q L sq) ht (by omega) hL2 (by omega)).mono ?_
 rintro e w3 ⟨x2,rfl,FD,b3⟩
 replace hv := hv.below b3
 replace ht := ht.below b3
 replace K0 := K0.below b3
 replace BB := BB.trans (b3.mono BB.size)
 clear b3
 rw [d0] at FD
 go_wp2_with fail
 refine (qone_at _).mono ?_
 rintro e w4 ⟨x3,rfl,h3,b4⟩
 replace hv := hv.below b4
 replace ht := ht.below b4
 replace K0 := K0.below b4
 replace FD := FD.below b4
 replace BB := BB.trans (b4.mono BB.size)
 clear b4
 go_wp2_with fail
 refine (plink_val _ _ (N 1) L L (fun i => q (i + 1) * (((i + 1 : Nat) : Int) : Rat)) (Q 1) 1 (R 1) _ FD.1 h3 sd S1 ht (by omega) HS1 (by omega) (N 1) (trimN_self d0) HP1 d1 d2).mono ?_
 rintro e w5 ⟨y1,rfl,K1,b5⟩
 replace hv := hv.below b5
 replace ht := ht.below b5
 replace K0 := K0.below b5
 replace FD := FD.below b5
 replace h3 := h3.below b5
 replace BB := BB.trans (b5.mono BB.size)
 clear b5
 clear h3 FD hv
 obtain ⟨am0,cm0,p0,a0,n0,c0,b0,m0,d0_,rfl,F0,r0⟩ := K0
 obtain ⟨am1,cm1,p1,a1,n1,c1,b1,m1,d1_,rfl,F1,r1⟩ := K1
 have FF0 := F0.1.ffar
 have FF1 := F1.1.ffar
 clear F0 F1
 have hZ1 : w.heap.size ≤ w5.heap.size := BB.size
 obtain ⟨W2,hW2,hS2,hL2,VA⟩ := V4.lay w5 60 (.slice am0 (N 0) cm0) (.bool p0) (.slice a0 n0 c0) (.slice b0 m0 d0_)
 replace ht := ht.below hL2
 replace FF0 := FF0.below hL2
 replace FF1 := FF1.below hL2
 replace r0 := r0.below hL2
 replace r1 := r1.below hL2
 replace BB := BB.trans (hL2.mono BB.size)
 clear hL2
 obtain ⟨W3,hW3,hS3,hL3,VB⟩ := V4.lay W2 60 (.slice am1 (N 1) cm1) (.bool p1) (.slice a1 n1 c1) (.slice b1 m1 d1_)
 replace ht := ht.below hL3
 replace FF0 := FF0.below hL3
 replace FF1 := FF1.below hL3
 replace r0 := r0.below hL3
 replace r1 := r1.below hL3
 replace VA := VA.below hL3
 replace BB := BB.trans (hL3.mono BB.size)
 clear hL3
 rw [hS2] at VB
 go_upto_if 18 with (fail)
 rw [← hW2]
 rw [← hW3]
 generalize w5.heap.size = R1 at *
 clear hW2 hS2 hW3 hS3
 have hVA := VA.lt
 have hVB := VB.lt
 have hZ0 : w.heap.size ≤ R1 := by omega
 have HN0 : (0 : Int) < (N 0 : Int) := by omega
 obtain ⟨⟨x1,x2,x3,x4,x5,x6⟩,x7,x8⟩ := id VA
 have A2 : Below W3.heap.size W3 (W3.alloc (.cells #[.slice am0 (N 0) cm0,.bool p0,.slice a0 n0 c0,.slice b0 m0 d0_] 60)) := (Below.refl _ _).alloc (Nat.le_refl _) _
 go_wp2_with (at_builtin; refine wpList_append_pure (Q' := IsNum) rfl _ _ _ rfl w.heap.size 60 (.agg #[.slice none 0 0,.bool false,.slice none 0 0,.slice none 0 0]) 4 80 Tryz.underlying57 info_link rfl (by omega) (.slice none 0 0) rfl (0) ([]) (World.ownsRow_nil _ _ _ _) (fun g hg => by cases hg) ⟨W3.heap.size,0,none⟩ 1 rfl [.slice am0 (N 0) cm0,.bool p0,.slice a0 n0 c0,.slice b0 m0 d0_] rfl (news_block (heap_alloc_new _ _)) (by simp [Value.oneCell']) (by simp [num_slice,num_bool]) (by simp [Value.cells,num_slice,num_bool]) (by omega) (by omega) (by have := BB.size; simp; omega) ?_)
 intro g5 cap5 w5 ho5 hg5 hat5 hp5 hk5
 clear x1 x2 x3 x4 x5 x6 x7 x8
 replace hat5 : (Value.slice none 0 0).ownBlock = some g5 ∨ g5 = (W3.alloc (.cells #[.slice am0 (N 0) cm0,.bool p0,.slice a0 n0 c0,.slice b0 m0 d0_] 60)).heap.size := by rw [World.size_alloc]; exact hat5
 have hb5 := below_grown hg5
 have A5 : Below W3.heap.size W3 w5 := A2.trans (hb5.mono A2.size)
 have E5 : COwn R1 (R1 + 1) w.heap.size w5 (.slice (some ⟨g5,0,none⟩) (0 + 1) cap5) (0 + 1) N Q R := COwn.more (World.ownsRow_nil _ _ _ _) (fun g hg => by cases hg) (fun i hi => by omega) ⟨FF0.fap.below A2,r0.below A2⟩ (by have := A2.size; omega) (by have := A2.size; omega) ho5 hg5 hat5 hp5 hk5
 have K0 : LinkAt R1 (R1 + 1) (some g5) w5 (.slice am0 (N 0) cm0) p0 a0 n0 c0 b0 m0 d0_ (N 0) (Q 0) (R 0) := LinkAt.grow (o := none) ⟨FF0.fap.below A2,r0.below A2⟩ hg5 hk5 (.inr (by rcases hat5 with h | h; cases h; rw [h]))
 have K1 : LinkAt R1 (R1 + 1) (some g5) w5 (.slice am1 (N 1) cm1) p1 a1 n1 c1 b1 m1 d1_ (N 1) (Q 1) (R 1) := LinkAt.grow (o := none) ⟨FF1.fap.below A2,r1.below A2⟩ hg5 hk5 (.inr (by rcases hat5 with h | h; cases h; rw [h]))
 replace VA := VA.below A5
 replace VB := VB.below A5
 replace ht := ht.below A5
 have B5 : Below w.heap.size w w5 := BB.trans (A5.mono BB.size)
 clear A2 A5 hb5 ho5 hg5 hat5 hp5 hk5 BB FF0 FF1 r0 r1
 go_wp2
 go_loopw [3] (fun vo wr => ∃ (t g cap : Nat) (y : Value) (p : Bool) (a : Option Addr) (n c : Nat) (b : Option Addr) (m d : Nat),t < T ∧ vo = .slice (some ⟨g,0,none⟩) (t + 1) cap ∧ V4 wr R1 y (.bool p) (.slice a n c) (.slice b m d) ∧ LinkAt R1 (R1 + 1) (some g) wr y p a n c b m d (N t) (Q t) (R t) ∧ NextVar R1 (R1 + 1) (some g) wr T N Q R (t + 1) ∧ COwn R1 (R1 + 1) w.heap.size wr (.slice (some ⟨g,0,none⟩) (t + 1) cap) (t + 1) N Q R ∧ Tab wr ∧ Below w.heap.size w wr) (fun vo _ => T - lenC vo)
 case atStart => exact ⟨0,g5,cap5,_,_,_,_,_,_,_,_,by omega,rfl,VA,K0,.inl ⟨by omega,_,_,_,_,_,_,_,_,VB,K1⟩,E5,ht,B5⟩
 case round =>
  obtain ⟨t,g,cap,y,p,a,n_,c_,b,m,d_,ht1,rfl,VA,KA,NV,CO,ht,BB⟩ := hrel
  rcases NV with ⟨hlt,y2,p2,a2,n2,c2,b2,m2,d2_,VB,KB⟩ | ⟨hEnd,VB⟩
  ·obtain ⟨ay,cy,rfl⟩ := KA.1.1.open
   obtain ⟨ay2,cy2,rfl⟩ := KB.1.1.open
   have hp2 := HC.out.pos (t + 1) hlt
   have hpi : (0 : Int) < (N (t + 1) : Int) := by omega
   obtain ⟨us,uo,u1,u2⟩ := CO
   have hVA := VA.lt
   have hVB := VB.lt
   obtain ⟨⟨x1,x2,x3,x4,x5,x6⟩,x7,x8⟩ := id VB
   have A2 : Below wr.heap.size wr (wr.alloc (.cells #[.slice ay2 (N (t + 1)) cy2,.bool p2,.slice a2 n2 c2,.slice b2 m2 d2_] 60)) := (Below.refl _ _).alloc (Nat.le_refl _) _
   have HU1 : Hid (∀ g0,(Value.slice (some ⟨g,0,none⟩) (t + 1) cap).ownBlock = some g0 → PureB IsNum wr g0 ∧ g0 ≠ R1 ∧ g0 ≠ R1 + 1) := u1
   have HU2 := u2
   have HU2h : Hid (∀ i,i < t + 1 → ∃ y p a n c b m d,us[i * 4]? = some y ∧ us[i * 4 + 1]? = some (.bool p) ∧ us[i * 4 + 2]? = some (.slice a n c) ∧ us[i * 4 + 3]? = some (.slice b m d) ∧ LinkAt R1 (R1 + 1) (some g) wr y p a n c b m d (N i) (Q i) (R i)) := u2
   clear u1 u2 HU2
   have htb : t ≤ 1000000 := Nat.le_trans (Nat.le_of_lt ht1) hTM
   go_wp2_with (at_builtin; refine wpList_append_pure (Q' := IsNum) rfl _ _ _ rfl w.heap.size 60 (.agg #[.slice none 0 0,.bool false,.slice none 0 0,.slice none 0 0]) 4 80 Tryz.underlying57 info_link rfl (by omega) (.slice (some ⟨g,0,none⟩) (t + 1) cap) rfl (t + 1) (us) (uo.alloc _) (fun g0 hg0 => (HU1.out g0 hg0).1.below A2 (uo.lt g0 hg0).2) ⟨wr.heap.size,0,none⟩ 1 rfl [.slice ay2 (N (t + 1)) cy2,.bool p2,.slice a2 n2 c2,.slice b2 m2 d2_] rfl (news_block (heap_alloc_new _ _)) (by simp [Value.oneCell']) (by simp [num_slice,num_bool]) (by simp [Value.cells,num_slice,num_bool]) (by omega) (by omega) (by have := BB.size; simp; omega) ?_)
   intro g5 cap5 w5 ho5 hg5 hat5 hp5 hk5
   clear x1 x2 x3 x4 x5 x6 x7 x8
   replace hat5 : (Value.slice (some ⟨g,0,none⟩) (t + 1) cap).ownBlock = some g5 ∨ g5 = (wr.alloc (.cells #[.slice ay2 (N (t + 1)) cy2,.bool p2,.slice a2 n2 c2,.slice b2 m2 d2_] 60)).heap.size := by rw [World.size_alloc]; exact hat5
   have ho' : some g5 = some g ∨ some g5 = some (wr.alloc (.cells #[.slice ay2 (N (t + 1)) cy2,.bool p2,.slice a2 n2 c2,.slice b2 m2 d2_] 60)).heap.size := by rcases hat5 with h | h; exact .inl h.symm; exact .inr (by rw [h])
   have E5 : COwn R1 (R1 + 1) w.heap.size w5 (.slice (some ⟨g5,0,none⟩) (t + 1 + 1) cap5) (t + 1 + 1) N Q R := COwn.more (owns_later uo A2) (fun g0 hg0 => ⟨(HU1.out g0 hg0).1.below A2 (uo.lt g0 hg0).2,(HU1.out g0 hg0).2⟩) (fun i hi => let ⟨y,p,a,n,c,b,m,d,e1,e2,e3,e4,k⟩ := HU2h.out i hi; ⟨y,p,a,n,c,b,m,d,e1,e2,e3,e4,k.below A2⟩) (KB.below A2) (by have := A2.size; omega) (by have := A2.size; omega) ho5 hg5 hat5 hp5 hk5
   obtain ⟨hgA,hgB⟩ := (HU1.out g rfl).2
   have KA5 := (KA.below A2).grow hg5 hk5 ho'
   have KB5 := (KB.below A2).grow hg5 hk5 ho'
   have VA5 := (VA.below A2).grown hg5 (fun e => by injection e with e; exact hgA e.symm)
   have VB5 := (VB.below A2).grown hg5 (fun e => by injection e with e; exact hgB e.symm)
   have ht5 := (ht.below A2).keep hk5
   have B5 : Below w.heap.size w w5 := below_grownB (BB.trans (A2.mono BB.size)) hg5 (by have := BB.size; have := A2.size; omega) (fun g0 hg0 => (uo.lt g0 hg0).1)
   clear A2 ho5 hg5 hat5 hp5 hk5 ho' HU1 HU2h uo KA KB VA VB ht BB
   have KA := KA5
   have KB := KB5
   have VA := VA5
   have VB := VB5
   have ht := ht5
   have BB := B5
   have CO := E5
   clear KA5 KB5 VA5 VB5 ht5 B5 E5
   obtain ⟨⟨x1,x2,x3,x4,x5,x6⟩,x7,x8⟩ := id VA
   obtain ⟨⟨z1,z2,z3,z4,z5,z6⟩,z7,z8⟩ := id VB
   go_wp2_with fail
   clear x1 x2 x3 x4 x5 x6 x7 x8 z1 z2 z3 z4 z5 z6 z7 z8
   refine (pdivide_at _ _ (N t) (N (t + 1)) (Q t) (Q (t + 1)) L _ KA.1.1 KB.1.1 (fun i hi => HC.out.sz t i ht1 hi) (fun i hi => HC.out.sz (t + 1) i hlt hi) ht (HC.out.small t ht1) (HC.out.small (t + 1) hlt) hp2 (HC.out.top (t + 1) hlt) (by omega) (HC.out.szS t hlt)).mono ?_
   rintro e w6 ⟨xq,yr,rfl,FQ,FR_,b6⟩
   replace KA := KA.below b6
   replace KB := KB.below b6
   replace CO := CO.below b6
   replace ht := ht.below b6
   replace VA := VA.below b6
   replace VB := VB.below b6
   replace BB := BB.trans (b6.mono BB.size)
   clear b6
   have hlen := HC.out.len t hlt
   unfold restQ at hlen
   rw [hlen] at FR_
   have FR : FNew w5.heap.size w6 yr (N (t + 2)) (restQ N Q t) := FR_
   clear FR_ FQ hlen
   obtain ⟨ar,cr,rfl⟩ := FR.1.open
   go_wp2_with fail
   have hgl : g5 < w6.heap.size := CO.lt rfl
   by_cases hl2 : t + 2 < T
   ·refine wp_region_until 6 #[true,true,true,true,true,true,false,false] (fun aF lsd a' w' => ∃ vu0 vu1 vu2 vu3 vu4 vu5 : Value,a' = (((((aF.put (some 39) vu0).put (some 40) vu1).put (some 41) vu2).put (some 42) vu3).put (some 43) vu4).put (some 44) vu5 ∧ Below w6.heap.size w6 w' ∧ (lsd.getD 0 false = true → vu0 = .agg #[.slice ay2 (N (t + 1)) cy2,.bool p2,.slice a2 n2 c2,.slice b2 m2 d2_]) ∧ (lsd.getD 1 false = true → vu1 = .slice ar (N (t + 2)) cr) ∧ (lsd.getD 2 false = true → vu2 = .pointer (some ⟨R1,1,none⟩)) ∧ (lsd.getD 3 false = true → vu3 = .agg #[.bool p,.slice a n_ c_,.slice b m d_]) ∧ (lsd.getD 4 false = true → RepQ w' vu4 (-(R t))) ∧ (lsd.getD 5 false = true → LinkVal w6.heap.size w' vu5 (N (t + 2)) (Q (t + 2)) (R (t + 2)))) (by kernel_rfl) (by decide) (by kernel_rfl) (by rfl) (by kernel_rfl) ?_ ?_ ?_
    ·exact ⟨_,_,_,_,_,_,by simp only [Act.put,xL4,xL5,xL6]; rfl,(Below.refl _ _).drew,fun h => absurd h (fun h => mark_none h),fun h => absurd h (fun h => mark_none h),fun h => absurd h (fun h => mark_none h),fun h => absurd h (fun h => mark_none h),fun h => absurd h (fun h => mark_none h),fun h => absurd h (fun h => mark_none h)⟩
    ·rintro lsd au wn iu hszu ⟨vu0,vu1,vu2,vu3,vu4,vu5,rfl,hbu,fu0,fu1,fu2,fu3,fu4,fu5⟩ himu hru
     rcases (show iu = 0 ∨ iu = 1 ∨ iu = 2 ∨ iu = 3 ∨ iu = 4 ∨ iu = 5 by omega) with rfl | rfl | rfl | rfl | rfl | rfl
     ·refine wpOp_shut (by rfl) (fun K hK => ?_)
      simp only [Act.put,xL4,xL5,xL6]
      obtain ⟨⟨x1,x2,x3,x4,x5,x6⟩,x7,x8⟩ := VB.below hbu
      go_simp
      exact hK.out _ _ ⟨(.agg #[.slice ay2 (N (t + 1)) cy2,.bool p2,.slice a2 n2 c2,.slice b2 m2 d2_]),vu1,vu2,vu3,vu4,vu5,by simp only [Act.put,xL4,xL5,xL6],hbu,fun _ => rfl,fun h => fu1 (mark_of (by decide) h),fun h => fu2 (mark_of (by decide) h),fun h => fu3 (mark_of (by decide) h),fun h => fu4 (mark_of (by decide) h),fun h => fu5 (mark_of (by decide) h)⟩
     ·refine wpOp_shut (by rfl) (fun K hK => ?_)
      simp only [Act.put,xL4,xL5,xL6]
      go_simp
      exact hK.out _ _ ⟨vu0,(.slice ar (N (t + 2)) cr),vu2,vu3,vu4,vu5,by simp only [Act.put,xL4,xL5,xL6],hbu,fun h => fu0 (mark_of (by decide) h),fun _ => rfl,fun h => fu2 (mark_of (by decide) h),fun h => fu3 (mark_of (by decide) h),fun h => fu4 (mark_of (by decide) h),fun h => fu5 (mark_of (by decide) h)⟩
     ·refine wpOp_shut (by rfl) (fun K hK => ?_)
      simp only [Act.put,xL4,xL5,xL6]
      go_simp
      exact hK.out _ _ ⟨vu0,vu1,(.pointer (some ⟨R1,1,none⟩)),vu3,vu4,vu5,by simp only [Act.put,xL4,xL5,xL6],hbu,fun h => fu0 (mark_of (by decide) h),fun h => fu1 (mark_of (by decide) h),fun _ => rfl,fun h => fu3 (mark_of (by decide) h),fun h => fu4 (mark_of (by decide) h),fun h => fu5 (mark_of (by decide) h)⟩
     ·have eu2 := fu2 (dep_of 2 hru rfl (by kernel_rfl))
      replace eu2 := eu2.symm
      subst eu2
      refine wpOp_shut (by rfl) (fun K hK => ?_)
      simp only [Act.put,xL4,xL5,xL6]
      obtain ⟨⟨x1,x2,x3,x4,x5,x6⟩,x7,x8⟩ := VA.below hbu
      go_simp
      exact hK.out _ _ ⟨vu0,vu1,(.pointer (some ⟨R1,1,none⟩)),(.agg #[.bool p,.slice a n_ c_,.slice b m d_]),vu4,vu5,by simp only [Act.put,xL4,xL5,xL6],hbu,fun h => fu0 (mark_of (by decide) h),fun h => fu1 (mark_of (by decide) h),fun _ => rfl,fun _ => rfl,fun h => fu4 (mark_of (by decide) h),fun h => fu5 (mark_of (by decide) h)⟩
     ·have eu3 := fu3 (dep_of 3 hru rfl (by kernel_rfl))
      replace eu3 := eu3.symm
      subst eu3
      refine wpOp_shut (by rfl) (fun K hK => ?_)
      simp only [Act.put,xL4,xL5,xL6]
      have KA := KA.below hbu
      have ht := ht.below hbu
      go_simp
      refine (qneg_at _ (R t) L _ (KA.2.at L (HC.out.szR t ht1)) (by omega) (by omega) ht).mono ?_
      rintro eu wx ⟨x4,rfl,h4,bu⟩
      go_wp2_with fail
      have hbu2 := hbu.trans (bu.mono hbu.size)
      exact hK.out _ _ ⟨vu0,vu1,vu2,(.agg #[.bool p,.slice a n_ c_,.slice b m d_]),_,vu5,by simp only [Act.put,xL4,xL5,xL6],hbu2,fun h => fu0 (mark_of (by decide) h),fun h => fu1 (mark_of (by decide) h),fun h => fu2 (mark_of (by decide) h),fun _ => rfl,fun _ => h4,fun h => (fu5 (mark_of (by decide) h)).below bu⟩
     ·have eu1 := fu1 (dep_of 1 hru rfl (by kernel_rfl))
      replace eu1 := eu1.symm
      subst eu1
      have h4 := fu4 (dep_of 4 hru rfl (by kernel_rfl))
      refine wpOp_shut (by rfl) (fun K hK => ?_)
      simp only [Act.put,xL4,xL5,xL6]
      have ht := ht.below hbu
      have FR := FR.below hbu
      go_simp
      refine (plink_val _ _ (N (t + 2)) L L (restQ N Q t) (Q (t + 2)) (-(R t)) (R (t + 2)) _ FR.1 h4 (fun i hi => HC.out.szr t i hlt hi) (qsz_neg_le (HC.out.szR t ht1)) ht (by omega) (HC.out.small _ hl2) (by omega) (N (t + 2)) (trimN_self (HC.out.len t hlt)) (HC.out.pos _ hl2) (HC.out.next t hl2).1 (HC.out.next t hl2).2).mono ?_
      rintro eu wx ⟨x5,rfl,h5,bu⟩
      replace h5 := LinkVal.le h5 hbu.size
      go_wp2_with fail
      have hbu2 := hbu.trans (bu.mono hbu.size)
      exact hK.out _ _ ⟨vu0,(.slice ar (N (t + 2)) cr),vu2,vu3,vu4,_,by simp only [Act.put,xL4,xL5,xL6],hbu2,fun h => fu0 (mark_of (by decide) h),fun _ => rfl,fun h => fu2 (mark_of (by decide) h),fun h => fu3 (mark_of (by decide) h),fun h => (fu4 (mark_of (by decide) h)).below bu,fun _ => h5⟩
    rintro au Wu4 ⟨vu0,vu1,vu2,vu3,vu4,vu5,rfl,hbu,fu0,fu1,fu2,fu3,fu4,fu5⟩
    have eu0 := (fu0 rfl).symm
    subst eu0
    have eu1 := (fu1 rfl).symm
    subst eu1
    have eu2 := (fu2 rfl).symm
    subst eu2
    have eu3 := (fu3 rfl).symm
    subst eu3
    have h4 := fu4 rfl
    have h5 := fu5 rfl
    clear fu0 fu1 fu2 fu3 fu4 fu5
    have hlVA : R1 < w6.heap.size := VA.lt
    have hlVB : R1 + 1 < w6.heap.size := VB.lt
    replace KA := KA.below hbu
    replace KB := KB.below hbu
    replace CO := CO.below hbu
    replace ht := ht.below hbu
    replace FR := FR.below hbu
    replace VA := VA.below hbu
    replace VB := VB.below hbu
    replace BB := BB.trans (hbu.mono BB.size)
    clear hbu
    simp only [Act.put,xL4,xL5,xL6]
    refine xR [6] (h := ?_)
    refine AllReadyH.cons (by rfl) (fun K hK => ?_) AllReadyH.nil
    obtain ⟨am5,cm5,p5,a5,n5,c5,b5,m5,d5,rfl,F5,r5⟩ := h5
    clear FR h4
    have hKp := VA.keepJ (.slice ay2 (N (t + 1)) cy2) (.bool p2) (.slice a2 n2 c2) (.slice b2 m2 d2_)
    have hGr := grown_set4 Wu4 (R1) (.slice ay2 (N (t + 1)) cy2) (.bool p2) (.slice a2 n2 c2) (.slice b2 m2 d2_)
    have VA_n := VA.same (.slice ay2 (N (t + 1)) cy2) (.bool p2) (.slice a2 n2 c2) (.slice b2 m2 d2_)
    have VB_n := VB.other4 (R := R1) (by omega) (.slice ay2 (N (t + 1)) cy2) (.bool p2) (.slice a2 n2 c2) (.slice b2 m2 d2_)
    have KA_n := KA.store (.inl rfl) hGr hKp
    have KB_n := KB.store (.inl rfl) hGr hKp
    have CO_n := CO.store (.inl rfl) hGr hKp
    have ht_n := ht.keep hKp
    have BB_n := below_store4 (R := R1) BB (by omega) (.slice ay2 (N (t + 1)) cy2) (.bool p2) (.slice a2 n2 c2) (.slice b2 m2 d2_)
    have F5_n := F5.other hGr hKp (fun g hg => by cases hg; omega)
    have r5_n := r5.keep hKp
    obtain ⟨⟨x1,x2,x3,x4,x5,x6⟩,x7,x8⟩ := id VA
    go_simp
    clear x1 x2 x3 x4 x5 x6 x7 x8
    clear hKp hGr VA VB KA KB CO ht BB F5 r5
    generalize (((Wu4.setCell ⟨R1,0,none⟩ (.slice ay2 (N (t + 1)) cy2)).setCell ⟨R1,1,none⟩ (.bool p2)).setCell ⟨R1,2,none⟩ (.slice a2 n2 c2)).setCell ⟨R1,3,none⟩ (.slice b2 m2 d2_) = W5 at *
    have VA := VA_n
    have VB := VB_n
    have KA := KA_n
    have KB := KB_n
    have CO := CO_n
    have ht := ht_n
    have BB := BB_n
    have F5 := F5_n
    have r5 := r5_n
    clear VA_n VB_n KA_n KB_n CO_n ht_n BB_n F5_n r5_n
    refine hK.out _ _ trivial (fun _ => ?_)
    clear hK K
    simp only [Act.put,xL4,xL5,xL6]
    refine xR [7] (h := ?_)
    refine AllReadyH.cons (by rfl) (fun K hK => ?_) AllReadyH.nil
    have hKp := VB.keepJ (.slice am5 (N (t + 2)) cm5) (.bool p5) (.slice a5 n5 c5) (.slice b5 m5 d5)
    have hGr := grown_set4 W5 (R1 + 1) (.slice am5 (N (t + 2)) cm5) (.bool p5) (.slice a5 n5 c5) (.slice b5 m5 d5)
    have VB_n := VB.same (.slice am5 (N (t + 2)) cm5) (.bool p5) (.slice a5 n5 c5) (.slice b5 m5 d5)
    have VA_n := VA.other4 (R := R1 + 1) (by omega) (.slice am5 (N (t + 2)) cm5) (.bool p5) (.slice a5 n5 c5) (.slice b5 m5 d5)
    have KA_n := KA.store (.inr rfl) hGr hKp
    have KB_n := KB.store (.inr rfl) hGr hKp
    have CO_n := CO.store (.inr rfl) hGr hKp
    have ht_n := ht.keep hKp
    have BB_n := below_store4 (R := R1 + 1) BB (by omega) (.slice am5 (N (t + 2)) cm5) (.bool p5) (.slice a5 n5 c5) (.slice b5 m5 d5)
    have F5_n := F5.other hGr hKp (fun g hg => by cases hg; omega)
    have r5_n := r5.keep hKp
    obtain ⟨⟨x1,x2,x3,x4,x5,x6⟩,x7,x8⟩ := id VB
    go_simp
    clear x1 x2 x3 x4 x5 x6 x7 x8
    clear hKp hGr VA VB KA KB CO ht BB F5 r5
    generalize (((W5.setCell ⟨R1 + 1,0,none⟩ (.slice am5 (N (t + 2)) cm5)).setCell ⟨R1 + 1,1,none⟩ (.bool p5)).setCell ⟨R1 + 1,2,none⟩ (.slice a5 n5 c5)).setCell ⟨R1 + 1,3,none⟩ (.slice b5 m5 d5) = W6 at *
    have VA := VA_n
    have VB := VB_n
    have KA := KA_n
    have KB := KB_n
    have CO := CO_n
    have ht := ht_n
    have BB := BB_n
    have F5 := F5_n
    have r5 := r5_n
    clear VA_n VB_n KA_n KB_n CO_n ht_n BB_n F5_n r5_n
    refine hK.out _ _ trivial (fun _ => ?_)
    clear hK K
    simp only [Act.put,xL4,xL5,xL6]
    refine wpAnyH_done (by kernel_rfl) ?_ _
    go_wp2
    go_roundw
    case rel => exact ⟨t + 1,g5,cap5,_,_,_,_,_,_,_,_,hlt,rfl,VA,KB,.inl ⟨hl2,_,_,_,_,_,_,_,_,VB,F5.fap (by omega) (by omega) (fun g0 hg0 => by injection hg0 with hg0; omega),r5⟩,CO,ht,BB⟩
    case measure => simp only [lenC]; omega
   ·have hz0 : trimN (restQ N Q t) (N (t + 2)) = 0 := by have h1 := HC.out.zero; rw [show t + 2 = T by omega]; rw [h1]; rfl
    refine wp_region_until 6 #[true,true,true,true,true,true,false,false] (fun aF lsd a' w' => ∃ vu0 vu1 vu2 vu3 vu4 vu5 : Value,a' = (((((aF.put (some 39) vu0).put (some 40) vu1).put (some 41) vu2).put (some 42) vu3).put (some 43) vu4).put (some 44) vu5 ∧ Below w6.heap.size w6 w' ∧ (lsd.getD 0 false = true → vu0 = .agg #[.slice ay2 (N (t + 1)) cy2,.bool p2,.slice a2 n2 c2,.slice b2 m2 d2_]) ∧ (lsd.getD 1 false = true → vu1 = .slice ar (N (t + 2)) cr) ∧ (lsd.getD 2 false = true → vu2 = .pointer (some ⟨R1,1,none⟩)) ∧ (lsd.getD 3 false = true → vu3 = .agg #[.bool p,.slice a n_ c_,.slice b m d_]) ∧ (lsd.getD 4 false = true → RepQ w' vu4 (-(R t))) ∧ (lsd.getD 5 false = true → vu5 = .agg #[.slice none 0 0,.bool false,.slice none 0 0,.slice none 0 0])) (by kernel_rfl) (by decide) (by kernel_rfl) (by rfl) (by kernel_rfl) ?_ ?_ ?_
    ·exact ⟨_,_,_,_,_,_,by simp only [Act.put,xL4,xL5,xL6]; rfl,(Below.refl _ _).drew,fun h => absurd h (fun h => mark_none h),fun h => absurd h (fun h => mark_none h),fun h => absurd h (fun h => mark_none h),fun h => absurd h (fun h => mark_none h),fun h => absurd h (fun h => mark_none h),fun h => absurd h (fun h => mark_none h)⟩
    ·rintro lsd au wn iu hszu ⟨vu0,vu1,vu2,vu3,vu4,vu5,rfl,hbu,fu0,fu1,fu2,fu3,fu4,fu5⟩ himu hru
     rcases (show iu = 0 ∨ iu = 1 ∨ iu = 2 ∨ iu = 3 ∨ iu = 4 ∨ iu = 5 by omega) with rfl | rfl | rfl | rfl | rfl | rfl
     ·refine wpOp_shut (by rfl) (fun K hK => ?_)
      simp only [Act.put,xL4,xL5,xL6]
      obtain ⟨⟨x1,x2,x3,x4,x5,x6⟩,x7,x8⟩ := VB.below hbu
      go_simp
      exact hK.out _ _ ⟨(.agg #[.slice ay2 (N (t + 1)) cy2,.bool p2,.slice a2 n2 c2,.slice b2 m2 d2_]),vu1,vu2,vu3,vu4,vu5,by simp only [Act.put,xL4,xL5,xL6],hbu,fun _ => rfl,fun h => fu1 (mark_of (by decide) h),fun h => fu2 (mark_of (by decide) h),fun h => fu3 (mark_of (by decide) h),fun h => fu4 (mark_of (by decide) h),fun h => fu5 (mark_of (by decide) h)⟩
     ·refine wpOp_shut (by rfl) (fun K hK => ?_)
      simp only [Act.put,xL4,xL5,xL6]
      go_simp
      exact hK.out _ _ ⟨vu0,(.slice ar (N (t + 2)) cr),vu2,vu3,vu4,vu5,by simp only [Act.put,xL4,xL5,xL6],hbu,fun h => fu0 (mark_of (by decide) h),fun _ => rfl,fun h => fu2 (mark_of (by decide) h),fun h => fu3 (mark_of (by decide) h),fun h => fu4 (mark_of (by decide) h),fun h => fu5 (mark_of (by decide) h)⟩
     ·refine wpOp_shut (by rfl) (fun K hK => ?_)
      simp only [Act.put,xL4,xL5,xL6]
      go_simp
      exact hK.out _ _ ⟨vu0,vu1,(.pointer (some ⟨R1,1,none⟩)),vu3,vu4,vu5,by simp only [Act.put,xL4,xL5,xL6],hbu,fun h => fu0 (mark_of (by decide) h),fun h => fu1 (mark_of (by decide) h),fun _ => rfl,fun h => fu3 (mark_of (by decide) h),fun h => fu4 (mark_of (by decide) h),fun h => fu5 (mark_of (by decide) h)⟩
     ·have eu2 := fu2 (dep_of 2 hru rfl (by kernel_rfl))
      replace eu2 := eu2.symm
      subst eu2
      refine wpOp_shut (by rfl) (fun K hK => ?_)
      simp only [Act.put,xL4,xL5,xL6]
      obtain ⟨⟨x1,x2,x3,x4,x5,x6⟩,x7,x8⟩ := VA.below hbu
      go_simp
      exact hK.out _ _ ⟨vu0,vu1,(.pointer (some ⟨R1,1,none⟩)),(.agg #[.bool p,.slice a n_ c_,.slice b m d_]),vu4,vu5,by simp only [Act.put,xL4,xL5,xL6],hbu,fun h => fu0 (mark_of (by decide) h),fun h => fu1 (mark_of (by decide) h),fun _ => rfl,fun _ => rfl,fun h => fu4 (mark_of (by decide) h),fun h => fu5 (mark_of (by decide) h)⟩
     ·have eu3 := fu3 (dep_of 3 hru rfl (by kernel_rfl))
      replace eu3 := eu3.symm
      subst eu3
      refine wpOp_shut (by rfl) (fun K hK => ?_)
      simp only [Act.put,xL4,xL5,xL6]
      have KA := KA.below hbu
      have ht := ht.below hbu
      go_simp
      refine (qneg_at _ (R t) L _ (KA.2.at L (HC.out.szR t ht1)) (by omega) (by omega) ht).mono ?_
      rintro eu wx ⟨x4,rfl,h4,bu⟩
      go_wp2_with fail
      have hbu2 := hbu.trans (bu.mono hbu.size)
      exact hK.out _ _ ⟨vu0,vu1,vu2,(.agg #[.bool p,.slice a n_ c_,.slice b m d_]),_,vu5,by simp only [Act.put,xL4,xL5,xL6],hbu2,fun h => fu0 (mark_of (by decide) h),fun h => fu1 (mark_of (by decide) h),fun h => fu2 (mark_of (by decide) h),fun _ => rfl,fun _ => h4,fun h => fu5 (mark_of (by decide) h)⟩
     ·have eu1 := fu1 (dep_of 1 hru rfl (by kernel_rfl))
      replace eu1 := eu1.symm
      subst eu1
      have h4 := fu4 (dep_of 4 hru rfl (by kernel_rfl))
      refine wpOp_shut (by rfl) (fun K hK => ?_)
      simp only [Act.put,xL4,xL5,xL6]
      have FR := FR.below hbu
      go_simp
      refine (plink_zero _ _ (N (t + 2)) L (restQ N Q t) (-(R t)) _ FR.1 h4 (fun i hi => HC.out.szr t i hlt hi) (by omega) (by omega) hz0).mono ?_
      rintro eu wx ⟨rfl,bu⟩
      go_wp2_with fail
      have hbu2 := hbu.trans (bu.mono hbu.size)
      exact hK.out _ _ ⟨vu0,(.slice ar (N (t + 2)) cr),vu2,vu3,vu4,(.agg #[.slice none 0 0,.bool false,.slice none 0 0,.slice none 0 0]),by simp only [Act.put,xL4,xL5,xL6],hbu2,fun h => fu0 (mark_of (by decide) h),fun _ => rfl,fun h => fu2 (mark_of (by decide) h),fun h => fu3 (mark_of (by decide) h),fun h => (fu4 (mark_of (by decide) h)).below bu,fun _ => rfl⟩
    rintro au Wu4 ⟨vu0,vu1,vu2,vu3,vu4,vu5,rfl,hbu,fu0,fu1,fu2,fu3,fu4,fu5⟩
    have eu0 := (fu0 rfl).symm
    subst eu0
    have eu1 := (fu1 rfl).symm
    subst eu1
    have eu2 := (fu2 rfl).symm
    subst eu2
    have eu3 := (fu3 rfl).symm
    subst eu3
    have h4 := fu4 rfl
    have eu5 := (fu5 rfl).symm
    subst eu5
    clear fu0 fu1 fu2 fu3 fu4 fu5
    have hlVA : R1 < w6.heap.size := VA.lt
    have hlVB : R1 + 1 < w6.heap.size := VB.lt
    replace KA := KA.below hbu
    replace KB := KB.below hbu
    replace CO := CO.below hbu
    replace ht := ht.below hbu
    replace FR := FR.below hbu
    replace VA := VA.below hbu
    replace VB := VB.below hbu
    replace BB := BB.trans (hbu.mono BB.size)
    clear hbu
    simp only [Act.put,xL4,xL5,xL6]
    refine xR [6] (h := ?_)
    refine AllReadyH.cons (by rfl) (fun K hK => ?_) AllReadyH.nil
    clear FR h4
    have hKp := VA.keepJ (.slice ay2 (N (t + 1)) cy2) (.bool p2) (.slice a2 n2 c2) (.slice b2 m2 d2_)
    have hGr := grown_set4 Wu4 (R1) (.slice ay2 (N (t + 1)) cy2) (.bool p2) (.slice a2 n2 c2) (.slice b2 m2 d2_)
    have VA_n := VA.same (.slice ay2 (N (t + 1)) cy2) (.bool p2) (.slice a2 n2 c2) (.slice b2 m2 d2_)
    have VB_n := VB.other4 (R := R1) (by omega) (.slice ay2 (N (t + 1)) cy2) (.bool p2) (.slice a2 n2 c2) (.slice b2 m2 d2_)
    have KA_n := KA.store (.inl rfl) hGr hKp
    have KB_n := KB.store (.inl rfl) hGr hKp
    have CO_n := CO.store (.inl rfl) hGr hKp
    have ht_n := ht.keep hKp
    have BB_n := below_store4 (R := R1) BB (by omega) (.slice ay2 (N (t + 1)) cy2) (.bool p2) (.slice a2 n2 c2) (.slice b2 m2 d2_)
    obtain ⟨⟨x1,x2,x3,x4,x5,x6⟩,x7,x8⟩ := id VA
    go_simp
    clear x1 x2 x3 x4 x5 x6 x7 x8
    clear hKp hGr VA VB KA KB CO ht BB
    generalize (((Wu4.setCell ⟨R1,0,none⟩ (.slice ay2 (N (t + 1)) cy2)).setCell ⟨R1,1,none⟩ (.bool p2)).setCell ⟨R1,2,none⟩ (.slice a2 n2 c2)).setCell ⟨R1,3,none⟩ (.slice b2 m2 d2_) = W5 at *
    have VA := VA_n
    have VB := VB_n
    have KA := KA_n
    have KB := KB_n
    have CO := CO_n
    have ht := ht_n
    have BB := BB_n
    clear VA_n VB_n KA_n KB_n CO_n ht_n BB_n
    refine hK.out _ _ trivial (fun _ => ?_)
    clear hK K
    simp only [Act.put,xL4,xL5,xL6]
    refine xR [7] (h := ?_)
    refine AllReadyH.cons (by rfl) (fun K hK => ?_) AllReadyH.nil
    have hKp := VB.keepJ (.slice none 0 0) (.bool false) (.slice none 0 0) (.slice none 0 0)
    have hGr := grown_set4 W5 (R1 + 1) (.slice none 0 0) (.bool false) (.slice none 0 0) (.slice none 0 0)
    have VB_n := VB.same (.slice none 0 0) (.bool false) (.slice none 0 0) (.slice none 0 0)
    have VA_n := VA.other4 (R := R1 + 1) (by omega) (.slice none 0 0) (.bool false) (.slice none 0 0) (.slice none 0 0)
    have KA_n := KA.store (.inr rfl) hGr hKp
    have KB_n := KB.store (.inr rfl) hGr hKp
    have CO_n := CO.store (.inr rfl) hGr hKp
    have ht_n := ht.keep hKp
    have BB_n := below_store4 (R := R1 + 1) BB (by omega) (.slice none 0 0) (.bool false) (.slice none 0 0) (.slice none 0 0)
    obtain ⟨⟨x1,x2,x3,x4,x5,x6⟩,x7,x8⟩ := id VB
    go_simp
    clear x1 x2 x3 x4 x5 x6 x7 x8
    clear hKp hGr VA VB KA KB CO ht BB
    generalize (((W5.setCell ⟨R1 + 1,0,none⟩ (.slice none 0 0)).setCell ⟨R1 + 1,1,none⟩ (.bool false)).setCell ⟨R1 + 1,2,none⟩ (.slice none 0 0)).setCell ⟨R1 + 1,3,none⟩ (.slice none 0 0) = W6 at *
    have VA := VA_n
    have VB := VB_n
    have KA := KA_n
    have KB := KB_n
    have CO := CO_n
    have ht := ht_n
    have BB := BB_n
    clear VA_n VB_n KA_n KB_n CO_n ht_n BB_n
    refine hK.out _ _ trivial (fun _ => ?_)
    clear hK K
    simp only [Act.put,xL4,xL5,xL6]
    refine wpAnyH_done (by kernel_rfl) ?_ _
    go_wp2
    go_roundw
    case rel => exact ⟨t + 1,g5,cap5,_,_,_,_,_,_,_,_,hlt,rfl,VA,KB,.inr ⟨by omega,VB⟩,CO,ht,BB⟩
    case measure => simp only [lenC]; omega
  ·obtain ⟨⟨x1,x2,x3,x4,x5,x6⟩,x7,x8⟩ := id VB
   go_wp2
   go_ret
   refine ⟨_,rfl,?_,BB⟩
   have hr := CO.row (by omega)
   rw [show t + 1 = T from hEnd] at hr
   rw [show t + 1 = T from hEnd]
   exact hr

/-- Turns of sign along s, and the last sign that is not 0. -/
def tw (s : Nat → Int) : Nat → Nat × Int
 | 0 => (0,0)
 | k + 1 => (if s k * (tw s k).2 < 0 then (tw s k).1 + 1 else (tw s k).1,if s k = 0 then (tw s k).2 else s k)
theorem cmpQ_sign (q r : Rat) : -1 ≤ cmpQ q r ∧ cmpQ q r ≤ 1 := by unfold cmpQ; split <;> (try split) <;> omega
theorem mul_sign {a b : Int} (h1 : -1 ≤ a ∧ a ≤ 1) (h2 : -1 ≤ b ∧ b ≤ 1) : -1 ≤ a * b ∧ a * b ≤ 1 := by
 rcases (show a = -1 ∨ a = 0 ∨ a = 1 by omega) with rfl | rfl | rfl <;> omega
theorem tw_last {s : Nat → Int} {T : Nat} (h : ∀ i,i < T → -1 ≤ s i ∧ s i ≤ 1) : ∀ k,k ≤ T → -1 ≤ (tw s k).2 ∧ (tw s k).2 ≤ 1
 | 0,_ => by simp [tw]
 | k + 1,hk => by
  simp only [tw]
  split
  ·exact tw_last h k (by omega)
  ·exact h k (by omega)
theorem tw_le (s : Nat → Int) : ∀ k,(tw s k).1 ≤ k
 | 0 => by simp [tw]
 | k + 1 => by
  have := tw_le s k
  simp only [tw]
  split <;> omega
/-- The sign of a link at a number. -/
def sgn (N : Nat → Nat) (Q : Nat → Nat → Rat) (R : Nat → Rat) (x : Rat) (i : Nat) : Int := cmpQ (evN (Q i) x (N i)) 0 * cmpQ (R i) 0
theorem sgn_sign (N : Nat → Nat) (Q : Nat → Nat → Rat) (R : Nat → Rat) (x : Rat) (i : Nat) : -1 ≤ sgn N Q R x i ∧ sgn N Q R x i ≤ 1 := mul_sign (cmpQ_sign _ _) (cmpQ_sign _ _)


set_option maxRecDepth 100000 in
set_option maxHeartbeats 8000000 in
theorem pturns_at (v X_ : Value) (T : Nat) (N : Nat → Nat) (Q : Nat → Nat → Rat) (R : Nat → Rat) (x : Rat) (L X j : Nat) (w : World) (hv : CRow w v T N Q R) (hx : RepQ w X_ x) (ht : Tab w) (hT : T ≤ 1000000) (sq : ∀ k,k < T → ∀ i,i < N k → qsz (Q k i) ≤ L) (sR : ∀ k,k < T → qsz (R k) ≤ L) (sx : qsz x ≤ X) (hN : ∀ k,k < T → N k ≤ 1000) (hNj : ∀ k,k < T → N k ≤ 2 ^ j) (hL : 1 ≤ L) (hLM : L ≤ 40000) (hSz : vsz j L X ≤ 40000) (hE : ∀ k,k < T → qsz (evN (Q k) x (N k)) ≤ 100000) :
  Calls Tryz.prog 34 #[v,X_] w fun e w' => e = .returned (.int .i64 (((tw (sgn N Q R x) T).1 : Nat) : Int)) ∧ Below w.heap.size w w' := by
 obtain ⟨px,ax,nx,cx,bx,mx,dx,rfl⟩ := hx.open
 obtain ⟨g,cap,rfl,hTc,hc63,hCell⟩ := id hv
 have HCR : Hid (CRow w (.slice (some ⟨g,0,none⟩) T cap) T N Q R) := hv
 clear hCell
 have BB : Below w.heap.size w w := Below.refl _ _
 obtain ⟨Wb0,hW0,hS0,hL0,VX⟩ := V3.lay w 28 (.bool px) (.slice ax nx cx) (.slice bx mx dx)
 replace hv := hv.below hL0
 replace hx := hx.below hL0
 replace ht := ht.below hL0
 replace BB := BB.trans (hL0.mono BB.size)
 clear hL0
 go_enter Tryz.func34,Tryz.ntmps34
 go_wp2
 rw [← hW0]
 clear hW0 hS0
 clear HCR
 have hLT := tw_last (s := sgn N Q R x) (T := T) (fun i _ => sgn_sign N Q R x i)
 have HLT : Hid (∀ k,k ≤ T → -1 ≤ (tw (sgn N Q R x) k).2 ∧ (tw (sgn N Q R x) k).2 ≤ 1) := hLT
 clear hLT
 go_loopw [5,6,12] (fun vn vl vi wr => ∃ k : Nat,k ≤ T ∧ vi = .int .i64 (k : Int) ∧ vn = .int .i64 (((tw (sgn N Q R x) k).1 : Nat) : Int) ∧ vl = .int .i64 (tw (sgn N Q R x) k).2 ∧ CRow wr (.slice (some ⟨g,0,none⟩) T cap) T N Q R ∧ V3 wr w.heap.size (.bool px) (.slice ax nx cx) (.slice bx mx dx) ∧ RepQ wr (.agg #[.bool px,.slice ax nx cx,.slice bx mx dx]) x ∧ Tab wr ∧ Below w.heap.size w wr) (fun _ _ vi _ => T - (intOf vi).toNat)
 case atStart => exact ⟨0,by omega,rfl,rfl,rfl,hv,VX,hx,ht,BB⟩
 case round =>
  clear hv VX hx ht BB
  obtain ⟨k,hk,rfl,rfl,rfl,hv,VX,hx,ht,BB⟩ := hrel
  obtain ⟨hl1,hl2⟩ := HLT.out k hk
  have hcnt := tw_le (sgn N Q R x) k
  by_cases hkl : k < T
  ·have hki : (k : Int) < (T : Int) := by omega
   have hk0 : (0 : Int) ≤ (k : Int) := by omega
   obtain ⟨g_,cap_,e_,_,_,hcs⟩ := id hv
   cases e_
   obtain ⟨y,p,a,n,c,b,m,d,q1,q2,q3,q4,FY,RY⟩ := hcs k hkl
   obtain ⟨ay,cy,rfl⟩ := FY.open
   clear hcs
   have HT1 : Hid ((tw (sgn N Q R x) (k + 1)) = (if sgn N Q R x k * (tw (sgn N Q R x) k).2 < 0 then (tw (sgn N Q R x) k).1 + 1 else (tw (sgn N Q R x) k).1,if sgn N Q R x k = 0 then (tw (sgn N Q R x) k).2 else sgn N Q R x k)) := rfl
   obtain ⟨sg1,sg2⟩ := sgn_sign N Q R x k
   have hS1 := cmpQ_sign (evN (Q k) x (N k)) 0
   have hS2 := cmpQ_sign (R k) 0
   have HSG : Hid (cmpQ (evN (Q k) x (N k)) 0 * cmpQ (R k) 0 = sgn N Q R x k) := rfl
   generalize (tw (sgn N Q R x) k).2 = LA at *
   generalize (tw (sgn N Q R x) k).1 = CN at *
   generalize sgn N Q R x k = SG at *
   have sqk := sq k hkl
   have hNk := hN k hkl
   have hNj := hNj k hkl
   have sRk := sR k hkl
   have hZ1 : w.heap.size ≤ wr.heap.size := BB.size
   have hN1VX : w.heap.size ≠ wr.heap.size := Nat.ne_of_lt VX.lt
   obtain ⟨W1,hW1,hS1,hL1,VC⟩ := V4.lay wr 60 (.slice ay (N k) cy) (.bool p) (.slice a n c) (.slice b m d)
   replace hv := hv.below hL1
   replace hx := hx.below hL1
   replace ht := ht.below hL1
   replace FY := FY.below hL1
   replace RY := RY.below hL1
   replace VX := VX.below hL1
   replace BB := BB.trans (hL1.mono BB.size)
   clear hL1
   go_wp2_with fail
   rw [← hW1]
   generalize wr.heap.size = R1 at *
   clear hW1 hS1
   clear q1 q2 q3 q4
   refine wp_region_until 10 #[true,true,true,true,true,true,true,true,true,true] (fun aF lsd a' w' => ∃ vu0 vu1 vu2 vu3 vu4 vu5 vu6 vu7 vu8 vu9 : Value,a' = (((((((((aF.put (some 16) vu0).put (some 17) vu1).put (some 18) vu2).put (some 19) vu3).put (some 20) vu4).put (some 21) vu5).put (some 22) vu6).put (some 23) vu7).put (some 24) vu8).put (some 9) vu9 ∧ Below W1.heap.size W1 w' ∧ (lsd.getD 0 false = true → vu0 = .pointer (some ⟨R1,0,none⟩)) ∧ (lsd.getD 1 false = true → vu1 = .slice ay (N k) cy) ∧ (lsd.getD 2 false = true → vu2 = .agg #[.bool px,.slice ax nx cx,.slice bx mx dx]) ∧ (lsd.getD 3 false = true → RepQ w' vu3 (evN (Q k) x (N k))) ∧ (lsd.getD 4 false = true → vu4 = .int .i64 (cmpQ (evN (Q k) x (N k)) 0)) ∧ (lsd.getD 5 false = true → vu5 = .pointer (some ⟨R1,1,none⟩)) ∧ (lsd.getD 6 false = true → vu6 = .agg #[.bool p,.slice a n c,.slice b m d]) ∧ (lsd.getD 7 false = true → vu7 = .int .i64 (cmpQ (R k) 0)) ∧ (lsd.getD 8 false = true → vu8 = .int .i64 SG) ∧ (lsd.getD 9 false = true → vu9 = .int .i64 SG)) (by kernel_rfl) (by decide) (by kernel_rfl) (by rfl) (by kernel_rfl) ?_ ?_ ?_
   ·exact ⟨_,_,_,_,_,_,_,_,_,_,by simp only [Act.put,xL4,xL5,xL6]; rfl,(Below.refl _ _).drew,fun h => absurd h (fun h => mark_none h),fun h => absurd h (fun h => mark_none h),fun h => absurd h (fun h => mark_none h),fun h => absurd h (fun h => mark_none h),fun h => absurd h (fun h => mark_none h),fun h => absurd h (fun h => mark_none h),fun h => absurd h (fun h => mark_none h),fun h => absurd h (fun h => mark_none h),fun h => absurd h (fun h => mark_none h),fun h => absurd h (fun h => mark_none h)⟩
   ·rintro lsd au wn iu hszu ⟨vu0,vu1,vu2,vu3,vu4,vu5,vu6,vu7,vu8,vu9,rfl,hbu,fu0,fu1,fu2,fu3,fu4,fu5,fu6,fu7,fu8,fu9⟩ himu hru
    rcases (show iu = 0 ∨ iu = 1 ∨ iu = 2 ∨ iu = 3 ∨ iu = 4 ∨ iu = 5 ∨ iu = 6 ∨ iu = 7 ∨ iu = 8 ∨ iu = 9 by omega) with rfl | rfl | rfl | rfl | rfl | rfl | rfl | rfl | rfl | rfl
    ·refine wpOp_shut (by rfl) (fun K hK => ?_)
     simp only [Act.put,xL4,xL5,xL6]
     go_simp
     exact hK.out _ _ ⟨(.pointer (some ⟨R1,0,none⟩)),vu1,vu2,vu3,vu4,vu5,vu6,vu7,vu8,vu9,by simp only [Act.put,xL4,xL5,xL6],hbu,fun _ => rfl,fun h => fu1 (mark_of (by decide) h),fun h => fu2 (mark_of (by decide) h),fun h => fu3 (mark_of (by decide) h),fun h => fu4 (mark_of (by decide) h),fun h => fu5 (mark_of (by decide) h),fun h => fu6 (mark_of (by decide) h),fun h => fu7 (mark_of (by decide) h),fun h => fu8 (mark_of (by decide) h),fun h => fu9 (mark_of (by decide) h)⟩
    ·have eu0 := fu0 (dep_of 0 hru rfl (by kernel_rfl))
     replace eu0 := eu0.symm
     subst eu0
     refine wpOp_shut (by rfl) (fun K hK => ?_)
     simp only [Act.put,xL4,xL5,xL6]
     obtain ⟨⟨x1,x2,x3,x4,x5,x6⟩,x7,x8⟩ := VC.below hbu
     go_simp
     exact hK.out _ _ ⟨(.pointer (some ⟨R1,0,none⟩)),(.slice ay (N k) cy),vu2,vu3,vu4,vu5,vu6,vu7,vu8,vu9,by simp only [Act.put,xL4,xL5,xL6],hbu,fun _ => rfl,fun _ => rfl,fun h => fu2 (mark_of (by decide) h),fun h => fu3 (mark_of (by decide) h),fun h => fu4 (mark_of (by decide) h),fun h => fu5 (mark_of (by decide) h),fun h => fu6 (mark_of (by decide) h),fun h => fu7 (mark_of (by decide) h),fun h => fu8 (mark_of (by decide) h),fun h => fu9 (mark_of (by decide) h)⟩
    ·refine wpOp_shut (by rfl) (fun K hK => ?_)
     simp only [Act.put,xL4,xL5,xL6]
     obtain ⟨VX_0,VX_1,VX_2,VX_3,VX_4,VX_5⟩ := VX.below hbu
     go_simp
     exact hK.out _ _ ⟨vu0,vu1,(.agg #[.bool px,.slice ax nx cx,.slice bx mx dx]),vu3,vu4,vu5,vu6,vu7,vu8,vu9,by simp only [Act.put,xL4,xL5,xL6],hbu,fun h => fu0 (mark_of (by decide) h),fun h => fu1 (mark_of (by decide) h),fun _ => rfl,fun h => fu3 (mark_of (by decide) h),fun h => fu4 (mark_of (by decide) h),fun h => fu5 (mark_of (by decide) h),fun h => fu6 (mark_of (by decide) h),fun h => fu7 (mark_of (by decide) h),fun h => fu8 (mark_of (by decide) h),fun h => fu9 (mark_of (by decide) h)⟩
    ·have eu1 := fu1 (dep_of 1 hru rfl (by kernel_rfl))
     have eu2 := fu2 (dep_of 2 hru rfl (by kernel_rfl))
     replace eu1 := eu1.symm
     subst eu1
     replace eu2 := eu2.symm
     subst eu2
     refine wpOp_shut (by rfl) (fun K hK => ?_)
     simp only [Act.put,xL4,xL5,xL6]
     have hx := hx.below hbu
     have ht := ht.below hbu
     have FY := FY.below hbu
     go_simp
     refine (peval_at _ _ (N k) L X j (Q k) x _ FY hx sqk sx ht hL hNj hNk hSz).mono ?_
     rintro eu wx ⟨x3,rfl,h3,bu⟩
     go_wp2_with fail
     have hbu2 := hbu.trans (bu.mono hbu.size)
     exact hK.out _ _ ⟨vu0,(.slice ay (N k) cy),(.agg #[.bool px,.slice ax nx cx,.slice bx mx dx]),_,vu4,vu5,vu6,vu7,vu8,vu9,by simp only [Act.put,xL4,xL5,xL6],hbu2,fun h => fu0 (mark_of (by decide) h),fun _ => rfl,fun _ => rfl,fun _ => h3,fun h => fu4 (mark_of (by decide) h),fun h => fu5 (mark_of (by decide) h),fun h => fu6 (mark_of (by decide) h),fun h => fu7 (mark_of (by decide) h),fun h => fu8 (mark_of (by decide) h),fun h => fu9 (mark_of (by decide) h)⟩
    ·have h3 := fu3 (dep_of 3 hru rfl (by kernel_rfl))
     refine wpOp_shut (by rfl) (fun K hK => ?_)
     simp only [Act.put,xL4,xL5,xL6]
     go_simp
     refine (qsign_at _ (evN (Q k) x (N k)) 100000 _ (h3.at 100000 (hE k hkl)) (by omega) (by omega)).mono ?_
     rintro eu wx ⟨rfl,bu⟩
     go_wp2_with fail
     have hbu2 := hbu.trans (bu.mono hbu.size)
     exact hK.out _ _ ⟨vu0,vu1,vu2,vu3,(.int .i64 (cmpQ (evN (Q k) x (N k)) 0)),vu5,vu6,vu7,vu8,vu9,by simp only [Act.put,xL4,xL5,xL6],hbu2,fun h => fu0 (mark_of (by decide) h),fun h => fu1 (mark_of (by decide) h),fun h => fu2 (mark_of (by decide) h),fun h => (fu3 (mark_of (by decide) h)).below bu,fun _ => rfl,fun h => fu5 (mark_of (by decide) h),fun h => fu6 (mark_of (by decide) h),fun h => fu7 (mark_of (by decide) h),fun h => fu8 (mark_of (by decide) h),fun h => fu9 (mark_of (by decide) h)⟩
    ·refine wpOp_shut (by rfl) (fun K hK => ?_)
     simp only [Act.put,xL4,xL5,xL6]
     go_simp
     exact hK.out _ _ ⟨vu0,vu1,vu2,vu3,vu4,(.pointer (some ⟨R1,1,none⟩)),vu6,vu7,vu8,vu9,by simp only [Act.put,xL4,xL5,xL6],hbu,fun h => fu0 (mark_of (by decide) h),fun h => fu1 (mark_of (by decide) h),fun h => fu2 (mark_of (by decide) h),fun h => fu3 (mark_of (by decide) h),fun h => fu4 (mark_of (by decide) h),fun _ => rfl,fun h => fu6 (mark_of (by decide) h),fun h => fu7 (mark_of (by decide) h),fun h => fu8 (mark_of (by decide) h),fun h => fu9 (mark_of (by decide) h)⟩
    ·have eu5 := fu5 (dep_of 5 hru rfl (by kernel_rfl))
     replace eu5 := eu5.symm
     subst eu5
     refine wpOp_shut (by rfl) (fun K hK => ?_)
     simp only [Act.put,xL4,xL5,xL6]
     obtain ⟨⟨x1,x2,x3,x4,x5,x6⟩,x7,x8⟩ := VC.below hbu
     go_simp
     exact hK.out _ _ ⟨vu0,vu1,vu2,vu3,vu4,(.pointer (some ⟨R1,1,none⟩)),(.agg #[.bool p,.slice a n c,.slice b m d]),vu7,vu8,vu9,by simp only [Act.put,xL4,xL5,xL6],hbu,fun h => fu0 (mark_of (by decide) h),fun h => fu1 (mark_of (by decide) h),fun h => fu2 (mark_of (by decide) h),fun h => fu3 (mark_of (by decide) h),fun h => fu4 (mark_of (by decide) h),fun _ => rfl,fun _ => rfl,fun h => fu7 (mark_of (by decide) h),fun h => fu8 (mark_of (by decide) h),fun h => fu9 (mark_of (by decide) h)⟩
    ·have eu4 := fu4 (dep_of 4 hru rfl (by kernel_rfl))
     have eu6 := fu6 (dep_of 6 hru rfl (by kernel_rfl))
     replace eu4 := eu4.symm
     subst eu4
     replace eu6 := eu6.symm
     subst eu6
     refine wpOp_shut (by rfl) (fun K hK => ?_)
     simp only [Act.put,xL4,xL5,xL6]
     have RY := RY.below hbu
     go_simp
     refine (qsign_at _ (R k) L _ (RY.at L sRk) hL (by omega)).mono ?_
     rintro eu wx ⟨rfl,bu⟩
     go_wp2_with fail
     have hbu2 := hbu.trans (bu.mono hbu.size)
     exact hK.out _ _ ⟨vu0,vu1,vu2,vu3,(.int .i64 (cmpQ (evN (Q k) x (N k)) 0)),vu5,(.agg #[.bool p,.slice a n c,.slice b m d]),(.int .i64 (cmpQ (R k) 0)),vu8,vu9,by simp only [Act.put,xL4,xL5,xL6],hbu2,fun h => fu0 (mark_of (by decide) h),fun h => fu1 (mark_of (by decide) h),fun h => fu2 (mark_of (by decide) h),fun h => (fu3 (mark_of (by decide) h)).below bu,fun _ => rfl,fun h => fu5 (mark_of (by decide) h),fun _ => rfl,fun _ => rfl,fun h => fu8 (mark_of (by decide) h),fun h => fu9 (mark_of (by decide) h)⟩
    ·have eu4 := fu4 (dep_of 4 hru rfl (by kernel_rfl))
     have eu7 := fu7 (dep_of 7 hru rfl (by kernel_rfl))
     replace eu4 := eu4.symm
     subst eu4
     replace eu7 := eu7.symm
     subst eu7
     refine wpOp_shut (by rfl) (fun K hK => ?_)
     simp only [Act.put,xL4,xL5,xL6]
     have hwr : IntKind.i64.wrap (cmpQ (evN (Q k) x (N k)) 0 * cmpQ (R k) 0) = SG := by rw [HSG.out,IntKind.wrap_i64]; omega
     go_simp
     exact hK.out _ _ ⟨vu0,vu1,vu2,vu3,(.int .i64 (cmpQ (evN (Q k) x (N k)) 0)),vu5,vu6,(.int .i64 (cmpQ (R k) 0)),(.int .i64 SG),vu9,by simp only [Act.put,xL4,xL5,xL6],hbu,fun h => fu0 (mark_of (by decide) h),fun h => fu1 (mark_of (by decide) h),fun h => fu2 (mark_of (by decide) h),fun h => fu3 (mark_of (by decide) h),fun _ => rfl,fun h => fu5 (mark_of (by decide) h),fun h => fu6 (mark_of (by decide) h),fun _ => rfl,fun _ => rfl,fun h => fu9 (mark_of (by decide) h)⟩
    ·have eu0 := fu0 (dep_of 0 hru rfl (by kernel_rfl))
     have eu1 := fu1 (dep_of 1 hru rfl (by kernel_rfl))
     have eu2 := fu2 (dep_of 2 hru rfl (by kernel_rfl))
     have eu4 := fu4 (dep_of 4 hru rfl (by kernel_rfl))
     have eu5 := fu5 (dep_of 5 hru rfl (by kernel_rfl))
     have eu6 := fu6 (dep_of 6 hru rfl (by kernel_rfl))
     have eu7 := fu7 (dep_of 7 hru rfl (by kernel_rfl))
     have eu8 := fu8 (dep_of 8 hru rfl (by kernel_rfl))
     replace eu0 := eu0.symm
     subst eu0
     replace eu1 := eu1.symm
     subst eu1
     replace eu2 := eu2.symm
     subst eu2
     replace eu4 := eu4.symm
     subst eu4
     replace eu5 := eu5.symm
     subst eu5
     replace eu6 := eu6.symm
     subst eu6
     replace eu7 := eu7.symm
     subst eu7
     replace eu8 := eu8.symm
     subst eu8
     have h3 := fu3 (dep_of 3 hru rfl (by kernel_rfl))
     refine wpOp_shut (by rfl) (fun K hK => ?_)
     simp only [Act.put,xL4,xL5,xL6]
     go_simp
     exact hK.out _ _ ⟨(.pointer (some ⟨R1,0,none⟩)),(.slice ay (N k) cy),(.agg #[.bool px,.slice ax nx cx,.slice bx mx dx]),vu3,(.int .i64 (cmpQ (evN (Q k) x (N k)) 0)),(.pointer (some ⟨R1,1,none⟩)),(.agg #[.bool p,.slice a n c,.slice b m d]),(.int .i64 (cmpQ (R k) 0)),(.int .i64 SG),(.int .i64 SG),by simp only [Act.put,xL4,xL5,xL6],hbu,fun _ => rfl,fun _ => rfl,fun _ => rfl,fun h => fu3 (mark_of (by decide) h),fun _ => rfl,fun _ => rfl,fun _ => rfl,fun _ => rfl,fun _ => rfl,fun _ => rfl⟩
   rintro au Wu2 ⟨vu0,vu1,vu2,vu3,vu4,vu5,vu6,vu7,vu8,vu9,rfl,hbu,fu0,fu1,fu2,fu3,fu4,fu5,fu6,fu7,fu8,fu9⟩
   have eu0 := (fu0 rfl).symm
   subst eu0
   have eu1 := (fu1 rfl).symm
   subst eu1
   have eu2 := (fu2 rfl).symm
   subst eu2
   have h3 := fu3 rfl
   have eu4 := (fu4 rfl).symm
   subst eu4
   have eu5 := (fu5 rfl).symm
   subst eu5
   have eu6 := (fu6 rfl).symm
   subst eu6
   have eu7 := (fu7 rfl).symm
   subst eu7
   have eu8 := (fu8 rfl).symm
   subst eu8
   have eu9 := (fu9 rfl).symm
   subst eu9
   clear fu0 fu1 fu2 fu3 fu4 fu5 fu6 fu7 fu8 fu9
   have hlVX : w.heap.size < W1.heap.size := VX.lt
   have hlVC : R1 < W1.heap.size := VC.lt
   simp only [Act.put,xL4,xL5,xL6]
   replace hv := hv.below hbu
   replace hx := hx.below hbu
   replace ht := ht.below hbu
   replace FY := FY.below hbu
   replace RY := RY.below hbu
   replace VX := VX.below hbu
   replace VC := VC.below hbu
   replace BB := BB.trans (hbu.mono BB.size)
   clear hbu
   refine wpAnyH_done (by kernel_rfl) ?_ _
   have hM := mul_sign ⟨sg1,sg2⟩ ⟨hl1,hl2⟩
   have hMw : IntKind.i64.wrap (SG * LA) = SG * LA := by rw [IntKind.wrap_i64]; omega
   clear FY RY
   by_cases hn : SG * LA < 0
   ·have hnn := hn
    by_cases hz : SG = 0
    ·rw [hz,Int.zero_mul] at hn
     omega
    ·have hzb : (SG != 0) = true := by simp; omega
     have hzc : ¬ SG = 0 := hz
     go_wp2
     go_roundw
     case rel => exact ⟨k + 1,by omega,by go_num,by rw [HT1.out]; rw [if_pos hn]; go_num,by rw [HT1.out]; rw [if_neg hz],hv,VX,hx,ht,BB⟩
     case measure => simp [intOf]; omega
   ·have hnb : decide (SG * LA < 0) = false := decide_eq_false hn
    by_cases hz : SG = 0
    ·have hzb : (SG != 0) = false := by simp [hz]
     go_wp2
     go_roundw
     case rel => exact ⟨k + 1,by omega,by go_num,by rw [HT1.out]; rw [if_neg hn],by rw [HT1.out]; rw [if_pos hz],hv,VX,hx,ht,BB⟩
     case measure => simp [intOf]; omega
    ·have hzb : (SG != 0) = true := by simp; omega
     have hzc : ¬ SG = 0 := hz
     go_wp2
     go_roundw
     case rel => exact ⟨k + 1,by omega,by go_num,by rw [HT1.out]; rw [if_neg hn],by rw [HT1.out]; rw [if_neg hz],hv,VX,hx,ht,BB⟩
     case measure => simp [intOf]; omega
  ·have hki : ¬ (k : Int) < (T : Int) := by omega
   have hkb : decide ((k : Int) < (T : Int)) = false := decide_eq_false hki
   obtain rfl : k = T := by omega
   go_wp2
   go_ret
   exact ⟨rfl,BB⟩

set_option maxRecDepth 100000 in
set_option maxHeartbeats 8000000 in
theorem pturns2_at (v X_ : Value) (T : Nat) (N : Nat → Nat) (Q : Nat → Nat → Rat) (R : Nat → Rat) (x : Rat) (L X : Nat) (w : World) (hv : CRow w v T N Q R) (hx : RatAt w X_ x X) (ht : Tab w) (hT : T ≤ 1000000) (hS2 : ∀ k,k < T → ∃ Lk jk,(∀ i,i < N k → qsz (Q k i) ≤ Lk) ∧ 1 ≤ Lk ∧ N k ≤ 2 ^ jk ∧ vsz jk Lk X ≤ 40000) (sR : ∀ k,k < T → qsz (R k) ≤ L) (hX : 1 ≤ X) (hN : ∀ k,k < T → N k ≤ 1000) (hL : 1 ≤ L) (hLM : L ≤ 40000) (hE : ∀ k,k < T → qsz (evN (Q k) x (N k)) ≤ 100000) :
  Calls Tryz.prog 34 #[v,X_] w fun e w' => e = .returned (.int .i64 (((tw (sgn N Q R x) T).1 : Nat) : Int)) ∧ Below w.heap.size w w' := by
 obtain ⟨px,ax,nx,cx,bx,mx,dx,rfl⟩ := hx.open
 obtain ⟨g,cap,rfl,hTc,hc63,hCell⟩ := id hv
 have HS2 : Hid (∀ k,k < T → ∃ Lk jk,(∀ i,i < N k → qsz (Q k i) ≤ Lk) ∧ 1 ≤ Lk ∧ N k ≤ 2 ^ jk ∧ vsz jk Lk X ≤ 40000) := hS2
 clear hS2
 have HCR : Hid (CRow w (.slice (some ⟨g,0,none⟩) T cap) T N Q R) := hv
 clear hCell
 have BB : Below w.heap.size w w := Below.refl _ _
 obtain ⟨Wb0,hW0,hS0,hL0,VX⟩ := V3.lay w 28 (.bool px) (.slice ax nx cx) (.slice bx mx dx)
 replace hv := hv.below hL0
 replace hx := hx.below hL0
 replace ht := ht.below hL0
 replace BB := BB.trans (hL0.mono BB.size)
 clear hL0
 go_enter Tryz.func34,Tryz.ntmps34
 go_wp2
 rw [← hW0]
 clear hW0 hS0
 clear HCR
 have hLT := tw_last (s := sgn N Q R x) (T := T) (fun i _ => sgn_sign N Q R x i)
 have HLT : Hid (∀ k,k ≤ T → -1 ≤ (tw (sgn N Q R x) k).2 ∧ (tw (sgn N Q R x) k).2 ≤ 1) := hLT
 clear hLT
 go_loopw [5,6,12] (fun vn vl vi wr => ∃ k : Nat,k ≤ T ∧ vi = .int .i64 (k : Int) ∧ vn = .int .i64 (((tw (sgn N Q R x) k).1 : Nat) : Int) ∧ vl = .int .i64 (tw (sgn N Q R x) k).2 ∧ CRow wr (.slice (some ⟨g,0,none⟩) T cap) T N Q R ∧ V3 wr w.heap.size (.bool px) (.slice ax nx cx) (.slice bx mx dx) ∧ RatAt wr (.agg #[.bool px,.slice ax nx cx,.slice bx mx dx]) x X ∧ Tab wr ∧ Below w.heap.size w wr) (fun _ _ vi _ => T - (intOf vi).toNat)
 case atStart => exact ⟨0,by omega,rfl,rfl,rfl,hv,VX,hx,ht,BB⟩
 case round =>
  clear hv VX hx ht BB
  obtain ⟨k,hk,rfl,rfl,rfl,hv,VX,hx,ht,BB⟩ := hrel
  obtain ⟨hl1,hl2⟩ := HLT.out k hk
  have hcnt := tw_le (sgn N Q R x) k
  by_cases hkl : k < T
  ·have hki : (k : Int) < (T : Int) := by omega
   have hk0 : (0 : Int) ≤ (k : Int) := by omega
   obtain ⟨g_,cap_,e_,_,_,hcs⟩ := id hv
   cases e_
   obtain ⟨y,p,a,n,c,b,m,d,q1,q2,q3,q4,FY,RY⟩ := hcs k hkl
   obtain ⟨ay,cy,rfl⟩ := FY.open
   clear hcs
   have HT1 : Hid ((tw (sgn N Q R x) (k + 1)) = (if sgn N Q R x k * (tw (sgn N Q R x) k).2 < 0 then (tw (sgn N Q R x) k).1 + 1 else (tw (sgn N Q R x) k).1,if sgn N Q R x k = 0 then (tw (sgn N Q R x) k).2 else sgn N Q R x k)) := rfl
   obtain ⟨sg1,sg2⟩ := sgn_sign N Q R x k
   have hS1 := cmpQ_sign (evN (Q k) x (N k)) 0
   have hS2 := cmpQ_sign (R k) 0
   have HSG : Hid (cmpQ (evN (Q k) x (N k)) 0 * cmpQ (R k) 0 = sgn N Q R x k) := rfl
   generalize (tw (sgn N Q R x) k).2 = LA at *
   generalize (tw (sgn N Q R x) k).1 = CN at *
   generalize sgn N Q R x k = SG at *
   obtain ⟨Lk,jk,sqk,hLk,hNj,hSz⟩ := HS2.out k hkl
   have hNk := hN k hkl
   have sRk := sR k hkl
   have hZ1 : w.heap.size ≤ wr.heap.size := BB.size
   have hN1VX : w.heap.size ≠ wr.heap.size := Nat.ne_of_lt VX.lt
   obtain ⟨W1,hW1,hS1,hL1,VC⟩ := V4.lay wr 60 (.slice ay (N k) cy) (.bool p) (.slice a n c) (.slice b m d)
   replace hv := hv.below hL1
   replace hx := hx.below hL1
   replace ht := ht.below hL1
   replace FY := FY.below hL1
   replace RY := RY.below hL1
   replace VX := VX.below hL1
   replace BB := BB.trans (hL1.mono BB.size)
   clear hL1
   go_wp2_with fail
   rw [← hW1]
   generalize wr.heap.size = R1 at *
   clear hW1 hS1
   clear q1 q2 q3 q4
   refine wp_region_until 10 #[true,true,true,true,true,true,true,true,true,true] (fun aF lsd a' w' => ∃ vu0 vu1 vu2 vu3 vu4 vu5 vu6 vu7 vu8 vu9 : Value,a' = (((((((((aF.put (some 16) vu0).put (some 17) vu1).put (some 18) vu2).put (some 19) vu3).put (some 20) vu4).put (some 21) vu5).put (some 22) vu6).put (some 23) vu7).put (some 24) vu8).put (some 9) vu9 ∧ Below W1.heap.size W1 w' ∧ (lsd.getD 0 false = true → vu0 = .pointer (some ⟨R1,0,none⟩)) ∧ (lsd.getD 1 false = true → vu1 = .slice ay (N k) cy) ∧ (lsd.getD 2 false = true → vu2 = .agg #[.bool px,.slice ax nx cx,.slice bx mx dx]) ∧ (lsd.getD 3 false = true → RepQ w' vu3 (evN (Q k) x (N k))) ∧ (lsd.getD 4 false = true → vu4 = .int .i64 (cmpQ (evN (Q k) x (N k)) 0)) ∧ (lsd.getD 5 false = true → vu5 = .pointer (some ⟨R1,1,none⟩)) ∧ (lsd.getD 6 false = true → vu6 = .agg #[.bool p,.slice a n c,.slice b m d]) ∧ (lsd.getD 7 false = true → vu7 = .int .i64 (cmpQ (R k) 0)) ∧ (lsd.getD 8 false = true → vu8 = .int .i64 SG) ∧ (lsd.getD 9 false = true → vu9 = .int .i64 SG)) (by kernel_rfl) (by decide) (by kernel_rfl) (by rfl) (by kernel_rfl) ?_ ?_ ?_
   ·exact ⟨_,_,_,_,_,_,_,_,_,_,by simp only [Act.put,xL4,xL5,xL6]; rfl,(Below.refl _ _).drew,fun h => absurd h (fun h => mark_none h),fun h => absurd h (fun h => mark_none h),fun h => absurd h (fun h => mark_none h),fun h => absurd h (fun h => mark_none h),fun h => absurd h (fun h => mark_none h),fun h => absurd h (fun h => mark_none h),fun h => absurd h (fun h => mark_none h),fun h => absurd h (fun h => mark_none h),fun h => absurd h (fun h => mark_none h),fun h => absurd h (fun h => mark_none h)⟩
   ·rintro lsd au wn iu hszu ⟨vu0,vu1,vu2,vu3,vu4,vu5,vu6,vu7,vu8,vu9,rfl,hbu,fu0,fu1,fu2,fu3,fu4,fu5,fu6,fu7,fu8,fu9⟩ himu hru
    rcases (show iu = 0 ∨ iu = 1 ∨ iu = 2 ∨ iu = 3 ∨ iu = 4 ∨ iu = 5 ∨ iu = 6 ∨ iu = 7 ∨ iu = 8 ∨ iu = 9 by omega) with rfl | rfl | rfl | rfl | rfl | rfl | rfl | rfl | rfl | rfl
    ·refine wpOp_shut (by rfl) (fun K hK => ?_)
     simp only [Act.put,xL4,xL5,xL6]
     go_simp
     exact hK.out _ _ ⟨(.pointer (some ⟨R1,0,none⟩)),vu1,vu2,vu3,vu4,vu5,vu6,vu7,vu8,vu9,by simp only [Act.put,xL4,xL5,xL6],hbu,fun _ => rfl,fun h => fu1 (mark_of (by decide) h),fun h => fu2 (mark_of (by decide) h),fun h => fu3 (mark_of (by decide) h),fun h => fu4 (mark_of (by decide) h),fun h => fu5 (mark_of (by decide) h),fun h => fu6 (mark_of (by decide) h),fun h => fu7 (mark_of (by decide) h),fun h => fu8 (mark_of (by decide) h),fun h => fu9 (mark_of (by decide) h)⟩
    ·have eu0 := fu0 (dep_of 0 hru rfl (by kernel_rfl))
     replace eu0 := eu0.symm
     subst eu0
     refine wpOp_shut (by rfl) (fun K hK => ?_)
     simp only [Act.put,xL4,xL5,xL6]
     obtain ⟨⟨x1,x2,x3,x4,x5,x6⟩,x7,x8⟩ := VC.below hbu
     go_simp
     exact hK.out _ _ ⟨(.pointer (some ⟨R1,0,none⟩)),(.slice ay (N k) cy),vu2,vu3,vu4,vu5,vu6,vu7,vu8,vu9,by simp only [Act.put,xL4,xL5,xL6],hbu,fun _ => rfl,fun _ => rfl,fun h => fu2 (mark_of (by decide) h),fun h => fu3 (mark_of (by decide) h),fun h => fu4 (mark_of (by decide) h),fun h => fu5 (mark_of (by decide) h),fun h => fu6 (mark_of (by decide) h),fun h => fu7 (mark_of (by decide) h),fun h => fu8 (mark_of (by decide) h),fun h => fu9 (mark_of (by decide) h)⟩
    ·refine wpOp_shut (by rfl) (fun K hK => ?_)
     simp only [Act.put,xL4,xL5,xL6]
     obtain ⟨VX_0,VX_1,VX_2,VX_3,VX_4,VX_5⟩ := VX.below hbu
     go_simp
     exact hK.out _ _ ⟨vu0,vu1,(.agg #[.bool px,.slice ax nx cx,.slice bx mx dx]),vu3,vu4,vu5,vu6,vu7,vu8,vu9,by simp only [Act.put,xL4,xL5,xL6],hbu,fun h => fu0 (mark_of (by decide) h),fun h => fu1 (mark_of (by decide) h),fun _ => rfl,fun h => fu3 (mark_of (by decide) h),fun h => fu4 (mark_of (by decide) h),fun h => fu5 (mark_of (by decide) h),fun h => fu6 (mark_of (by decide) h),fun h => fu7 (mark_of (by decide) h),fun h => fu8 (mark_of (by decide) h),fun h => fu9 (mark_of (by decide) h)⟩
    ·have eu1 := fu1 (dep_of 1 hru rfl (by kernel_rfl))
     have eu2 := fu2 (dep_of 2 hru rfl (by kernel_rfl))
     replace eu1 := eu1.symm
     subst eu1
     replace eu2 := eu2.symm
     subst eu2
     refine wpOp_shut (by rfl) (fun K hK => ?_)
     simp only [Act.put,xL4,xL5,xL6]
     have hx := hx.below hbu
     have ht := ht.below hbu
     have FY := FY.below hbu
     go_simp
     refine (peval_raw _ _ (N k) Lk X jk (Q k) x _ (FY.q Lk sqk) hx ht hLk hX hNj hNk hSz).mono ?_
     rintro eu wx ⟨x3,rfl,h3,bu⟩
     go_wp2_with fail
     have hbu2 := hbu.trans (bu.mono hbu.size)
     exact hK.out _ _ ⟨vu0,(.slice ay (N k) cy),(.agg #[.bool px,.slice ax nx cx,.slice bx mx dx]),_,vu4,vu5,vu6,vu7,vu8,vu9,by simp only [Act.put,xL4,xL5,xL6],hbu2,fun h => fu0 (mark_of (by decide) h),fun _ => rfl,fun _ => rfl,fun _ => h3,fun h => fu4 (mark_of (by decide) h),fun h => fu5 (mark_of (by decide) h),fun h => fu6 (mark_of (by decide) h),fun h => fu7 (mark_of (by decide) h),fun h => fu8 (mark_of (by decide) h),fun h => fu9 (mark_of (by decide) h)⟩
    ·have h3 := fu3 (dep_of 3 hru rfl (by kernel_rfl))
     refine wpOp_shut (by rfl) (fun K hK => ?_)
     simp only [Act.put,xL4,xL5,xL6]
     go_simp
     refine (qsign_at _ (evN (Q k) x (N k)) 100000 _ (h3.at 100000 (hE k hkl)) (by omega) (by omega)).mono ?_
     rintro eu wx ⟨rfl,bu⟩
     go_wp2_with fail
     have hbu2 := hbu.trans (bu.mono hbu.size)
     exact hK.out _ _ ⟨vu0,vu1,vu2,vu3,(.int .i64 (cmpQ (evN (Q k) x (N k)) 0)),vu5,vu6,vu7,vu8,vu9,by simp only [Act.put,xL4,xL5,xL6],hbu2,fun h => fu0 (mark_of (by decide) h),fun h => fu1 (mark_of (by decide) h),fun h => fu2 (mark_of (by decide) h),fun h => (fu3 (mark_of (by decide) h)).below bu,fun _ => rfl,fun h => fu5 (mark_of (by decide) h),fun h => fu6 (mark_of (by decide) h),fun h => fu7 (mark_of (by decide) h),fun h => fu8 (mark_of (by decide) h),fun h => fu9 (mark_of (by decide) h)⟩
    ·refine wpOp_shut (by rfl) (fun K hK => ?_)
     simp only [Act.put,xL4,xL5,xL6]
     go_simp
     exact hK.out _ _ ⟨vu0,vu1,vu2,vu3,vu4,(.pointer (some ⟨R1,1,none⟩)),vu6,vu7,vu8,vu9,by simp only [Act.put,xL4,xL5,xL6],hbu,fun h => fu0 (mark_of (by decide) h),fun h => fu1 (mark_of (by decide) h),fun h => fu2 (mark_of (by decide) h),fun h => fu3 (mark_of (by decide) h),fun h => fu4 (mark_of (by decide) h),fun _ => rfl,fun h => fu6 (mark_of (by decide) h),fun h => fu7 (mark_of (by decide) h),fun h => fu8 (mark_of (by decide) h),fun h => fu9 (mark_of (by decide) h)⟩
    ·have eu5 := fu5 (dep_of 5 hru rfl (by kernel_rfl))
     replace eu5 := eu5.symm
     subst eu5
     refine wpOp_shut (by rfl) (fun K hK => ?_)
     simp only [Act.put,xL4,xL5,xL6]
     obtain ⟨⟨x1,x2,x3,x4,x5,x6⟩,x7,x8⟩ := VC.below hbu
     go_simp
     exact hK.out _ _ ⟨vu0,vu1,vu2,vu3,vu4,(.pointer (some ⟨R1,1,none⟩)),(.agg #[.bool p,.slice a n c,.slice b m d]),vu7,vu8,vu9,by simp only [Act.put,xL4,xL5,xL6],hbu,fun h => fu0 (mark_of (by decide) h),fun h => fu1 (mark_of (by decide) h),fun h => fu2 (mark_of (by decide) h),fun h => fu3 (mark_of (by decide) h),fun h => fu4 (mark_of (by decide) h),fun _ => rfl,fun _ => rfl,fun h => fu7 (mark_of (by decide) h),fun h => fu8 (mark_of (by decide) h),fun h => fu9 (mark_of (by decide) h)⟩
    ·have eu4 := fu4 (dep_of 4 hru rfl (by kernel_rfl))
     have eu6 := fu6 (dep_of 6 hru rfl (by kernel_rfl))
     replace eu4 := eu4.symm
     subst eu4
     replace eu6 := eu6.symm
     subst eu6
     refine wpOp_shut (by rfl) (fun K hK => ?_)
     simp only [Act.put,xL4,xL5,xL6]
     have RY := RY.below hbu
     go_simp
     refine (qsign_at _ (R k) L _ (RY.at L sRk) hL (by omega)).mono ?_
     rintro eu wx ⟨rfl,bu⟩
     go_wp2_with fail
     have hbu2 := hbu.trans (bu.mono hbu.size)
     exact hK.out _ _ ⟨vu0,vu1,vu2,vu3,(.int .i64 (cmpQ (evN (Q k) x (N k)) 0)),vu5,(.agg #[.bool p,.slice a n c,.slice b m d]),(.int .i64 (cmpQ (R k) 0)),vu8,vu9,by simp only [Act.put,xL4,xL5,xL6],hbu2,fun h => fu0 (mark_of (by decide) h),fun h => fu1 (mark_of (by decide) h),fun h => fu2 (mark_of (by decide) h),fun h => (fu3 (mark_of (by decide) h)).below bu,fun _ => rfl,fun h => fu5 (mark_of (by decide) h),fun _ => rfl,fun _ => rfl,fun h => fu8 (mark_of (by decide) h),fun h => fu9 (mark_of (by decide) h)⟩
    ·have eu4 := fu4 (dep_of 4 hru rfl (by kernel_rfl))
     have eu7 := fu7 (dep_of 7 hru rfl (by kernel_rfl))
     replace eu4 := eu4.symm
     subst eu4
     replace eu7 := eu7.symm
     subst eu7
     refine wpOp_shut (by rfl) (fun K hK => ?_)
     simp only [Act.put,xL4,xL5,xL6]
     have hwr : IntKind.i64.wrap (cmpQ (evN (Q k) x (N k)) 0 * cmpQ (R k) 0) = SG := by rw [HSG.out,IntKind.wrap_i64]; omega
     go_simp
     exact hK.out _ _ ⟨vu0,vu1,vu2,vu3,(.int .i64 (cmpQ (evN (Q k) x (N k)) 0)),vu5,vu6,(.int .i64 (cmpQ (R k) 0)),(.int .i64 SG),vu9,by simp only [Act.put,xL4,xL5,xL6],hbu,fun h => fu0 (mark_of (by decide) h),fun h => fu1 (mark_of (by decide) h),fun h => fu2 (mark_of (by decide) h),fun h => fu3 (mark_of (by decide) h),fun _ => rfl,fun h => fu5 (mark_of (by decide) h),fun h => fu6 (mark_of (by decide) h),fun _ => rfl,fun _ => rfl,fun h => fu9 (mark_of (by decide) h)⟩
    ·have eu0 := fu0 (dep_of 0 hru rfl (by kernel_rfl))
     have eu1 := fu1 (dep_of 1 hru rfl (by kernel_rfl))
     have eu2 := fu2 (dep_of 2 hru rfl (by kernel_rfl))
     have eu4 := fu4 (dep_of 4 hru rfl (by kernel_rfl))
     have eu5 := fu5 (dep_of 5 hru rfl (by kernel_rfl))
     have eu6 := fu6 (dep_of 6 hru rfl (by kernel_rfl))
     have eu7 := fu7 (dep_of 7 hru rfl (by kernel_rfl))
     have eu8 := fu8 (dep_of 8 hru rfl (by kernel_rfl))
     replace eu0 := eu0.symm
     subst eu0
     replace eu1 := eu1.symm
     subst eu1
     replace eu2 := eu2.symm
     subst eu2
     replace eu4 := eu4.symm
     subst eu4
     replace eu5 := eu5.symm
     subst eu5
     replace eu6 := eu6.symm
     subst eu6
     replace eu7 := eu7.symm
     subst eu7
     replace eu8 := eu8.symm
     subst eu8
     have h3 := fu3 (dep_of 3 hru rfl (by kernel_rfl))
     refine wpOp_shut (by rfl) (fun K hK => ?_)
     simp only [Act.put,xL4,xL5,xL6]
     go_simp
     exact hK.out _ _ ⟨(.pointer (some ⟨R1,0,none⟩)),(.slice ay (N k) cy),(.agg #[.bool px,.slice ax nx cx,.slice bx mx dx]),vu3,(.int .i64 (cmpQ (evN (Q k) x (N k)) 0)),(.pointer (some ⟨R1,1,none⟩)),(.agg #[.bool p,.slice a n c,.slice b m d]),(.int .i64 (cmpQ (R k) 0)),(.int .i64 SG),(.int .i64 SG),by simp only [Act.put,xL4,xL5,xL6],hbu,fun _ => rfl,fun _ => rfl,fun _ => rfl,fun h => fu3 (mark_of (by decide) h),fun _ => rfl,fun _ => rfl,fun _ => rfl,fun _ => rfl,fun _ => rfl,fun _ => rfl⟩
   rintro au Wu2 ⟨vu0,vu1,vu2,vu3,vu4,vu5,vu6,vu7,vu8,vu9,rfl,hbu,fu0,fu1,fu2,fu3,fu4,fu5,fu6,fu7,fu8,fu9⟩
   have eu0 := (fu0 rfl).symm
   subst eu0
   have eu1 := (fu1 rfl).symm
   subst eu1
   have eu2 := (fu2 rfl).symm
   subst eu2
   have h3 := fu3 rfl
   have eu4 := (fu4 rfl).symm
   subst eu4
   have eu5 := (fu5 rfl).symm
   subst eu5
   have eu6 := (fu6 rfl).symm
   subst eu6
   have eu7 := (fu7 rfl).symm
   subst eu7
   have eu8 := (fu8 rfl).symm
   subst eu8
   have eu9 := (fu9 rfl).symm
   subst eu9
   clear fu0 fu1 fu2 fu3 fu4 fu5 fu6 fu7 fu8 fu9
   have hlVX : w.heap.size < W1.heap.size := VX.lt
   have hlVC : R1 < W1.heap.size := VC.lt
   simp only [Act.put,xL4,xL5,xL6]
   replace hv := hv.below hbu
   replace hx := hx.below hbu
   replace ht := ht.below hbu
   replace FY := FY.below hbu
   replace RY := RY.below hbu
   replace VX := VX.below hbu
   replace VC := VC.below hbu
   replace BB := BB.trans (hbu.mono BB.size)
   clear hbu
   refine wpAnyH_done (by kernel_rfl) ?_ _
   have hM := mul_sign ⟨sg1,sg2⟩ ⟨hl1,hl2⟩
   have hMw : IntKind.i64.wrap (SG * LA) = SG * LA := by rw [IntKind.wrap_i64]; omega
   clear FY RY
   by_cases hn : SG * LA < 0
   ·have hnn := hn
    by_cases hz : SG = 0
    ·rw [hz,Int.zero_mul] at hn
     omega
    ·have hzb : (SG != 0) = true := by simp; omega
     have hzc : ¬ SG = 0 := hz
     go_wp2
     go_roundw
     case rel => exact ⟨k + 1,by omega,by go_num,by rw [HT1.out]; rw [if_pos hn]; go_num,by rw [HT1.out]; rw [if_neg hz],hv,VX,hx,ht,BB⟩
     case measure => simp [intOf]; omega
   ·have hnb : decide (SG * LA < 0) = false := decide_eq_false hn
    by_cases hz : SG = 0
    ·have hzb : (SG != 0) = false := by simp [hz]
     go_wp2
     go_roundw
     case rel => exact ⟨k + 1,by omega,by go_num,by rw [HT1.out]; rw [if_neg hn],by rw [HT1.out]; rw [if_pos hz],hv,VX,hx,ht,BB⟩
     case measure => simp [intOf]; omega
    ·have hzb : (SG != 0) = true := by simp; omega
     have hzc : ¬ SG = 0 := hz
     go_wp2
     go_roundw
     case rel => exact ⟨k + 1,by omega,by go_num,by rw [HT1.out]; rw [if_neg hn],by rw [HT1.out]; rw [if_neg hz],hv,VX,hx,ht,BB⟩
     case measure => simp [intOf]; omega
  ·have hki : ¬ (k : Int) < (T : Int) := by omega
   have hkb : decide ((k : Int) < (T : Int)) = false := decide_eq_false hki
   obtain rfl : k = T := by omega
   go_wp2
   go_ret
   exact ⟨rfl,BB⟩

end Go.Proofs.YtieeneaebjihlaaGreatDoor

namespace Go.Proofs.YtieeneaebjihlaaGreatDoor
set_option linter.unusedVariables false

def ch (l x : Int) : Nat := if x * l < 0 then 1 else 0
def nxs (l x : Int) : Int := if x = 0 then l else x
/-- Turns from a place on, the last sign being told. -/
def runs (s : Nat → Int) : Nat → Nat → Int → Nat
 | _,0,_ => 0
 | a,k + 1,l => ch l (s a) + runs s (a + 1) k (nxs l (s a))
theorem tw_runs (s : Nat → Int) : ∀ m k,(tw s k).1 + runs s k m (tw s k).2 = (tw s (k + m)).1
 | 0,k => rfl
 | m + 1,k => by
  have h := tw_runs s m (k + 1)
  rw [show k + (m + 1) = k + 1 + m by omega,← h]
  show (tw s k).1 + (ch (tw s k).2 (s k) + runs s (k + 1) m (nxs (tw s k).2 (s k))) = (tw s (k + 1)).1 + runs s (k + 1) m (tw s (k + 1)).2
  have e1 : (tw s (k + 1)).1 = (tw s k).1 + ch (tw s k).2 (s k) := by
   show (if s k * (tw s k).2 < 0 then (tw s k).1 + 1 else (tw s k).1) = _
   unfold ch
   split <;> rfl
  have e2 : (tw s (k + 1)).2 = nxs (tw s k).2 (s k) := rfl
  rw [e1,e2]
  omega
theorem tw_all (s : Nat → Int) (m : Nat) : (tw s m).1 = runs s 0 m 0 := by
 have h := tw_runs s m 0
 rw [Nat.zero_add] at h
 rw [← h]
 show 0 + runs s 0 m 0 = runs s 0 m 0
 omega
/-- At a place the two rows are one and not 0, or both neighbours are, and stand against each other. -/
def Good (s s' : Nat → Int) (i : Nat) : Prop := s i = s' i ∧ s i ≠ 0
def Bad (s s' : Nat → Int) (i : Nat) : Prop := Good s s' (i - 1) ∧ Good s s' (i + 1) ∧ s (i + 1) = -(s (i - 1))
theorem ch_zero (x : Int) : ch 0 x = 0 := by
 unfold ch; rw [Int.mul_zero]; rfl
theorem three {a x : Int} (ha : a = 1 ∨ a = -1) (hx : x = 1 ∨ x = 0 ∨ x = -1) : ch a x + ch (nxs a x) (-a) = 1 ∧ nxs (nxs a x) (-a) = -a := by
 rcases ha with rfl | rfl <;> rcases hx with rfl | rfl | rfl <;> decide
theorem runs_same {s s' : Nat → Int} (h1 : ∀ i,s i = 1 ∨ s i = 0 ∨ s i = -1) (h2 : ∀ i,s' i = 1 ∨ s' i = 0 ∨ s' i = -1) (T : Nat) (hT : Good s s' (T - 1)) : ∀ k i,i + 1 + k = T → Good s s' i → (∀ j,i < j → j + 1 < T → Good s s' j ∨ Bad s s' j) → runs s (i + 1) k (s i) = runs s' (i + 1) k (s' i)
 | 0,_,_,_,_ => rfl
 | k + 1,i,hk,hi,hj => by
  have hsi : s i = 1 ∨ s i = -1 := by rcases h1 i with h | h | h; exact .inl h; exact absurd h hi.2; exact .inr h
  have hg : Good s s' (i + 1) ∨ (Bad s s' (i + 1) ∧ i + 2 < T) := by
   by_cases e : i + 2 = T
   ·left
    rw [show T - 1 = i + 1 by omega] at hT; exact hT
   ·rcases hj (i + 1) (by omega) (by omega) with g | g
    ·exact .inl g
    ·exact .inr ⟨g,by omega⟩
  rcases hg with g | ⟨⟨_,g,g3⟩,hlt⟩
  ·show ch (s i) (s (i + 1)) + runs s (i + 2) k (nxs (s i) (s (i + 1))) = ch (s' i) (s' (i + 1)) + runs s' (i + 2) k (nxs (s' i) (s' (i + 1)))
   have ih := runs_same h1 h2 T hT k (i + 1) (by omega) g (fun j a b => hj j (by omega) b)
   have g0 := g.2
   unfold nxs
   rw [← hi.1,← g.1,if_neg g0]
   rw [← g.1] at ih
   rw [ih]
  ·obtain ⟨m,rfl⟩ : ∃ m,k = m + 1 := ⟨k - 1,by omega⟩
   rw [Nat.add_sub_cancel] at g3
   have ih := runs_same h1 h2 T hT m (i + 2) (by omega) g (fun j a b => hj j (by omega) b)
   show ch (s i) (s (i + 1)) + (ch (nxs (s i) (s (i + 1))) (s (i + 2)) + runs s (i + 3) m (nxs (nxs (s i) (s (i + 1))) (s (i + 2)))) = ch (s' i) (s' (i + 1)) + (ch (nxs (s' i) (s' (i + 1))) (s' (i + 2)) + runs s' (i + 3) m (nxs (nxs (s' i) (s' (i + 1))) (s' (i + 2))))
   have e2 : s' (i + 2) = -(s' i) := by rw [← g.1,← hi.1]; exact g3
   have t1 := three hsi (h1 (i + 1))
   have t2 := three (a := s' i) (by rw [← hi.1]; exact hsi) (h2 (i + 1))
   rw [show s (i + 2) = -(s i) from g3,e2,t1.2,t2.2]
   have ih2 : runs s (i + 3) m (-(s i)) = runs s' (i + 3) m (-(s' i)) := by
    have := ih
    rw [show s (i + 2) = -(s i) from g3,e2] at this
    exact this
   omega
/-- Where the first sign stays and is not 0, so do the turns. -/
theorem turns_stay {s s' : Nat → Int} (h1 : ∀ i,s i = 1 ∨ s i = 0 ∨ s i = -1) (h2 : ∀ i,s' i = 1 ∨ s' i = 0 ∨ s' i = -1) {T : Nat} (h0 : 0 < T) (hT : Good s s' (T - 1)) (hg : Good s s' 0) (hj : ∀ j,0 < j → j + 1 < T → Good s s' j ∨ Bad s s' j) : (tw s T).1 = (tw s' T).1 := by
 rw [tw_all,tw_all]
 obtain ⟨k,rfl⟩ : ∃ k,T = k + 1 := ⟨T - 1,by omega⟩
 show ch 0 (s 0) + runs s 1 k (nxs 0 (s 0)) = ch 0 (s' 0) + runs s' 1 k (nxs 0 (s' 0))
 have h := runs_same h1 h2 (k + 1) hT k 0 (by omega) hg hj
 have g2 : s' 0 ≠ 0 := by rw [← hg.1]; exact hg.2
 unfold nxs
 rw [ch_zero,ch_zero,if_neg hg.2,if_neg g2]
 rw [Nat.zero_add] at h
 omega
/-- Where the second stays and is not 0, the turns differ as the first two do. -/
theorem turns_step {s s' : Nat → Int} (h1 : ∀ i,s i = 1 ∨ s i = 0 ∨ s i = -1) (h2 : ∀ i,s' i = 1 ∨ s' i = 0 ∨ s' i = -1) {T : Nat} (h0 : 1 < T) (hT : Good s s' (T - 1)) (hg : Good s s' 1) (hj : ∀ j,1 < j → j + 1 < T → Good s s' j ∨ Bad s s' j) : (tw s T).1 + ch (s' 0) (s' 1) = (tw s' T).1 + ch (s 0) (s 1) := by
 rw [tw_all,tw_all]
 obtain ⟨k,rfl⟩ : ∃ k,T = k + 2 := ⟨T - 2,by omega⟩
 show ch 0 (s 0) + (ch (nxs 0 (s 0)) (s 1) + runs s 2 k (nxs (nxs 0 (s 0)) (s 1))) + ch (s' 0) (s' 1) = ch 0 (s' 0) + (ch (nxs 0 (s' 0)) (s' 1) + runs s' 2 k (nxs (nxs 0 (s' 0)) (s' 1))) + ch (s 0) (s 1)
 have h := runs_same h1 h2 (k + 2) hT k 1 (by omega) hg hj
 have g2 : s' 1 ≠ 0 := by rw [← hg.1]; exact hg.2
 have n0 : ∀ x : Int,nxs 0 x = x := fun x => by
  unfold nxs
  split
  ·rename_i e; exact e.symm
  ·rfl
 have e1 : ∀ l,nxs l (s 1) = s 1 := fun l => if_neg hg.2
 have e2 : ∀ l,nxs l (s' 1) = s' 1 := fun l => if_neg g2
 rw [ch_zero,ch_zero,n0,n0,e1,e2]
 have h' : runs s 2 k (s 1) = runs s' 2 k (s' 1) := h
 omega

end Go.Proofs.YtieeneaebjihlaaGreatDoor

namespace Go.Proofs.YtieeneaebjihlaaGreatDoor
open Go.RowKit
set_option linter.unusedVariables false
set_option linter.unusedSimpArgs false

def pq (x y : Rat) : Nat → Rat := fun i => if i = 0 then x else y
def pr (x y z : Rat) : Nat → Rat := fun i => if i = 0 then x else if i = 1 then y else z
def exN (t : Nat) : Nat := if t = 0 then 3 else if t = 1 then 2 else if t = 2 then 1 else 0
def exQ (t : Nat) : Nat → Rat := if t = 0 then pr (-2) 0 1 else if t = 1 then pq 0 1 else fun _ => 1
def exR (t : Nat) : Rat := if t = 0 then 1 else 2
def exP : Nat → Rat := pr ((-2 : Int) : Rat) 0 1
theorem ex_chain : IsChain 3 exN exQ exR 4 where
 pos := by decide +kernel
 zero := by decide +kernel
 small := by decide +kernel
 sz := fun t i ht hi => (show ∀ t,t < 3 → ∀ i,i < exN t → qsz (exQ t i) ≤ 4 by decide +kernel) t ht i hi
 szR := by decide +kernel
 top := by decide +kernel
 len := fun t ht => (show ∀ t,t < 2 → trimN (restQ exN exQ t) (min (exN t) (exN (t + 1) - 1)) = exN (t + 2) by decide +kernel) t (by omega)
 szS := fun t ht => (show ∀ t,t < 2 → szS 4 (exN t - (exN (t + 1) - 1)) ≤ 40000 by decide +kernel) t (by omega)
 szr := fun t i ht hi => (show ∀ t,t < 2 → ∀ i,i < exN (t + 2) → qsz (restQ exN exQ t i) ≤ 4 by decide +kernel) t (by omega) i hi
 next := fun t ht => (show ∀ t,t < 1 → ((∀ i,i < exN (t + 2) → restQ exN exQ t i * (restQ exN exQ t (exN (t + 2) - 1))⁻¹ = exQ (t + 2) i) ∧ restQ exN exQ t (exN (t + 2) - 1) * -(exR t) = exR (t + 2)) by decide +kernel) t (by omega)
 most := by decide
 least := by decide
theorem ex_turns : (((tw (sgn exN exQ exR 0) 3).1 : Nat) : Int) - (((tw (sgn exN exQ exR ((2 : Int) : Rat)) 3).1 : Nat) : Int) = 1 := by decide +kernel

theorem frow2_lay (w : World) (t : TypeId) {p1 : Bool} {a1 : Option Addr} {n1 c1 : Nat} {b1 : Option Addr} {m1 d1 : Nat} {p2 : Bool} {a2 : Option Addr} {n2 c2 : Nat} {b2 : Option Addr} {m2 d2 : Nat} {x y : Rat} (h1 : RepQ w (.agg #[.bool p1,.slice a1 n1 c1,.slice b1 m1 d1]) x) (h2 : RepQ w (.agg #[.bool p2,.slice a2 n2 c2,.slice b2 m2 d2]) y) :
  ∃ W,W = w.alloc (.cells #[.bool p1,.slice a1 n1 c1,.slice b1 m1 d1,.bool p2,.slice a2 n2 c2,.slice b2 m2 d2] t) ∧ Below w.heap.size w W ∧ FRow W (.slice (some ⟨w.heap.size,0,none⟩) 2 2) 2 (pq x y) := by
 have hb := heap_alloc_new w (.cells #[.bool p1,.slice a1 n1 c1,.slice b1 m1 d1,.bool p2,.slice a2 n2 c2,.slice b2 m2 d2] t)
 have hB : Below w.heap.size w (w.alloc (.cells #[.bool p1,.slice a1 n1 c1,.slice b1 m1 d1,.bool p2,.slice a2 n2 c2,.slice b2 m2 d2] t)) := (Below.refl _ _).alloc (Nat.le_refl _) _
 refine ⟨_,rfl,hB,fun i j => ([[.bool p1,.slice a1 n1 c1,.slice b1 m1 d1],[.bool p2,.slice a2 n2 c2,.slice b2 m2 d2]].getD i []).getD j undef,⟨_,_,rfl,by omega,by omega,fun _ => ⟨_,_,rfl,fun i hi j hj => ?_⟩⟩,fun i hi => ?_⟩
 ·rw [cell_of_row _ _ _ _ _ _ hb]
  rcases (by omega : i = 0 ∨ i = 1) with rfl | rfl <;> rcases (by omega : j = 0 ∨ j = 1 ∨ j = 2) with rfl | rfl | rfl <;> rfl
 ·rcases (by omega : i = 0 ∨ i = 1) with rfl | rfl
  ·exact h1.below hB
  ·exact h2.below hB
theorem frow3_lay (w : World) (t : TypeId) {p1 : Bool} {a1 : Option Addr} {n1 c1 : Nat} {b1 : Option Addr} {m1 d1 : Nat} {p2 : Bool} {a2 : Option Addr} {n2 c2 : Nat} {b2 : Option Addr} {m2 d2 : Nat} {p3 : Bool} {a3 : Option Addr} {n3 c3 : Nat} {b3 : Option Addr} {m3 d3 : Nat} {x y z : Rat} (h1 : RepQ w (.agg #[.bool p1,.slice a1 n1 c1,.slice b1 m1 d1]) x) (h2 : RepQ w (.agg #[.bool p2,.slice a2 n2 c2,.slice b2 m2 d2]) y) (h3 : RepQ w (.agg #[.bool p3,.slice a3 n3 c3,.slice b3 m3 d3]) z) :
  ∃ W,W = w.alloc (.cells #[.bool p1,.slice a1 n1 c1,.slice b1 m1 d1,.bool p2,.slice a2 n2 c2,.slice b2 m2 d2,.bool p3,.slice a3 n3 c3,.slice b3 m3 d3] t) ∧ Below w.heap.size w W ∧ FRow W (.slice (some ⟨w.heap.size,0,none⟩) 3 3) 3 (pr x y z) := by
 have hb := heap_alloc_new w (.cells #[.bool p1,.slice a1 n1 c1,.slice b1 m1 d1,.bool p2,.slice a2 n2 c2,.slice b2 m2 d2,.bool p3,.slice a3 n3 c3,.slice b3 m3 d3] t)
 have hB : Below w.heap.size w (w.alloc (.cells #[.bool p1,.slice a1 n1 c1,.slice b1 m1 d1,.bool p2,.slice a2 n2 c2,.slice b2 m2 d2,.bool p3,.slice a3 n3 c3,.slice b3 m3 d3] t)) := (Below.refl _ _).alloc (Nat.le_refl _) _
 refine ⟨_,rfl,hB,fun i j => ([[.bool p1,.slice a1 n1 c1,.slice b1 m1 d1],[.bool p2,.slice a2 n2 c2,.slice b2 m2 d2],[.bool p3,.slice a3 n3 c3,.slice b3 m3 d3]].getD i []).getD j undef,⟨_,_,rfl,by omega,by omega,fun _ => ⟨_,_,rfl,fun i hi j hj => ?_⟩⟩,fun i hi => ?_⟩
 ·rw [cell_of_row _ _ _ _ _ _ hb]
  rcases (by omega : i = 0 ∨ i = 1 ∨ i = 2) with rfl | rfl | rfl <;> rcases (by omega : j = 0 ∨ j = 1 ∨ j = 2) with rfl | rfl | rfl <;> rfl
 ·rcases (by omega : i = 0 ∨ i = 1 ∨ i = 2) with rfl | rfl | rfl
  ·exact h1.below hB
  ·exact h2.below hB
  ·exact h3.below hB
theorem ex_mul_len : MulLen 2 (pq 1 1) 2 (pq 1 ((-1 : Int) : Rat)) = 3 := by decide +kernel
theorem ex_mul_top : conv 2 (pq 1 1) 2 (pq 1 ((-1 : Int) : Rat)) 2 = ((-1 : Int) : Rat) := by decide +kernel

set_option maxRecDepth 100000 in
set_option maxHeartbeats 8000000 in
theorem proots_at (v F_ T_ : Value) (n : Nat) (q : Nat → Rat) (f o_ : Rat) (T : Nat) (N : Nat → Nat) (Q : Nat → Nat → Rat) (R : Nat → Rat) (L j : Nat) (w : World) (hv : FRow w v n q) (hf : RepQ w F_ f) (hto : RepQ w T_ o_) (ht : Tab w) (hC : IsChain T N Q R L) (hT : 2 ≤ T) (hTM : T ≤ 1000000) (hn : n ≤ 1000) (sq : ∀ i,i < n → qsz (q i) ≤ L) (sf : qsz f ≤ L) (sto : qsz o_ ≤ L) (e0 : trimN q n = N 0) (e1 : ∀ i,i < N 0 → q i * (q (N 0 - 1))⁻¹ = Q 0 i) (e2 : q (N 0 - 1) * 1 = R 0) (d0 : trimN (fun i => q (i + 1) * (((i + 1 : Nat) : Int) : Rat)) (n - 1) = N 1) (d1 : ∀ i,i < N 1 → (fun i => q (i + 1) * (((i + 1 : Nat) : Int) : Rat)) i * ((fun i => q (i + 1) * (((i + 1 : Nat) : Int) : Rat)) (N 1 - 1))⁻¹ = Q 1 i) (d2 : (fun i => q (i + 1) * (((i + 1 : Nat) : Int) : Rat)) (N 1 - 1) * 1 = R 1) (sd : ∀ i,i < N 1 → qsz ((fun i => q (i + 1) * (((i + 1 : Nat) : Int) : Rat)) i) ≤ L) (hle : cmpQ f o_ ≤ 0) (hE1 : N (T - 1) = 1) (hNj : ∀ k,k < T → N k ≤ 2 ^ j) (hVs : vsz j L L ≤ 40000) (hEf : ∀ k,k < T → qsz (evN (Q k) f (N k)) ≤ 100000) (hEt : ∀ k,k < T → qsz (evN (Q k) o_ (N k)) ≤ 100000) :
  Calls Tryz.prog 15 #[v,F_,T_] w fun e w' => e = .returned (.tuple #[.int .i64 ((((tw (sgn N Q R f) T).1 : Nat) : Int) - (((tw (sgn N Q R o_) T).1 : Nat) : Int)),.int .i64 0]) ∧ Below w.heap.size w w' := by
 obtain ⟨pf,af,nf,cf,bf,mf,df,rfl⟩ := hf.open
 obtain ⟨pt,at_,nt,ct,bt_,mt,dt,rfl⟩ := hto.open
 obtain ⟨ao,c,rfl⟩ := hv.open
 have hL2 := hC.least
 have hLM := hC.most
 have HP0 := hC.pos 0 (by omega)
 have HC : Hid (IsChain T N Q R L) := hC
 clear hC
 have BB : Below w.heap.size w w := Below.refl _ _
 obtain ⟨Wb0,hW0,hS0,hL0,VF⟩ := V3.lay w 28 (.bool pf) (.slice af nf cf) (.slice bf mf df)
 replace hv := hv.below hL0
 replace hf := hf.below hL0
 replace hto := hto.below hL0
 replace ht := ht.below hL0
 replace BB := BB.trans (hL0.mono BB.size)
 clear hL0
 obtain ⟨Wb1,hW1,hS1,hL1,VT⟩ := V3.lay Wb0 28 (.bool pt) (.slice at_ nt ct) (.slice bt_ mt dt)
 rw [hS0] at VT hS1
 replace hv := hv.below hL1
 replace hf := hf.below hL1
 replace hto := hto.below hL1
 replace ht := ht.below hL1
 replace VF := VF.below hL1
 replace BB := BB.trans (hL1.mono BB.size)
 clear hL1
 go_enter Tryz.func15,Tryz.ntmps15
 go_wp2_with fail
 rw [← hW0]
 rw [← hW1]
 clear hW0 hW1 hS0 hS1
 refine (pdegree_at _ n q L _ (hv.q L sq) (by omega) (by omega) (by omega)).mono ?_
 rintro e w1 ⟨rfl,b1⟩
 replace hv := hv.below b1
 replace hf := hf.below b1
 replace hto := hto.below b1
 replace ht := ht.below b1
 replace VF := VF.below b1
 replace VT := VT.below b1
 replace BB := BB.trans (b1.mono BB.size)
 clear b1
 rw [e0]
 have g0 : ¬ ((N 0 : Int) - 1 < 0) := by omega
 have g0b : decide ((N 0 : Int) - 1 < 0) = false := decide_eq_false g0
 obtain ⟨VF_0,VF_1,VF_2,VF_3,VF_4,VF_5⟩ := id VF
 obtain ⟨VT_0,VT_1,VT_2,VT_3,VT_4,VT_5⟩ := id VT
 go_wp2_with fail
 clear VF_0 VF_1 VF_2 VF_3 VF_4 VF_5 VT_0 VT_1 VT_2 VT_3 VT_4 VT_5
 refine (qcmp_at _ _ f o_ L _ (hf.at L sf) (hto.at L sto) (by omega) (by omega)).mono ?_
 rintro e w2 ⟨rfl,b2⟩
 replace hv := hv.below b2
 replace hf := hf.below b2
 replace hto := hto.below b2
 replace ht := ht.below b2
 replace VF := VF.below b2
 replace VT := VT.below b2
 replace BB := BB.trans (b2.mono BB.size)
 clear b2
 have g1 : ¬ (0 < cmpQ f o_) := by omega
 have g1b : decide (0 < cmpQ f o_) = false := decide_eq_false g1
 go_wp2_with fail
 refine (plinks_at _ n q T N Q R L _ hv ht HC.out hT hTM hn sq e0 e1 e2 d0 d1 d2 sd).mono ?_
 rintro e w3 ⟨u,rfl,CH,b3⟩
 replace hv := hv.below b3
 replace hf := hf.below b3
 replace hto := hto.below b3
 replace ht := ht.below b3
 replace VF := VF.below b3
 replace VT := VT.below b3
 replace BB := BB.trans (b3.mono BB.size)
 clear b3
 obtain ⟨g,cap,rfl,hTc,hc63,hcs⟩ := id CH
 obtain ⟨y,p_,a_,n_,c_,b_,m_,d_,q1,q2,q3,q4,FY,RY⟩ := hcs (T - 1) (by omega)
 rw [hE1] at FY
 obtain ⟨ay,cy,rfl⟩ := FY.open
 have hTi : (T : Int) - 1 = ((T - 1 : Nat) : Int) := by omega
 have k1 : ((T - 1 : Nat) : Int) < (T : Int) := by omega
 have k0 : (0 : Int) ≤ ((T - 1 : Nat) : Int) := by omega
 obtain ⟨K,hK⟩ : ∃ K,T - 1 = K := ⟨_,rfl⟩
 rw [hK] at hTi k1 k0 q1
 clear hcs q2 q3 q4 FY RY hK
 go_wp2_with fail
 clear q1 hTi k1 k0
 refine wp_region_until 9 #[true,true,true,true,true,true,true,true,true] (fun aF lsd a' w' => ∃ vu0 vu1 vu2 vu3 vu4 vu5 vu6 vu7 vu8 : Value,a' = ((((((((aF.put (some 44) vu0).put (some 45) vu1).put (some 46) vu2).put (some 47) vu3).put (some 48) vu4).put (some 49) vu5).put (some 50) vu6).put (some 6) vu7).put (some 7) vu8 ∧ Below w3.heap.size w3 w' ∧ (lsd.getD 0 false = true → vu0 = .slice (some ⟨g,0,none⟩) T cap) ∧ (lsd.getD 1 false = true → vu1 = .agg #[.bool pf,.slice af nf cf,.slice bf mf df]) ∧ (lsd.getD 2 false = true → vu2 = .int .i64 (((tw (sgn N Q R f) T).1 : Nat) : Int)) ∧ (lsd.getD 3 false = true → vu3 = .slice (some ⟨g,0,none⟩) T cap) ∧ (lsd.getD 4 false = true → vu4 = .agg #[.bool pt,.slice at_ nt ct,.slice bt_ mt dt]) ∧ (lsd.getD 5 false = true → vu5 = .int .i64 (((tw (sgn N Q R o_) T).1 : Nat) : Int)) ∧ (lsd.getD 6 false = true → vu6 = .int .i64 ((((tw (sgn N Q R f) T).1 : Nat) : Int) - (((tw (sgn N Q R o_) T).1 : Nat) : Int))) ∧ (lsd.getD 7 false = true → vu7 = .int .i64 ((((tw (sgn N Q R f) T).1 : Nat) : Int) - (((tw (sgn N Q R o_) T).1 : Nat) : Int))) ∧ (lsd.getD 8 false = true → vu8 = .int .i64 0)) (by kernel_rfl) (by decide) (by kernel_rfl) (by rfl) (by kernel_rfl) ?_ ?_ ?_
 ·exact ⟨_,_,_,_,_,_,_,_,_,by simp only [Act.put,xL4,xL5,xL6]; rfl,(Below.refl _ _).drew,fun h => absurd h (fun h => mark_none h),fun h => absurd h (fun h => mark_none h),fun h => absurd h (fun h => mark_none h),fun h => absurd h (fun h => mark_none h),fun h => absurd h (fun h => mark_none h),fun h => absurd h (fun h => mark_none h),fun h => absurd h (fun h => mark_none h),fun h => absurd h (fun h => mark_none h),fun h => absurd h (fun h => mark_none h)⟩
 ·rintro lsd au wn iu hszu ⟨vu0,vu1,vu2,vu3,vu4,vu5,vu6,vu7,vu8,rfl,hbu,fu0,fu1,fu2,fu3,fu4,fu5,fu6,fu7,fu8⟩ himu hru
  rcases (show iu = 0 ∨ iu = 1 ∨ iu = 2 ∨ iu = 3 ∨ iu = 4 ∨ iu = 5 ∨ iu = 6 ∨ iu = 7 ∨ iu = 8 by omega) with rfl | rfl | rfl | rfl | rfl | rfl | rfl | rfl | rfl
  ·refine wpOp_shut (by rfl) (fun K hK => ?_)
   simp only [Act.put,xL4,xL5,xL6]
   go_simp
   exact hK.out _ _ ⟨(.slice (some ⟨g,0,none⟩) T cap),vu1,vu2,vu3,vu4,vu5,vu6,vu7,vu8,by simp only [Act.put,xL4,xL5,xL6],hbu,fun _ => rfl,fun h => fu1 (mark_of (by decide) h),fun h => fu2 (mark_of (by decide) h),fun h => fu3 (mark_of (by decide) h),fun h => fu4 (mark_of (by decide) h),fun h => fu5 (mark_of (by decide) h),fun h => fu6 (mark_of (by decide) h),fun h => fu7 (mark_of (by decide) h),fun h => fu8 (mark_of (by decide) h)⟩
  ·refine wpOp_shut (by rfl) (fun K hK => ?_)
   simp only [Act.put,xL4,xL5,xL6]
   obtain ⟨VF_0,VF_1,VF_2,VF_3,VF_4,VF_5⟩ := VF.below hbu
   go_simp
   exact hK.out _ _ ⟨vu0,(.agg #[.bool pf,.slice af nf cf,.slice bf mf df]),vu2,vu3,vu4,vu5,vu6,vu7,vu8,by simp only [Act.put,xL4,xL5,xL6],hbu,fun h => fu0 (mark_of (by decide) h),fun _ => rfl,fun h => fu2 (mark_of (by decide) h),fun h => fu3 (mark_of (by decide) h),fun h => fu4 (mark_of (by decide) h),fun h => fu5 (mark_of (by decide) h),fun h => fu6 (mark_of (by decide) h),fun h => fu7 (mark_of (by decide) h),fun h => fu8 (mark_of (by decide) h)⟩
  ·have eu0 := fu0 (dep_of 0 hru rfl (by kernel_rfl))
   have eu1 := fu1 (dep_of 1 hru rfl (by kernel_rfl))
   replace eu0 := eu0.symm
   subst eu0
   replace eu1 := eu1.symm
   subst eu1
   refine wpOp_shut (by rfl) (fun K hK => ?_)
   simp only [Act.put,xL4,xL5,xL6]
   have hf := hf.below hbu
   have ht := ht.below hbu
   have CH := CH.below hbu
   go_simp
   refine (pturns_at _ _ T N Q R f L L j _ CH hf ht hTM (fun k hk i hi => HC.out.sz k i hk hi) (fun k hk => HC.out.szR k hk) sf (fun k hk => HC.out.small k hk) hNj (by omega) (by omega) hVs (hEf)).mono ?_
   rintro eu wx ⟨rfl,bu⟩
   go_wp2_with fail
   have hbu2 := hbu.trans (bu.mono hbu.size)
   exact hK.out _ _ ⟨(.slice (some ⟨g,0,none⟩) T cap),(.agg #[.bool pf,.slice af nf cf,.slice bf mf df]),(.int .i64 (((tw (sgn N Q R f) T).1 : Nat) : Int)),vu3,vu4,vu5,vu6,vu7,vu8,by simp only [Act.put,xL4,xL5,xL6],hbu2,fun _ => rfl,fun _ => rfl,fun _ => rfl,fun h => fu3 (mark_of (by decide) h),fun h => fu4 (mark_of (by decide) h),fun h => fu5 (mark_of (by decide) h),fun h => fu6 (mark_of (by decide) h),fun h => fu7 (mark_of (by decide) h),fun h => fu8 (mark_of (by decide) h)⟩
  ·refine wpOp_shut (by rfl) (fun K hK => ?_)
   simp only [Act.put,xL4,xL5,xL6]
   go_simp
   exact hK.out _ _ ⟨vu0,vu1,vu2,(.slice (some ⟨g,0,none⟩) T cap),vu4,vu5,vu6,vu7,vu8,by simp only [Act.put,xL4,xL5,xL6],hbu,fun h => fu0 (mark_of (by decide) h),fun h => fu1 (mark_of (by decide) h),fun h => fu2 (mark_of (by decide) h),fun _ => rfl,fun h => fu4 (mark_of (by decide) h),fun h => fu5 (mark_of (by decide) h),fun h => fu6 (mark_of (by decide) h),fun h => fu7 (mark_of (by decide) h),fun h => fu8 (mark_of (by decide) h)⟩
  ·refine wpOp_shut (by rfl) (fun K hK => ?_)
   simp only [Act.put,xL4,xL5,xL6]
   obtain ⟨VT_0,VT_1,VT_2,VT_3,VT_4,VT_5⟩ := VT.below hbu
   go_simp
   exact hK.out _ _ ⟨vu0,vu1,vu2,vu3,(.agg #[.bool pt,.slice at_ nt ct,.slice bt_ mt dt]),vu5,vu6,vu7,vu8,by simp only [Act.put,xL4,xL5,xL6],hbu,fun h => fu0 (mark_of (by decide) h),fun h => fu1 (mark_of (by decide) h),fun h => fu2 (mark_of (by decide) h),fun h => fu3 (mark_of (by decide) h),fun _ => rfl,fun h => fu5 (mark_of (by decide) h),fun h => fu6 (mark_of (by decide) h),fun h => fu7 (mark_of (by decide) h),fun h => fu8 (mark_of (by decide) h)⟩
  ·have eu2 := fu2 (dep_of 2 hru rfl (by kernel_rfl))
   have eu3 := fu3 (dep_of 3 hru rfl (by kernel_rfl))
   have eu4 := fu4 (dep_of 4 hru rfl (by kernel_rfl))
   replace eu2 := eu2.symm
   subst eu2
   replace eu3 := eu3.symm
   subst eu3
   replace eu4 := eu4.symm
   subst eu4
   refine wpOp_shut (by rfl) (fun K hK => ?_)
   simp only [Act.put,xL4,xL5,xL6]
   have hto := hto.below hbu
   have ht := ht.below hbu
   have CH := CH.below hbu
   go_simp
   refine (pturns_at _ _ T N Q R o_ L L j _ CH hto ht hTM (fun k hk i hi => HC.out.sz k i hk hi) (fun k hk => HC.out.szR k hk) sto (fun k hk => HC.out.small k hk) hNj (by omega) (by omega) hVs (hEt)).mono ?_
   rintro eu wx ⟨rfl,bu⟩
   go_wp2_with fail
   have hbu2 := hbu.trans (bu.mono hbu.size)
   exact hK.out _ _ ⟨vu0,vu1,(.int .i64 (((tw (sgn N Q R f) T).1 : Nat) : Int)),(.slice (some ⟨g,0,none⟩) T cap),(.agg #[.bool pt,.slice at_ nt ct,.slice bt_ mt dt]),(.int .i64 (((tw (sgn N Q R o_) T).1 : Nat) : Int)),vu6,vu7,vu8,by simp only [Act.put,xL4,xL5,xL6],hbu2,fun h => fu0 (mark_of (by decide) h),fun h => fu1 (mark_of (by decide) h),fun _ => rfl,fun _ => rfl,fun _ => rfl,fun _ => rfl,fun h => fu6 (mark_of (by decide) h),fun h => fu7 (mark_of (by decide) h),fun h => fu8 (mark_of (by decide) h)⟩
  ·have eu2 := fu2 (dep_of 2 hru rfl (by kernel_rfl))
   have eu5 := fu5 (dep_of 5 hru rfl (by kernel_rfl))
   replace eu2 := eu2.symm
   subst eu2
   replace eu5 := eu5.symm
   subst eu5
   refine wpOp_shut (by rfl) (fun K hK => ?_)
   simp only [Act.put,xL4,xL5,xL6]
   have hwr : IntKind.i64.wrap ((((tw (sgn N Q R f) T).1 : Nat) : Int) - (((tw (sgn N Q R o_) T).1 : Nat) : Int)) = (((tw (sgn N Q R f) T).1 : Nat) : Int) - (((tw (sgn N Q R o_) T).1 : Nat) : Int) := by have := tw_le (sgn N Q R f) T; have := tw_le (sgn N Q R o_) T; rw [IntKind.wrap_i64]; omega
   go_simp
   exact hK.out _ _ ⟨vu0,vu1,(.int .i64 (((tw (sgn N Q R f) T).1 : Nat) : Int)),vu3,vu4,(.int .i64 (((tw (sgn N Q R o_) T).1 : Nat) : Int)),(.int .i64 ((((tw (sgn N Q R f) T).1 : Nat) : Int) - (((tw (sgn N Q R o_) T).1 : Nat) : Int))),vu7,vu8,by simp only [Act.put,xL4,xL5,xL6],hbu,fun h => fu0 (mark_of (by decide) h),fun h => fu1 (mark_of (by decide) h),fun _ => rfl,fun h => fu3 (mark_of (by decide) h),fun h => fu4 (mark_of (by decide) h),fun _ => rfl,fun _ => rfl,fun h => fu7 (mark_of (by decide) h),fun h => fu8 (mark_of (by decide) h)⟩
  ·have eu0 := fu0 (dep_of 0 hru rfl (by kernel_rfl))
   have eu1 := fu1 (dep_of 1 hru rfl (by kernel_rfl))
   have eu2 := fu2 (dep_of 2 hru rfl (by kernel_rfl))
   have eu3 := fu3 (dep_of 3 hru rfl (by kernel_rfl))
   have eu4 := fu4 (dep_of 4 hru rfl (by kernel_rfl))
   have eu5 := fu5 (dep_of 5 hru rfl (by kernel_rfl))
   have eu6 := fu6 (dep_of 6 hru rfl (by kernel_rfl))
   replace eu0 := eu0.symm
   subst eu0
   replace eu1 := eu1.symm
   subst eu1
   replace eu2 := eu2.symm
   subst eu2
   replace eu3 := eu3.symm
   subst eu3
   replace eu4 := eu4.symm
   subst eu4
   replace eu5 := eu5.symm
   subst eu5
   replace eu6 := eu6.symm
   subst eu6
   refine wpOp_shut (by rfl) (fun K hK => ?_)
   simp only [Act.put,xL4,xL5,xL6]
   go_simp
   exact hK.out _ _ ⟨(.slice (some ⟨g,0,none⟩) T cap),(.agg #[.bool pf,.slice af nf cf,.slice bf mf df]),(.int .i64 (((tw (sgn N Q R f) T).1 : Nat) : Int)),(.slice (some ⟨g,0,none⟩) T cap),(.agg #[.bool pt,.slice at_ nt ct,.slice bt_ mt dt]),(.int .i64 (((tw (sgn N Q R o_) T).1 : Nat) : Int)),(.int .i64 ((((tw (sgn N Q R f) T).1 : Nat) : Int) - (((tw (sgn N Q R o_) T).1 : Nat) : Int))),(.int .i64 ((((tw (sgn N Q R f) T).1 : Nat) : Int) - (((tw (sgn N Q R o_) T).1 : Nat) : Int))),vu8,by simp only [Act.put,xL4,xL5,xL6],hbu,fun _ => rfl,fun _ => rfl,fun _ => rfl,fun _ => rfl,fun _ => rfl,fun _ => rfl,fun _ => rfl,fun _ => rfl,fun h => fu8 (mark_of (by decide) h)⟩
  ·have eu0 := fu0 (dep_of 0 hru rfl (by kernel_rfl))
   have eu1 := fu1 (dep_of 1 hru rfl (by kernel_rfl))
   have eu2 := fu2 (dep_of 2 hru rfl (by kernel_rfl))
   have eu3 := fu3 (dep_of 3 hru rfl (by kernel_rfl))
   have eu4 := fu4 (dep_of 4 hru rfl (by kernel_rfl))
   have eu5 := fu5 (dep_of 5 hru rfl (by kernel_rfl))
   have eu6 := fu6 (dep_of 6 hru rfl (by kernel_rfl))
   have eu7 := fu7 (dep_of 7 hru rfl (by kernel_rfl))
   replace eu0 := eu0.symm
   subst eu0
   replace eu1 := eu1.symm
   subst eu1
   replace eu2 := eu2.symm
   subst eu2
   replace eu3 := eu3.symm
   subst eu3
   replace eu4 := eu4.symm
   subst eu4
   replace eu5 := eu5.symm
   subst eu5
   replace eu6 := eu6.symm
   subst eu6
   replace eu7 := eu7.symm
   subst eu7
   refine wpOp_shut (by rfl) (fun K hK => ?_)
   simp only [Act.put,xL4,xL5,xL6]
   go_simp
   exact hK.out _ _ ⟨(.slice (some ⟨g,0,none⟩) T cap),(.agg #[.bool pf,.slice af nf cf,.slice bf mf df]),(.int .i64 (((tw (sgn N Q R f) T).1 : Nat) : Int)),(.slice (some ⟨g,0,none⟩) T cap),(.agg #[.bool pt,.slice at_ nt ct,.slice bt_ mt dt]),(.int .i64 (((tw (sgn N Q R o_) T).1 : Nat) : Int)),(.int .i64 ((((tw (sgn N Q R f) T).1 : Nat) : Int) - (((tw (sgn N Q R o_) T).1 : Nat) : Int))),(.int .i64 ((((tw (sgn N Q R f) T).1 : Nat) : Int) - (((tw (sgn N Q R o_) T).1 : Nat) : Int))),(.int .i64 0),by simp only [Act.put,xL4,xL5,xL6],hbu,fun _ => rfl,fun _ => rfl,fun _ => rfl,fun _ => rfl,fun _ => rfl,fun _ => rfl,fun _ => rfl,fun _ => rfl,fun _ => rfl⟩
 rintro au Wu1 ⟨vu0,vu1,vu2,vu3,vu4,vu5,vu6,vu7,vu8,rfl,hbu,fu0,fu1,fu2,fu3,fu4,fu5,fu6,fu7,fu8⟩
 have eu0 := (fu0 rfl).symm
 subst eu0
 have eu1 := (fu1 rfl).symm
 subst eu1
 have eu2 := (fu2 rfl).symm
 subst eu2
 have eu3 := (fu3 rfl).symm
 subst eu3
 have eu4 := (fu4 rfl).symm
 subst eu4
 have eu5 := (fu5 rfl).symm
 subst eu5
 have eu6 := (fu6 rfl).symm
 subst eu6
 have eu7 := (fu7 rfl).symm
 subst eu7
 have eu8 := (fu8 rfl).symm
 subst eu8
 clear fu0 fu1 fu2 fu3 fu4 fu5 fu6 fu7 fu8
 have hlVF : w.heap.size < w3.heap.size := VF.lt
 have hlVT : w.heap.size + 1 < w3.heap.size := VT.lt
 simp only [Act.put,xL4,xL5,xL6]
 replace hv := hv.below hbu
 replace hf := hf.below hbu
 replace hto := hto.below hbu
 replace ht := ht.below hbu
 replace CH := CH.below hbu
 replace VF := VF.below hbu
 replace VT := VT.below hbu
 replace BB := BB.trans (hbu.mono BB.size)
 clear hbu
 refine wpAnyH_done (by kernel_rfl) ?_ _
 go_wp2
 (try simp only [Exit.inBlock,Exit.then])
 go_ret2
 exact ⟨rfl,BB⟩

set_option maxRecDepth 100000 in
set_option maxHeartbeats 4000000 in
theorem awake4_at (w : World) (ht : Tab w) :
  Calls Tryz.prog 16 #[] w fun e w' => e = .returned (.bool true) ∧ Below w.heap.size w w' := by
 have BB : Below w.heap.size w w := Below.refl _ _
 go_enter Tryz.func16,Tryz.ntmps16
 go_wp2_with fail
 refine (qone_at _).mono ?_
 rintro e w1 ⟨x1,rfl,h1,b1⟩
 replace ht := ht.below b1
 replace BB := BB.trans (b1.mono BB.size)
 clear b1
 obtain ⟨p1,a1,n1,c1,b1,m1,d1,rfl⟩ := h1.open
 go_wp2_with fail
 refine (qone_at _).mono ?_
 rintro e w2 ⟨x2,rfl,h2,b2⟩
 replace ht := ht.below b2
 replace h1 := h1.below b2
 replace BB := BB.trans (b2.mono BB.size)
 clear b2
 obtain ⟨p2,a2,n2,c2,b2,m2,d2,rfl⟩ := h2.open
 obtain ⟨Wr1,hWr1,bWr1,FA⟩ := frow2_lay w2 28 h1 h2
 replace ht := ht.below bWr1
 replace h1 := h1.below bWr1
 replace h2 := h2.below bWr1
 replace BB := BB.trans (bWr1.mono BB.size)
 go_wp2_with fail
 rw [← hWr1]
 clear hWr1 bWr1
 generalize w2.heap.size = Rr1 at *
 clear h1 h2
 refine (qone_at _).mono ?_
 rintro e w3 ⟨x3,rfl,h3,b3⟩
 replace ht := ht.below b3
 replace FA := FA.below b3
 replace BB := BB.trans (b3.mono BB.size)
 clear b3
 obtain ⟨p3,a3,n3,c3,b3,m3,d3,rfl⟩ := h3.open
 go_wp2_with fail
 refine (qof_at (-1) _ (by omega) (by omega)).mono ?_
 rintro e w4 ⟨x4,rfl,h4,b4⟩
 replace ht := ht.below b4
 replace FA := FA.below b4
 replace h3 := h3.below b4
 replace BB := BB.trans (b4.mono BB.size)
 clear b4
 obtain ⟨p4,a4,n4,c4,b4,m4,d4,rfl⟩ := h4.open
 obtain ⟨Wr2,hWr2,bWr2,FB⟩ := frow2_lay w4 28 h3 h4
 replace ht := ht.below bWr2
 replace FA := FA.below bWr2
 replace h3 := h3.below bWr2
 replace h4 := h4.below bWr2
 replace BB := BB.trans (bWr2.mono BB.size)
 go_wp2_with fail
 rw [← hWr2]
 clear hWr2 bWr2
 generalize w4.heap.size = Rr2 at *
 clear h3 h4
 refine (pmul_at _ _ 2 2 _ _ 2 _ (FA.q 2 (by decide +kernel)) (FB.q 2 (by decide +kernel)) ht (by omega) (by omega) (by omega) (by decide) (by omega)).mono ?_
 rintro e w5 ⟨x5,rfl,FM,b5⟩
 replace ht := ht.below b5
 replace FA := FA.below b5
 replace FB := FB.below b5
 replace BB := BB.trans (b5.mono BB.size)
 clear b5
 rw [ex_mul_len] at FM
 obtain ⟨aM,cM,rfl⟩ := FM.1.open
 go_wp2_with fail
 clear FA FB
 refine (qof_at (-2) _ (by omega) (by omega)).mono ?_
 rintro e w6 ⟨x6,rfl,h6,b6⟩
 replace ht := ht.below b6
 replace FM := FM.below b6
 replace BB := BB.trans (b6.mono BB.size)
 clear b6
 obtain ⟨p6,a6,n6,c6,b6,m6,d6,rfl⟩ := h6.open
 go_wp2_with fail
 refine (qzero_at _).mono ?_
 rintro e w7 ⟨x7,rfl,h7,b7⟩
 replace ht := ht.below b7
 replace FM := FM.below b7
 replace h6 := h6.below b7
 replace BB := BB.trans (b7.mono BB.size)
 clear b7
 obtain ⟨p7,a7,n7,c7,b7,m7,d7,rfl⟩ := h7.open
 go_wp2_with fail
 refine (qone_at _).mono ?_
 rintro e w8 ⟨x8,rfl,h8,b8⟩
 replace ht := ht.below b8
 replace FM := FM.below b8
 replace h6 := h6.below b8
 replace h7 := h7.below b8
 replace BB := BB.trans (b8.mono BB.size)
 clear b8
 obtain ⟨p8,a8,n8,c8,b8,m8,d8,rfl⟩ := h8.open
 obtain ⟨Wr3,hWr3,bWr3,FP⟩ := frow3_lay w8 28 h6 h7 h8
 replace ht := ht.below bWr3
 replace FM := FM.below bWr3
 replace h6 := h6.below bWr3
 replace h7 := h7.below bWr3
 replace h8 := h8.below bWr3
 replace BB := BB.trans (bWr3.mono BB.size)
 go_wp2_with fail
 rw [← hWr3]
 clear hWr3 bWr3
 generalize w8.heap.size = Rr3 at *
 clear h6 h7 h8
 refine (qzero_at _).mono ?_
 rintro e w9 ⟨x9,rfl,h9,b9⟩
 replace ht := ht.below b9
 replace FM := FM.below b9
 replace FP := FP.below b9
 replace BB := BB.trans (b9.mono BB.size)
 clear b9
 go_wp2_with fail
 refine (qof_at 2 _ (by omega) (by omega)).mono ?_
 rintro e w10 ⟨x10,rfl,h10,b10⟩
 replace ht := ht.below b10
 replace FM := FM.below b10
 replace FP := FP.below b10
 replace h9 := h9.below b10
 replace BB := BB.trans (b10.mono BB.size)
 clear b10
 go_wp2_with fail
 refine (proots_at _ _ _ 3 exP 0 ((2 : Int) : Rat) 3 exN exQ exR 4 2 _ FP h9 h10 ht ex_chain (by omega) (by omega) (by omega) (by decide +kernel) (by decide +kernel) (by decide +kernel) (by decide +kernel) (by decide +kernel) (by decide +kernel) (by decide +kernel) (by decide +kernel) (by decide +kernel) (by decide +kernel) (by decide +kernel) (by decide +kernel) (by decide +kernel) (by decide +kernel) (by decide +kernel) (by decide +kernel)).mono ?_
 rintro e w11 ⟨rfl,b11⟩
 replace ht := ht.below b11
 replace FM := FM.below b11
 replace FP := FP.below b11
 replace h9 := h9.below b11
 replace h10 := h10.below b11
 replace BB := BB.trans (b11.mono BB.size)
 clear b11
 rw [ex_turns]
 go_wp2_with fail
 clear FP h9 h10
 obtain ⟨bM,oM,ccM,pM,aM2,mM,dM,bM2,kM,eM,hvv,hcc,XA,HM⟩ := FM.1.at 2 (by omega)
 cases hvv
 rw [ex_mul_top] at HM
 clear FM
 have hDr : Below w11.heap.size w11 w11.drew := (Below.refl _ _).drew
 replace ht := ht.below hDr
 replace HM := HM.below hDr
 replace XA := XA.below hDr
 replace BB := BB.trans (hDr.mono BB.size)
 clear hDr
 refine wp_region_held_drew (S := (fun w' => w'.cell? ⟨bM,oM + 2 * 3,none⟩ = some (.bool pM) ∧ w'.cell? ⟨bM,oM + 2 * 3 + 1,none⟩ = some (.slice aM2 mM dM) ∧ w'.cell? ⟨bM,oM + 2 * 3 + 2,none⟩ = some (.slice bM2 kM eM))) (by kernel_rfl) ?_ (fun hHeld => ?_)
 ·exact ⟨XA.1,XA.2.1,XA.2.2⟩
 generalize w11.drew = W4 at *
 refine xT 0 (v := ?_) (hy := Or.inl ⟨by rfl,?_⟩) (h := ?_)
 rotate_left
 ·(intro w hSw; (try dsimp only at hSw); go_simp; (try with_reducible rfl))
 (try simp only [Act.put,xL4,xL5,xL6])
 refine xT 1 (v := ?_) (hy := Or.inl ⟨by rfl,?_⟩) (h := ?_)
 rotate_left
 ·(intro w hSw; (try dsimp only at hSw); go_simp; (try with_reducible rfl))
 (try simp only [Act.put,xL4,xL5,xL6])
 refine xT 2 (v := ?_) (hy := Or.inl ⟨by rfl,?_⟩) (h := ?_)
 rotate_left
 ·(intro w hSw; (try dsimp only at hSw); go_simp; (try with_reducible rfl))
 (try simp only [Act.put,xL4,xL5,xL6])
 refine xT 3 (v := ?_) (hy := Or.inl ⟨by rfl,?_⟩) (h := ?_)
 rotate_left
 ·(intro w hSw; (try dsimp only at hSw); go_simp; (try with_reducible rfl))
 (try simp only [Act.put,xL4,xL5,xL6])
 refine xT 4 (v := ?_) (hy := Or.inl ⟨by rfl,?_⟩) (h := ?_)
 rotate_left
 ·(intro w hSw; (try dsimp only at hSw); go_simp; (try with_reducible rfl))
 (try simp only [Act.put,xL4,xL5,xL6])
 refine xT 5 (v := ?_) (hy := Or.inl ⟨by rfl,?_⟩) (h := ?_)
 rotate_left
 ·(intro w hSw; (try dsimp only at hSw); go_simp; (try with_reducible rfl))
 (try simp only [Act.put,xL4,xL5,xL6])
 refine xT 6 (v := ?_) (hy := Or.inl ⟨by rfl,?_⟩) (h := ?_)
 rotate_left
 ·(intro w hSw; (try dsimp only at hSw); go_simp; (try with_reducible rfl))
 (try simp only [Act.put,xL4,xL5,xL6])
 refine xR [7] (h := ?_)
 refine xN (h := fun K hK => ?_)
 go_simp
 refine (qof_at (-1) _ (by omega) (by omega)).mono ?_
 rintro e w12 ⟨x11,rfl,h11,b12⟩
 go_wp2_with fail
 replace ht := ht.below b12
 replace HM := HM.below b12
 replace XA := XA.below b12
 replace BB := BB.trans (b12.mono BB.size)
 clear b12
 refine hK.out _ _ ?_ (fun hH1 => ?_)
 ·exact ⟨XA.1,XA.2.1,XA.2.2⟩
 clear hK K hHeld
 (try simp only [Act.put,xL4,xL5,xL6])
 refine xR [8] (h := ?_)
 refine xN (h := fun K hK => ?_)
 go_simp
 refine (qsame_at _ _ ((-1 : Int) : Rat) ((-1 : Int) : Rat) 4 _ (HM.at 4 (by decide +kernel)) (h11.at 4 (by decide +kernel)) (by omega) (by omega)).mono ?_
 rintro e w13 ⟨rfl,b13⟩
 rw [decide_eq_true (rfl : ((-1 : Int) : Rat) = ((-1 : Int) : Rat))]
 go_wp2_with fail
 replace ht := ht.below b13
 replace HM := HM.below b13
 replace h11 := h11.below b13
 replace XA := XA.below b13
 replace BB := BB.trans (b13.mono BB.size)
 clear b13
 refine hK.out _ _ ?_ (fun hH2 => ?_)
 ·exact ⟨XA.1,XA.2.1,XA.2.2⟩
 clear hK K hH1
 (try simp only [Act.put,xL4,xL5,xL6])
 refine xT 9 (v := ?_) (hy := Or.inl ⟨by rfl,?_⟩) (h := ?_)
 rotate_left
 ·(intro w hSw; (try dsimp only at hSw); go_simp; (try with_reducible rfl))
 (try simp only [Act.put,xL4,xL5,xL6])
 refine xT 10 (v := ?_) (hy := Or.inl ⟨by rfl,?_⟩) (h := ?_)
 rotate_left
 ·(intro w hSw; (try dsimp only at hSw); go_simp; (try with_reducible rfl))
 (try simp only [Act.put,xL4,xL5,xL6])
 refine xT 11 (v := ?_) (hy := Or.inl ⟨by rfl,?_⟩) (h := ?_)
 rotate_left
 ·(intro w hSw; (try dsimp only at hSw); go_simp; (try with_reducible rfl))
 (try simp only [Act.put,xL4,xL5,xL6])
 refine xT 12 (v := ?_) (hy := Or.inl ⟨by rfl,?_⟩) (h := ?_)
 rotate_left
 ·(intro w hSw; (try dsimp only at hSw); go_simp; (try with_reducible rfl))
 (try simp only [Act.put,xL4,xL5,xL6])
 refine xT 13 (v := ?_) (hy := Or.inl ⟨by rfl,?_⟩) (h := ?_)
 rotate_left
 ·(intro w hSw; (try dsimp only at hSw); go_simp; (try with_reducible rfl))
 (try simp only [Act.put,xL4,xL5,xL6])
 refine xT 14 (v := ?_) (hy := Or.inl ⟨by rfl,?_⟩) (h := ?_)
 rotate_left
 ·(intro w hSw; (try dsimp only at hSw); go_simp; (try with_reducible rfl))
 (try simp only [Act.put,xL4,xL5,xL6])
 refine xT 15 (v := ?_) (hy := Or.inl ⟨by rfl,?_⟩) (h := ?_)
 rotate_left
 ·(intro w hSw; (try dsimp only at hSw); go_simp; (try with_reducible rfl))
 (try simp only [Act.put,xL4,xL5,xL6])
 refine xT 16 (v := ?_) (hy := Or.inl ⟨by rfl,?_⟩) (h := ?_)
 rotate_left
 ·(intro w hSw; (try dsimp only at hSw); go_simp; (try with_reducible rfl))
 (try simp only [Act.put,xL4,xL5,xL6])
 refine xT 17 (v := ?_) (hy := Or.inl ⟨by rfl,?_⟩) (h := ?_)
 rotate_left
 ·(intro w hSw; (try dsimp only at hSw); go_simp; (try with_reducible rfl))
 (try simp only [Act.put,xL4,xL5,xL6])
 refine xT 18 (v := ?_) (hy := Or.inl ⟨by rfl,?_⟩) (h := ?_)
 rotate_left
 ·(intro w hSw; (try dsimp only at hSw); go_simp; (try with_reducible rfl))
 (try simp only [Act.put,xL4,xL5,xL6])
 refine wpAnyH_done (by kernel_rfl) ?_ _
 clear hH2
 go_wp2
 go_ret
 exact ⟨rfl,BB⟩

end Go.Proofs.YtieeneaebjihlaaGreatDoor
