/-
  Texts of mine, joined: what lies beneath the statement.
-/
import Derived.Test.YthlogenaienkhaaGreatDoorJ05dc961424
import Derived.Test.YthlogenaienkhaaGreatDoorJ8ed42d3eee
import Derived.Test.YthlogenaienkhaaGreatDoorJ01222156c2
import Derived.Test.YthlogenaienkhaaGreatDoorJ1233da0a2f
import Derived.Test.YthlogenaienkhaaGreatDoorJbbfd1fca5a
import Derived.Test.YthlogenaienkhaaGreatDoorJ90ce424f96
import Derived.Test.YthlogenaienkhaaGreatDoorJ3551e688d6
/-
 A list of rational numbers that comes in,as an argument; a row of the call's own of rational numbers.
-/
namespace Go.Proofs.YthlogenaienkhaaGreatDoor
open Go.ChangeShapes Go.WideShapes Go.ChangeAt Go.RowKit
set_option linter.unusedVariables false

/-- A list of rational numbers as it comes in; q i is the i-th cut to K limbs above and below. -/
def RawQ (w : World) (v : Value) (n : Nat) (q : Nat → Rat) (K : Nat) : Prop :=
 ∃ el,RowAt 3 w v n el ∧ ∀ i,i < n → ∃ p ao m c bo k d f g,el i 0 = .bool p ∧ el i 1 = .slice ao m c ∧ el i 2 = .slice bo k d ∧ Raw w (.slice ao m c) m f ∧ Raw w (.slice bo k d) k g ∧ q i = mkRat (zof p (num f (min m K))) (num g (min k K))
theorem RawQ.below {w w' : World} {v : Value} {n : Nat} {q : Nat → Rat} {K : Nat} (h : RawQ w v n q K) (hb : Below w.heap.size w w') : RawQ w' v n q K := by
 obtain ⟨el,h1,h2⟩ := h
 exact ⟨el,h1.below hb,fun i hi => let ⟨p,ao,m,c,bo,k,d,f,g,a,b,x,r,r2,e⟩ := h2 i hi; ⟨p,ao,m,c,bo,k,d,f,g,a,b,x,r.below hb,r2.below hb,e⟩⟩
/-- The i-th of them. -/
theorem RawQ.at {w : World} {v : Value} {n : Nat} {q : Nat → Rat} {K : Nat} (h : RawQ w v n q K) (i : Nat) (hi : i < n) :
  ∃ b off c p ao m d bo k e f g,v = .slice (some ⟨b,off,none⟩) n c ∧ n ≤ c ∧ w.cell? ⟨b,off + i * 3,none⟩ = some (.bool p) ∧ w.cell? ⟨b,off + i * 3 + 1,none⟩ = some (.slice ao m d) ∧ w.cell? ⟨b,off + i * 3 + 2,none⟩ = some (.slice bo k e) ∧ Raw w (.slice ao m d) m f ∧ Raw w (.slice bo k e) k g ∧ q i = mkRat (zof p (num f (min m K))) (num g (min k K)) := by
 obtain ⟨el,⟨a,c,h1,h2,h3,h4⟩,h5⟩ := h
 obtain ⟨b,off,rfl,hc⟩ := h4 (by omega)
 obtain ⟨p,ao,m,d,bo,k,e,f,g,e0,e1,e2,r,r2,eq⟩ := h5 i hi
 have c0 := hc i hi 0 (by omega)
 have c1 := hc i hi 1 (by omega)
 have c2 := hc i hi 2 (by omega)
 rw [e0] at c0
 rw [e1] at c1
 rw [e2] at c2
 exact ⟨b,off,c,p,ao,m,d,bo,k,e,f,g,h1,h2,c0,c1,c2,r,r2,eq⟩
theorem cells3 {l : List Value} (h : l.length = 3) : ∃ a b c,l = [a,b,c] := by
 match l,h with
 | [a,b,c],_ => exact ⟨a,b,c,rfl⟩
set_option maxRecDepth 100000 in
theorem open_wrats {H : Type} {enc : TypeId × Value → H} {W : World} {base b0 : Nat} {r : Reach} {v : Value} {d : DataW H} {ps : List MemPlace} (K : Nat)
  (hval : Value.okWide Tryz.prog W r b0 22 v) (h : DataW.Trod enc Tryz.prog W base (fun _ => true) true 22 v d ps) : ∃ n q,RawQ W v n q K := by
 obtain ⟨a,len,cap,rfl⟩ := okWide_slice Tryz.underlying22 hval
 obtain ⟨fuel,hf⟩ := h
 rcases Go.Deep.open_slice Tryz.underlying22 hf with ⟨hcs,_⟩ | ⟨x,l,c,m,n,D,Pl,hcs,_,hl,hm,hmm,_,hall⟩
 ·simp [Value.cells] at hcs
  obtain ⟨rfl,rfl,rfl⟩ := hcs
  exact ⟨0,fun _ => 0,fun _ _ => .bool false,RowAt.nil _ _ _,fun i hi => by omega⟩
 ·simp [Value.cells] at hcs
  obtain ⟨rfl,rfl,rfl⟩ := hcs
  rw [if_pos rfl] at hmm
  subst hmm
  rw [cells_wrat] at hall
  have each : ∀ i,∃ y : Rat × Value × Value × Value,i < len → W.cell? (x.add (i * 3)) = some y.2.1 ∧ W.cell? (x.add (i * 3 + 1)) = some y.2.2.1 ∧ W.cell? (x.add (i * 3 + 2)) = some y.2.2.2 ∧
    ∃ p ao m c bo k d f g,y.2.1 = .bool p ∧ y.2.2.1 = .slice ao m c ∧ y.2.2.2 = .slice bo k d ∧ Raw W (.slice ao m c) m f ∧ Raw W (.slice bo k d) k g ∧ y.1 = mkRat (zof p (num f (min m K))) (num g (min k K)) := by
   intro i
   by_cases hi : i < len
   ·obtain ⟨cs,h1,h2⟩ := hall i (by omega)
    obtain ⟨_,hlen,hcell⟩ := World.cells?_some h1
    obtain ⟨c0,c1,c2,rfl⟩ := cells3 hlen
    obtain ⟨y0,y1,m,hx,_,hy0,hy1⟩ := trod_struct2 Tryz.underlying35 h2
    obtain ⟨z0,z1,m2,hx2,_,hz0,hz1⟩ := trod_struct2 Tryz.underlying33 hy0
    obtain ⟨b,e0,_⟩ := DataW.trod_bool Tryz.underlying4 hz0
    obtain ⟨ao,n1,c3,f,e1,hraw⟩ := open_nat hz1
    obtain ⟨bo,m3,d3,g,e2,hraw2⟩ := open_nat hy1
    simp [cells_bool,cells_nat,cells_wint] at e0 e1 e2
    have k0 := hcell 0 (by omega)
    have k1 := hcell 1 (by omega)
    have k2 := hcell 2 (by omega)
    rw [Go.Deep.add_add] at k0 k1 k2
    exact ⟨(_,c0,c1,c2),fun _ => ⟨by simpa using k0,by simpa using k1,by simpa using k2,b,ao,n1,c3,bo,m3,d3,f,g,e0,e1,e2,hraw,hraw2,rfl⟩⟩
   ·exact ⟨(0,.bool false,.bool false,.bool false),fun h => absurd h hi⟩
  obtain ⟨Y,hY⟩ := Classical.axiomOfChoice each
  refine ⟨len,fun i => (Y i).1,fun i j => if j = 0 then (Y i).2.1 else if j = 1 then (Y i).2.2.1 else (Y i).2.2.2,⟨_,_,rfl,hl,by unfold maxLen at hm; omega,fun h0 => ?_⟩,fun i hi => ?_⟩
  ·obtain ⟨b,off,spot⟩ := x
   have hc := (hY 0 (by omega)).1
   have hspot : spot = none := by simpa [Addr.add] using World.cell?_spot hc
   subst hspot
   refine ⟨b,off,rfl,fun i hi j hj => ?_⟩
   obtain ⟨g0,g1,g2,_⟩ := hY i hi
   rw [add_off] at g0 g1 g2
   rcases (show j = 0 ∨ j = 1 ∨ j = 2 by omega) with rfl | rfl | rfl
   ·exact g0
   ·exact g1
   ·exact g2
  ·obtain ⟨_,_,_,p,ao,m,c,bo,k,d,f,g,e0,e1,e2,hr,hr2,e⟩ := hY i hi
   exact ⟨p,ao,m,c,bo,k,d,f,g,e0,e1,e2,hr,hr2,e⟩

theorem info_wrat : (Tryz.prog.info? 35).map (fun i => (i.zero,i.size,i.bytes)) = some (some (.agg #[.bool false,.slice none 0 0,.slice none 0 0]),3,56) := by kernel_rfl
/-- A row of the call's own of rational numbers, each of at most L limbs above and below. -/
def QOwn (B : Nat) (w : World) (v : Value) (n : Nat) (q : Nat → Rat) (L : Nat) : Prop :=
 ∃ (us : List Value) (el : Nat → Nat → Value),w.ownsRow B 35 3 v n us ∧ (∀ g,v.ownBlock = some g → PureB IsNum w g) ∧ (∀ i,i < n → ∀ j,j < 3 → us[i * 3 + j]? = some (el i j)) ∧ ∀ i,i < n → RatAt w (.agg #[el i 0,el i 1,el i 2]) (q i) L
theorem QOwn.row {B : Nat} {w : World} {v : Value} {n : Nat} {q : Nat → Rat} {L : Nat} (h : QOwn B w v n q L) : QRow w v n q L := by
 obtain ⟨us,el,h1,_,h3,h4⟩ := h
 exact ⟨el,RowAt.of_owns h1 h3,h4⟩
theorem QOwn.nil (B : Nat) (w : World) (q : Nat → Rat) (L : Nat) : QOwn B w (.slice none 0 0) 0 q L :=
 ⟨[],fun _ _ => .bool false,World.ownsRow_nil _ _ _ _,fun g h => (by cases h),fun i hi => (by omega),fun i hi => (by omega)⟩
theorem QOwn.below {B : Nat} {w w' : World} {v : Value} {n : Nat} {q : Nat → Rat} {L : Nat} (h : QOwn B w v n q L) (hb : Below w.heap.size w w') : QOwn B w' v n q L := by
 obtain ⟨us,el,h1,h2,h3,h4⟩ := h
 exact ⟨us,el,owns_later h1 hb,fun g hg => (h2 g hg).below hb (h1.lt g hg).2,h3,fun i hi => (h4 i hi).below hb⟩
/-- Something else was set. -/
theorem QOwn.other {B : Nat} {w w' : World} {v : Value} {n : Nat} {q : Nat → Rat} {L : Nat} {row : Option Nat} (h : QOwn B w v n q L) (hg : w.grownBy w' row) (hk : KeepQ IsNum w w') (hne : ∀ g,row = some g → g < B) : QOwn B w' v n q L := by
 obtain ⟨us,el,h1,h2,h3,h4⟩ := h
 have hv : ∀ g,v.ownBlock = some g → some g ≠ row := fun g hg e => by have := (h1.lt g hg).1; have := hne g e.symm; omega
 refine ⟨us,el,h1.kept hg ?_,fun g hgg o u hu => h2 g hgg o u ?_,h3,fun i hi => (h4 i hi).keep hk⟩
 ·cases hb : v.ownBlock with
  | none => exact .inl rfl
  | some g => exact .inr (hv g hb)
 ·rw [← World.cell?_of_block (w := w) (hg.block g (h1.lt g hgg).2 (hv g hgg))]; exact hu
theorem QOwn.more {B : Nat} {w w' : World} {n g' cap' : Nat} {q : Nat → Rat} {L : Nat} {us : List Value} {el : Nat → Nat → Value} {x0 x1 x2 : Value} (h1 : w'.ownsRow B 35 3 (.slice (some ⟨g',0,none⟩) (n + 1) cap') (n + 1) (us ++ [x0,x1,x2]))
  (hp : PureB IsNum w' g') (hl : us.length = n * 3) (h3 : ∀ i,i < n → ∀ j,j < 3 → us[i * 3 + j]? = some (el i j)) (h4 : ∀ i,i < n → RatAt w (.agg #[el i 0,el i 1,el i 2]) (q i) L) (hx : RatAt w (.agg #[x0,x1,x2]) (q n) L) (hk : KeepQ IsNum w w') :
  QOwn B w' (.slice (some ⟨g',0,none⟩) (n + 1) cap') (n + 1) q L := by
 refine ⟨_,fun i j => if i < n then el i j else if j = 0 then x0 else if j = 1 then x1 else x2,h1,fun g hg => by simp only [Value.ownBlock,Option.some.injEq] at hg; subst hg; exact hp,fun i hi j hj => ?_,fun i hi => ?_⟩
 ·by_cases hin : i < n
  ·show _ = some (if i < n then el i j else if j = 0 then x0 else if j = 1 then x1 else x2)
   rw [if_pos hin,List.getElem?_append_left (by omega)]; exact h3 i hin j hj
  ·obtain rfl : i = n := by omega
   show _ = some (if i < i then el i j else if j = 0 then x0 else if j = 1 then x1 else x2)
   rw [if_neg hin,List.getElem?_append_right (by omega),hl,Nat.add_sub_cancel_left]
   rcases (show j = 0 ∨ j = 1 ∨ j = 2 by omega) with rfl | rfl | rfl <;> rfl
 ·by_cases hin : i < n
  ·simp only [if_pos hin]; exact (h4 i hin).keep hk
  ·obtain rfl : i = n := by omega
   simp only [if_neg hin]; exact hx.keep hk
theorem grown_set3 (w : World) (R : Nat) (x y z : Value) : w.grownBy (((w.setCell ⟨R,0,none⟩ x).setCell ⟨R,1,none⟩ y).setCell ⟨R,2,none⟩ z) (some R) :=
 ⟨rfl,rfl,rfl,by simp,fun k _ hk => by rw [Below.heap_setCell _ _ _ _ (fun e => hk (by rw [e])),Below.heap_setCell _ _ _ _ (fun e => hk (by rw [e])),Below.heap_setCell _ _ _ _ (fun e => hk (by rw [e]))]⟩
theorem V3.grown {w w' : World} {R : Nat} {x y z : Value} {row : Option Nat} (h : V3 w R x y z) (hg : w.grownBy w' row) (hne : some R ≠ row) : V3 w' R x y z := by
 have hb := hg.block R h.lt hne
 obtain ⟨h1,h2,h3,h4,h5,h6⟩ := h
 exact ⟨(World.cell?_of_block (w := w) hb).trans h1,(World.cell?_of_block (w := w) hb).trans h2,(World.cell?_of_block (w := w) hb).trans h3,(World.frozen?_of_block (w := w) hb).trans h4,(World.frozen?_of_block (w := w) hb).trans h5,(World.frozen?_of_block (w := w) hb).trans h6⟩
/-- Three cells of a row. -/
def E3 (w : World) (b o : Nat) (x y z : Value) : Prop := w.cell? ⟨b,o,none⟩ = some x ∧ w.cell? ⟨b,o + 1,none⟩ = some y ∧ w.cell? ⟨b,o + 2,none⟩ = some z
theorem E3.lt {w : World} {b o : Nat} {x y z : Value} (h : E3 w b o x y z) : b < w.heap.size := World.block_lt_of_cell? _ _ h.1
theorem E3.below {w w' : World} {b o : Nat} {x y z : Value} (h : E3 w b o x y z) (hb : Below w.heap.size w w') : E3 w' b o x y z := ⟨(hb.cell h.lt).trans h.1,(hb.cell h.lt).trans h.2.1,(hb.cell h.lt).trans h.2.2⟩
theorem E3.other3 {w : World} {R b o : Nat} {x y z : Value} (h : E3 w b o x y z) (hne : b ≠ R) (x' y' z' : Value) : E3 (((w.setCell ⟨R,0,none⟩ x').setCell ⟨R,1,none⟩ y').setCell ⟨R,2,none⟩ z') b o x y z :=
 ⟨set_cell_block (set_cell_block (set_cell_block h.1 hne) hne) hne,set_cell_block (set_cell_block (set_cell_block h.2.1 hne) hne) hne,set_cell_block (set_cell_block (set_cell_block h.2.2 hne) hne) hne⟩

end Go.Proofs.YthlogenaienkhaaGreatDoor

/-
 The document's shortest fraction and its text; ratio's Texts of two numbers.
-/
namespace Go.Proofs.YthlogenaienkhaaGreatDoor
open Go.RowKit
set_option linter.unusedVariables false
set_option linter.unusedSimpArgs false

/-- The value v is the number q as the document's shortest fraction. -/
def DocL (w : World) (v : Value) (q : Rat) : Prop := ∃ p ao n c bo m d,v = .agg #[.bool p,.slice ao n c,.slice bo m d] ∧ RepJ w (.agg #[.bool p,.slice ao n c]) q.num ∧ RepD w (.slice bo m d) q.den
theorem low_num (z : Int) (x : Nat) (hx : 0 < x) : zof (decide (z < 0)) (z.natAbs / Nat.gcd z.natAbs x) = (mkRat z x).num ∧ x / Nat.gcd z.natAbs x = (mkRat z x).den := by
 obtain ⟨h1,h2⟩ := mkRat_low z x hx
 rw [h1,h2]
 refine ⟨?_,rfl⟩
 have hg : 0 < Nat.gcd z.natAbs x := Nat.gcd_pos_of_pos_right _ hx
 obtain ⟨k,hk⟩ := Nat.gcd_dvd_left z.natAbs x
 generalize Nat.gcd z.natAbs x = g at *
 have e : z.natAbs / g = k := by rw [hk]; exact Nat.mul_div_cancel_left k hg
 rw [e]
 by_cases hz : z < 0
 ·rw [decide_eq_true hz,zof_true]
  have : z = (g : Int) * (-(k : Int)) := by
   have : (z.natAbs : Int) = (g : Int) * (k : Int) := by rw [hk,Int.natCast_mul]
   rw [Int.mul_neg]; omega
  rw [this,Int.mul_fdiv_cancel_left _ (by omega)]
 ·rw [decide_eq_false hz,zof_false]
  have : z = (g : Int) * (k : Int) := by
   have : (z.natAbs : Int) = (g : Int) * (k : Int) := by rw [hk,Int.natCast_mul]
   omega
  rw [this,Int.mul_fdiv_cancel_left _ (by omega)]
theorem nl10_900 {x : Nat} (h : nl W32 x ≤ 200) : nl 10000 x ≤ 100000 := Nat.le_trans (nl_small x 200 (Nat.lt_of_lt_of_le (lt_pow_nl W32 x (by decide)) (Nat.pow_le_pow_right (by decide) h))) (by omega)


set_option maxRecDepth 20000 in
set_option maxHeartbeats 4000000 in
theorem jshorter_at (u : Value) (q : Rat) (L : Nat) (w : World) (hu : DocQ w u q L) (hL : L ≤ 200) :
  Calls Tryz.prog 61 #[u] w fun e w' => ∃ r,e = .returned r ∧ DocL w' r q ∧ Below w.heap.size w w' := by
 obtain ⟨z,x,hP,hq⟩ := hu
 obtain ⟨p,ao,n,c,bo,m,d,rfl⟩ := hP.open
 obtain ⟨hz,hx,hx0,l1,l2⟩ := hP.parts
 obtain ⟨ao5,c5,e5,hD⟩ := id hz
 have e6 := e5
 simp only [Value.agg.injEq,Array.mk.injEq,List.cons.injEq,Value.bool.injEq,and_true] at e6
 rw [← e6.2] at hD
 have hp : p = decide (z < 0) := e6.1
 have HN : Hid (zof p (z.natAbs / Nat.gcd z.natAbs x) = q.num) := by show _ = _; rw [hp,hq]; exact (low_num z x hx0).1
 have HE : Hid (x / Nat.gcd z.natAbs x = q.den) := by show _ = _; rw [hq]; exact (low_num z x hx0).2
 have hg : 0 < Nat.gcd z.natAbs x := Nat.gcd_pos_of_pos_right _ hx0
 have lz : nl 10000 z.natAbs ≤ 100000 := nl10_900 (by omega)
 have lx : nl 10000 x ≤ 100000 := nl10_900 (by omega)
 have lg : nl 10000 (Nat.gcd z.natAbs x) ≤ 100000 := Nat.le_trans (nl_mono 10000 _ _ (by decide) (Nat.gcd_le_right _ hx0)) lx
 clear hP hz e5 e6 hp hq
 generalize z.natAbs = y at *
 generalize hgg : Nat.gcd y x = g at *
 have HG : Hid (Nat.gcd y x = g) := hgg
 clear hgg
 have BB : Below w.heap.size w w := Below.refl _ _
 obtain ⟨Wb0,hW0,hS0,hL0,VA⟩ := V3.lay w 28 (.bool p) (.slice ao n c) (.slice bo m d)
 replace hD := hD.below hL0
 replace hx := hx.below hL0
 replace BB := BB.trans (hL0.mono BB.size)
 clear hL0
 obtain ⟨Wb1,hW1,hS1,hL1,VR⟩ := V3.lay Wb0 28 (.bool false) (.slice none 0 0) (.slice none 0 0)
 rw [hS0] at VR hS1
 replace hD := hD.below hL1
 replace hx := hx.below hL1
 replace VA := VA.below hL1
 replace BB := BB.trans (hL1.mono BB.size)
 clear hL1
 go_enter Tryz.func61,Tryz.ntmps61
 go_wp2_with fail
 rw [← hW0]
 rw [← hW1]
 clear hW0 hW1 hS0 hS1
 refine (rgcd_any _ _ y x _ hD hx (by omega) (by omega)).mono ?_
 rintro e w1 ⟨rg,rfl,hG,b1⟩
 replace hD := hD.below b1
 replace hx := hx.below b1
 replace VA := VA.below b1
 replace VR := VR.below b1
 replace BB := BB.trans (b1.mono BB.size)
 clear b1
 rw [HG.out] at hG
 obtain ⟨VA_0,VA_1,VA_2,VA_3,VA_4,VA_5⟩ := id VA
 go_wp2_with fail
 clear VA_0 VA_1 VA_2 VA_3 VA_4 VA_5
 refine (over_any _ _ y g _ hD hG hg (by omega) (by omega)).mono ?_
 rintro e w2 ⟨q1,r1,rfl,h1,h1r,b2⟩
 replace hD := hD.below b2
 replace hx := hx.below b2
 replace hG := hG.below b2
 replace VA := VA.below b2
 replace VR := VR.below b2
 replace BB := BB.trans (b2.mono BB.size)
 clear b2
 clear h1r
 obtain ⟨VA_0,VA_1,VA_2,VA_3,VA_4,VA_5⟩ := id VA
 go_wp2_with fail
 clear VA_0 VA_1 VA_2 VA_3 VA_4 VA_5
 refine (over_any _ _ x g _ hx hG hg (by omega) (by omega)).mono ?_
 rintro e w3 ⟨q2,r2,rfl,h2,h2r,b3⟩
 replace hD := hD.below b3
 replace hx := hx.below b3
 replace hG := hG.below b3
 replace h1 := h1.below b3
 replace VA := VA.below b3
 replace VR := VR.below b3
 replace BB := BB.trans (b3.mono BB.size)
 clear b3
 clear h2r
 obtain ⟨VA_0,VA_1,VA_2,VA_3,VA_4,VA_5⟩ := id VA
 go_wp2_with fail
 clear VA_0 VA_1 VA_2 VA_3 VA_4 VA_5
 refine (rmake_any p _ (y / g) _ h1).mono ?_
 rintro e w4 ⟨rj,rfl,hj,b4⟩
 replace hD := hD.below b4
 replace hx := hx.below b4
 replace hG := hG.below b4
 replace h1 := h1.below b4
 replace h2 := h2.below b4
 replace VA := VA.below b4
 replace VR := VR.below b4
 replace BB := BB.trans (b4.mono BB.size)
 clear b4
 obtain ⟨pj,aj,nj,cj,rfl⟩ := hj.open
 obtain ⟨a2,c2,rfl⟩ := h2.open
 have hKp := VR.keepJ (.bool pj) (.slice aj nj cj) (.slice a2 (nl 10000 (x / g)) c2)
 have hD_n := hD.keep hKp
 have hx_n := hx.keep hKp
 have hG_n := hG.keep hKp
 have h1_n := h1.keep hKp
 have h2_n := h2.keep hKp
 have hj_n := hj.keep hKp
 have BB_n := below_store3 (R := w.heap.size + 1) BB (by omega) (.bool pj) (.slice aj nj cj) (.slice a2 (nl 10000 (x / g)) c2)
 clear hKp
 obtain ⟨q1,q2,q3,q4,q5,q6⟩ := id VR
 go_wp2
 (try simp only [Exit.inBlock,Exit.then])
 refine bodyPost_ret (v := .agg #[.bool pj,.slice aj nj cj,.slice a2 (nl 10000 (x / g)) c2]) (by simp [results,go_sem,q1,q2,q3]) rfl ?_
 rw [HN.out] at hj_n
 exact ⟨_,rfl,⟨_,_,_,_,_,_,_,rfl,hj_n,by rw [← HE.out]; exact h2_n⟩,BB_n⟩


set_option maxRecDepth 20000 in
set_option maxHeartbeats 4000000 in
theorem jtext_at (u : Value) (q : Rat) (L : Nat) (w : World) (hu : DocQ w u q L) (hL : L ≤ 200) (hs : qsz q ≤ 200) :
  Calls Tryz.prog 25 #[u] w fun e w' => e = .returned (.string (qtxt q)) ∧ Below w.heap.size w w' := by
 obtain ⟨p,ao,n,c,bo,m,d,rfl⟩ := hu.open
 have l1 : nl 10000 q.num.natAbs ≤ 100000 := nl10_900 (Nat.le_trans (qsz_num q) (by omega))
 have l2 : nl 10000 q.den ≤ 100000 := nl10_900 (Nat.le_trans (Nat.le_max_right _ _) hs)
 have BB : Below w.heap.size w w := Below.refl _ _
 obtain ⟨Wb0,hW0,hS0,hL0,VA⟩ := V3.lay w 28 (.bool p) (.slice ao n c) (.slice bo m d)
 replace hu := hu.below hL0
 replace BB := BB.trans (hL0.mono BB.size)
 clear hL0
 go_enter Tryz.func25,Tryz.ntmps25
 go_wp2_with fail
 rw [← hW0]
 clear hW0 hS0
 refine (jshorter_at _ q L _ hu hL).mono ?_
 rintro e w1 ⟨rs,rfl,hs2,b1⟩
 replace hu := hu.below b1
 replace VA := VA.below b1
 replace BB := BB.trans (b1.mono BB.size)
 clear b1
 obtain ⟨ps,as_,ns,cs,bs,ms,ds,rfl,hj,hd⟩ := hs2
 clear hu
 clear VA
 have hZ1 : w.heap.size ≤ w1.heap.size := BB.size
 obtain ⟨W1,hW1,hS1,hL1,VS⟩ := V3.lay w1 28 (.bool ps) (.slice as_ ns cs) (.slice bs ms ds)
 replace hj := hj.below hL1
 replace hd := hd.below hL1
 replace BB := BB.trans (hL1.mono BB.size)
 clear hL1
 go_wp2
 rw [← hW1]
 generalize w1.heap.size = R1 at *
 clear hW1 hS1
 generalize hcc : cmpI (q.den : Int) ((1 : Nat) : Int) = cc
 by_cases h1 : q.den = 1
 ·have HT : Hid (qtxt q = ztxt q.num) := by show _ = _; unfold qtxt; rw [if_pos h1]
  have hc0 : cc = 0 := by rw [← hcc,h1]; rfl
  subst hc0
  clear h1
  have hDr : Below W1.heap.size W1 W1.drew := (Below.refl _ _).drew
  replace hj := hj.below hDr
  replace hd := hd.below hDr
  replace VS := VS.below hDr
  replace BB := BB.trans (hDr.mono BB.size)
  clear hDr
  refine wp_region_held_drew (S := (fun w' => w'.cell? ⟨R1,0,none⟩ = some (.bool ps) ∧ w'.cell? ⟨R1,1,none⟩ = some (.slice as_ ns cs) ∧ w'.cell? ⟨R1,2,none⟩ = some (.slice bs ms ds))) (by kernel_rfl) ?_ (fun hHeld => ?_)
  ·exact ⟨VS.1,VS.2.1,VS.2.2.1⟩
  generalize W1.drew = W2 at *
  refine xT 0 (v := ?_) (hy := Or.inl ⟨by rfl,?_⟩) (h := ?_)
  rotate_left
  ·(intro w hSw; (try dsimp only at hSw); go_simp; (try with_reducible rfl))
  (try simp only [Act.put,xL4,xL5,xL6])
  refine xT 1 (v := ?_) (hy := Or.inl ⟨by rfl,?_⟩) (h := ?_)
  rotate_left
  ·(intro w hSw; (try dsimp only at hSw); go_simp; (try with_reducible rfl))
  (try simp only [Act.put,xL4,xL5,xL6])
  refine xR [2] (h := ?_)
  refine xN (h := fun K hK => ?_)
  go_simp
  refine (small_any 1 _ (by omega)).mono ?_
  rintro e w2 ⟨v1,rfl,d1,b2⟩
  go_wp2_with fail
  replace hj := hj.below b2
  replace hd := hd.below b2
  replace VS := VS.below b2
  replace BB := BB.trans (b2.mono BB.size)
  clear b2
  refine hK.out _ _ ?_ (fun hH1 => ?_)
  ·exact ⟨VS.1,VS.2.1,VS.2.2.1⟩
  clear hK K hHeld
  (try simp only [Act.put,xL4,xL5,xL6])
  refine xR [3] (h := ?_)
  refine xN (h := fun K hK => ?_)
  go_simp
  refine (order_any _ _ q.den 1 _ hd d1).mono ?_
  rintro e w3 ⟨rfl,b3⟩
  rw [hcc]
  go_wp2_with fail
  replace hj := hj.below b3
  replace hd := hd.below b3
  replace d1 := d1.below b3
  replace VS := VS.below b3
  replace BB := BB.trans (b3.mono BB.size)
  clear b3
  refine hK.out _ _ ?_ (fun hH2 => ?_)
  ·exact ⟨VS.1,VS.2.1,VS.2.2.1⟩
  clear hK K hH1
  (try simp only [Act.put,xL4,xL5,xL6])
  refine xT 4 (v := ?_) (hy := Or.inl ⟨by rfl,?_⟩) (h := ?_)
  rotate_left
  ·(intro w hSw; (try dsimp only at hSw); go_simp; (try with_reducible rfl))
  (try simp only [Act.put,xL4,xL5,xL6])
  refine wpAnyH_done (by kernel_rfl) ?_ _
  clear hH2
  clear hcc
  clear d1
  obtain ⟨VS_0,VS_1,VS_2,VS_3,VS_4,VS_5⟩ := id VS
  go_wp2_with fail
  clear VS_0 VS_1 VS_2 VS_3 VS_4 VS_5
  refine (rtext_any _ q.num _ hj l1).mono ?_
  rintro e w4 ⟨rfl,b4⟩
  replace hj := hj.below b4
  replace hd := hd.below b4
  replace VS := VS.below b4
  replace BB := BB.trans (b4.mono BB.size)
  clear b4
  go_wp2
  go_ret
  rw [HT.out]
  exact ⟨rfl,BB⟩
 ·have HT : Hid (qtxt q = ztxt q.num ++ { data := #[47] } ++ txt q.den) := by show _ = _; unfold qtxt; rw [if_neg h1]
  have hc0 : (cc == 0) = false := by rw [← hcc,beq_eq_false_iff_ne]; unfold cmpI; split <;> (try split) <;> omega
  clear h1
  have hDr : Below W1.heap.size W1 W1.drew := (Below.refl _ _).drew
  replace hj := hj.below hDr
  replace hd := hd.below hDr
  replace VS := VS.below hDr
  replace BB := BB.trans (hDr.mono BB.size)
  clear hDr
  refine wp_region_held_drew (S := (fun w' => w'.cell? ⟨R1,0,none⟩ = some (.bool ps) ∧ w'.cell? ⟨R1,1,none⟩ = some (.slice as_ ns cs) ∧ w'.cell? ⟨R1,2,none⟩ = some (.slice bs ms ds))) (by kernel_rfl) ?_ (fun hHeld => ?_)
  ·exact ⟨VS.1,VS.2.1,VS.2.2.1⟩
  generalize W1.drew = W2 at *
  refine xT 0 (v := ?_) (hy := Or.inl ⟨by rfl,?_⟩) (h := ?_)
  rotate_left
  ·(intro w hSw; (try dsimp only at hSw); go_simp; (try with_reducible rfl))
  (try simp only [Act.put,xL4,xL5,xL6])
  refine xT 1 (v := ?_) (hy := Or.inl ⟨by rfl,?_⟩) (h := ?_)
  rotate_left
  ·(intro w hSw; (try dsimp only at hSw); go_simp; (try with_reducible rfl))
  (try simp only [Act.put,xL4,xL5,xL6])
  refine xR [2] (h := ?_)
  refine xN (h := fun K hK => ?_)
  go_simp
  refine (small_any 1 _ (by omega)).mono ?_
  rintro e w2 ⟨v1,rfl,d1,b2⟩
  go_wp2_with fail
  replace hj := hj.below b2
  replace hd := hd.below b2
  replace VS := VS.below b2
  replace BB := BB.trans (b2.mono BB.size)
  clear b2
  refine hK.out _ _ ?_ (fun hH1 => ?_)
  ·exact ⟨VS.1,VS.2.1,VS.2.2.1⟩
  clear hK K hHeld
  (try simp only [Act.put,xL4,xL5,xL6])
  refine xR [3] (h := ?_)
  refine xN (h := fun K hK => ?_)
  go_simp
  refine (order_any _ _ q.den 1 _ hd d1).mono ?_
  rintro e w3 ⟨rfl,b3⟩
  rw [hcc]
  go_wp2_with fail
  replace hj := hj.below b3
  replace hd := hd.below b3
  replace d1 := d1.below b3
  replace VS := VS.below b3
  replace BB := BB.trans (b3.mono BB.size)
  clear b3
  refine hK.out _ _ ?_ (fun hH2 => ?_)
  ·exact ⟨VS.1,VS.2.1,VS.2.2.1⟩
  clear hK K hH1
  (try simp only [Act.put,xL4,xL5,xL6])
  refine xT 4 (v := ?_) (hy := Or.inl ⟨by rfl,?_⟩) (h := ?_)
  rotate_left
  ·(intro w hSw; (try dsimp only at hSw); go_simp; (try with_reducible rfl))
  (try simp only [Act.put,xL4,xL5,xL6])
  refine wpAnyH_done (by kernel_rfl) ?_ _
  clear hH2
  clear hcc
  clear d1
  have ls : (ztxt q.num).size ≤ 20000 := Nat.le_trans (ztxt_small q.num 200 (Nat.le_trans (qsz_num q) (by omega))) (by omega)
  have ls2 : (txt q.den).size ≤ 20000 := Nat.le_trans (txt_small q.den 200 (Nat.le_trans (Nat.le_max_right _ _) hs)) (by omega)
  generalize hT : ztxt q.num = T at *
  generalize hU : txt q.den = U at *
  have n1 : ¬ 9223372036854775807 < T.size + 1 := by omega
  have n2 : ¬ 9223372036854775807 < T.size + 1 + U.size := by omega
  go_wp2
  have hDr : Below w3.heap.size w3 w3.drew := (Below.refl _ _).drew
  replace hj := hj.below hDr
  replace hd := hd.below hDr
  replace VS := VS.below hDr
  replace BB := BB.trans (hDr.mono BB.size)
  clear hDr
  refine wp_region_held_drew (S := (fun w' => w'.cell? ⟨R1,0,none⟩ = some (.bool ps) ∧ w'.cell? ⟨R1,1,none⟩ = some (.slice as_ ns cs) ∧ w'.cell? ⟨R1,2,none⟩ = some (.slice bs ms ds))) (by kernel_rfl) ?_ (fun hHeld => ?_)
  ·exact ⟨VS.1,VS.2.1,VS.2.2.1⟩
  generalize w3.drew = W3 at *
  refine xT 0 (v := ?_) (hy := Or.inl ⟨by rfl,?_⟩) (h := ?_)
  rotate_left
  ·(intro w hSw; (try dsimp only at hSw); go_simp; (try with_reducible rfl))
  (try simp only [Act.put,xL4,xL5,xL6])
  refine xT 1 (v := ?_) (hy := Or.inl ⟨by rfl,?_⟩) (h := ?_)
  rotate_left
  ·(intro w hSw; (try dsimp only at hSw); go_simp; (try with_reducible rfl))
  (try simp only [Act.put,xL4,xL5,xL6])
  refine xT 4 (v := ?_) (hy := Or.inl ⟨by rfl,?_⟩) (h := ?_)
  rotate_left
  ·(intro w hSw; (try dsimp only at hSw); go_simp; (try with_reducible rfl))
  (try simp only [Act.put,xL4,xL5,xL6])
  refine xT 5 (v := ?_) (hy := Or.inl ⟨by rfl,?_⟩) (h := ?_)
  rotate_left
  ·(intro w hSw; (try dsimp only at hSw); go_simp; (try with_reducible rfl))
  (try simp only [Act.put,xL4,xL5,xL6])
  refine xR [2] (h := ?_)
  refine xN (h := fun K hK => ?_)
  go_simp
  refine (rtext_any _ q.num _ hj l1).mono ?_
  rintro e w4 ⟨rfl,b4⟩
  rw [hT]
  go_wp2_with fail
  replace hj := hj.below b4
  replace hd := hd.below b4
  replace VS := VS.below b4
  replace BB := BB.trans (b4.mono BB.size)
  clear b4
  refine hK.out _ _ ?_ (fun hH1 => ?_)
  ·exact ⟨VS.1,VS.2.1,VS.2.2.1⟩
  clear hK K hHeld
  (try simp only [Act.put,xL4,xL5,xL6])
  refine xT 3 (v := ?_) (hy := Or.inl ⟨by rfl,?_⟩) (h := ?_)
  rotate_left
  ·(intro w hSw; (try dsimp only at hSw); go_simp; (try with_reducible rfl))
  (try simp only [Act.put,xL4,xL5,xL6])
  refine xR [6] (h := ?_)
  refine xN (h := fun K hK => ?_)
  go_simp
  refine (refText_any _ q.den _ hd l2).mono ?_
  rintro e w5 ⟨rfl,b5⟩
  rw [hU]
  go_wp2_with fail
  replace hj := hj.below b5
  replace hd := hd.below b5
  replace VS := VS.below b5
  replace BB := BB.trans (b5.mono BB.size)
  clear b5
  refine hK.out _ _ ?_ (fun hH2 => ?_)
  ·exact ⟨VS.1,VS.2.1,VS.2.2.1⟩
  clear hK K hH1
  (try simp only [Act.put,xL4,xL5,xL6])
  refine xT 7 (v := ?_) (hy := Or.inl ⟨by rfl,?_⟩) (h := ?_)
  rotate_left
  ·(intro w hSw; (try dsimp only at hSw); go_simp; (try with_reducible rfl))
  (try simp only [Act.put,xL4,xL5,xL6])
  refine xT 8 (v := ?_) (hy := Or.inl ⟨by rfl,?_⟩) (h := ?_)
  rotate_left
  ·(intro w hSw; (try dsimp only at hSw); go_simp; (try with_reducible rfl))
  (try simp only [Act.put,xL4,xL5,xL6])
  refine wpAnyH_done (by kernel_rfl) ?_ _
  clear hH2
  go_wp2
  go_ret
  rw [HT.out]
  exact ⟨rfl,BB⟩


theorem QRow.at {w : World} {v : Value} {n : Nat} {q : Nat → Rat} {L : Nat} (h : QRow w v n q L) (i : Nat) (hi : i < n) :
  ∃ b off c p ao m d bo k e,v = .slice (some ⟨b,off,none⟩) n c ∧ n ≤ c ∧ E3 w b (off + i * 3) (.bool p) (.slice ao m d) (.slice bo k e) ∧ RatAt w (.agg #[.bool p,.slice ao m d,.slice bo k e]) (q i) L := by
 obtain ⟨el,⟨a,c,h1,h2,h3,h4⟩,h5⟩ := h
 obtain ⟨b,off,rfl,hc⟩ := h4 (by omega)
 have hz := h5 i hi
 obtain ⟨p,ao,m,d,bo,k,e,he⟩ := hz.open
 have he' := he
 simp only [Value.agg.injEq,Array.mk.injEq,List.cons.injEq,and_true] at he'
 have c0 := hc i hi 0 (by omega)
 have c1 := hc i hi 1 (by omega)
 have c2 := hc i hi 2 (by omega)
 rw [he'.1] at c0
 rw [he'.2.1] at c1
 rw [he'.2.2] at c2
 rw [he] at hz
 exact ⟨b,off,c,p,ao,m,d,bo,k,e,h1,h2,⟨c0,c1,c2⟩,hz⟩
theorem V2.set0 {w : World} {R : Nat} {x y : Value} (h : V2 w R x y) (x' : Value) : V2 (w.setCell ⟨R,0,none⟩ x') R x' y := by
 obtain ⟨h1,h2,h3,h4⟩ := h
 refine ⟨World.cell?_setCell_same _ _ _ h1,?_,by simp [h3],by simp [h4]⟩
 rw [World.cell?_setCell_other _ _ _ _ (fun e => by injection e; omega)]; exact h2
theorem V2.set1 {w : World} {R : Nat} {x y : Value} (h : V2 w R x y) (y' : Value) : V2 (w.setCell ⟨R,1,none⟩ y') R x y' := by
 obtain ⟨h1,h2,h3,h4⟩ := h
 refine ⟨?_,World.cell?_setCell_same _ _ _ h2,by simp [h3],by simp [h4]⟩
 rw [World.cell?_setCell_other _ _ _ _ (fun e => by injection e; omega)]; exact h1
theorem make_two (w : World) : Sem.run Tryz.prog (Instr.makeSlice 52 (.int .i64 2) (.int .i64 2)) w = .ok (.slice (some ⟨w.heap.size,0,none⟩) 2 2) (w.alloc (.cells #[.string ByteArray.empty,.string ByteArray.empty] 9)) := by kernel_rfl


set_option maxRecDepth 20000 in
set_option maxHeartbeats 4000000 in
theorem texts_two (v : Value) (q : Nat → Rat) (L : Nat) (w : World) (hv : QRow w v 2 q L) (hL : 1 ≤ L) (hM : L ≤ 200) (ht : Tab w) :
  Calls Tryz.prog 24 #[v] w fun e w' => ∃ B,e = .returned (.slice (some ⟨B,0,none⟩) 2 2) ∧ w'.cell? ⟨B,0,none⟩ = some (.string (qtxt (q 0))) ∧ w'.cell? ⟨B,1,none⟩ = some (.string (qtxt (q 1))) ∧ Below w.heap.size w w' := by
 obtain ⟨b,off,c,_,_,_,_,_,_,_,rfl,hc,_,_⟩ := hv.at 0 (by omega)
 have HV : Hid (QRow w (.slice (some ⟨b,off,none⟩) 2 c) 2 q L) := hv
 have HT : Hid (Tab w) := ht
 clear hv ht
 obtain ⟨W0,hW0,hS0,hL0,VO⟩ := V2.lay w 9 (.string ByteArray.empty) (.string ByteArray.empty)
 go_enter Tryz.func24,Tryz.ntmps24
 go_wp2
 rw [make_two]
 simp only [Result.andThen]
 rw [Oper.upon_value]
 go_wp2
 rw [← hW0]
 clear hW0 hS0
 go_loopw [11] (fun vi wr => ∃ (i : Nat) (x0 x1 : ByteArray),i ≤ 2 ∧ vi = .int .i64 (i : Int) ∧ V2 wr w.heap.size (.string x0) (.string x1) ∧ (1 ≤ i → x0 = qtxt (q 0)) ∧ (2 ≤ i → x1 = qtxt (q 1)) ∧ Below w.heap.size w wr) (fun vi _ => (2 - intOf vi).toNat)
 case atStart => exact ⟨0,_,_,by omega,rfl,VO,fun h => by omega,fun h => by omega,hL0⟩
 case round =>
  clear VO hL0
  obtain ⟨i,x0,x1,hi2,rfl,VO,g0,g1,BB⟩ := hrel
  have G0 : Hid (1 ≤ i → x0 = qtxt (q 0)) := g0
  have G1 : Hid (2 ≤ i → x1 = qtxt (q 1)) := g1
  clear g0 g1
  by_cases hlt : i < 2
  ·have c1 : (i : Int) < 2 := by omega
   have c2 : (0 : Int) ≤ (i : Int) := by omega
   have ht := HT.out.below BB
   obtain ⟨b2,off2,c3,pe,ae,me,de,be,ke,fe,hvv,_,hE,hI⟩ := (HV.out.below BB).at i hlt
   cases hvv
   obtain ⟨e0,e1,e2⟩ := id hE
   have hZ1 : w.heap.size ≤ wr.heap.size := BB.size
   have hN1VO : w.heap.size ≠ wr.heap.size := Nat.ne_of_lt VO.lt
   obtain ⟨W1,hW1,hS1,hL1,VE⟩ := V3.lay wr 35 (.bool pe) (.slice ae me de) (.slice be ke fe)
   replace hI := hI.below hL1
   replace ht := ht.below hL1
   replace VO := VO.below hL1
   replace BB := BB.trans (hL1.mono BB.size)
   clear hL1
   go_wp2_with fail
   rw [← hW1]
   generalize wr.heap.size = R1 at *
   clear hW1 hS1
   clear e0 e1 e2 hE
   refine (qprint_at _ (q i) L _ hI hL (by omega) ht).mono ?_
   rintro e w1 ⟨rfl,b1⟩
   replace hI := hI.below b1
   replace ht := ht.below b1
   replace VO := VO.below b1
   replace VE := VE.below b1
   replace BB := BB.trans (b1.mono BB.size)
   clear b1
   have HI : Hid (RatAt w1 _ (q i) L) := hI
   rcases (show i = 0 ∨ i = 1 by omega) with rfl | rfl
   ·obtain ⟨y1,y2,y3,y4⟩ := id VO
    go_wp2
    go_roundw
    case rel => exact ⟨1,_,_,by omega,by go_num,VO.set0 _,fun _ => rfl,fun h => by omega,BB.setCell (Nat.le_refl _) _⟩
    case measure => simp [intOf]
   ·obtain ⟨y1,y2,y3,y4⟩ := id VO
    go_wp2
    go_roundw
    case rel => exact ⟨2,_,_,by omega,by go_num,VO.set1 _,fun _ => G0.out (by omega),fun _ => rfl,BB.setCell (Nat.le_refl _) _⟩
    case measure => simp [intOf]
  ·obtain rfl : i = 2 := by omega
   have k0 := G0.out (by omega)
   have k1 := G1.out (by omega)
   subst k0
   subst k1
   go_wp2
   go_ret
   exact ⟨w.heap.size,rfl,VO.1,VO.2.1,BB⟩

end Go.Proofs.YthlogenaienkhaaGreatDoor
