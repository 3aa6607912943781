/-
  Texts of mine, joined: what lies beneath the statement.
-/
import Derived.Test.YthlogenaienkhaaGreatDoorJ05dc961424
import Derived.Test.YthlogenaienkhaaGreatDoorJ8ed42d3eee
import Derived.Test.YthlogenaienkhaaGreatDoorJ01222156c2
/-
 A list of rational numbers that comes in,as an argument; a row of the call's own of rational numbers.
-/
namespace Go.Proofs.YthlogenaienkhaaGreatDoor
open Go.ChangeShapes Go.WideShapes Go.ChangeAt Go.RowKit
set_option linter.unusedVariables false

/-- A list of rational numbers as it comes in; q i is the i-th cut to K limbs above and below. -/
def RawQ (w : World) (v : Value) (n : Nat) (q : Nat → Rat) (K : Nat) : Prop :=
 ∃ el,RowAt 3 w v n el ∧ ∀ i,i < n → ∃ p ao m c bo k d f g,el i 0 = .bool p ∧ el i 1 = .slice ao m c ∧ el i 2 = .slice bo k d ∧ Raw w (.slice ao m c) m f ∧ Raw w (.slice bo k d) k g ∧ q i = mkRat (zof p (num f (min m K))) (num g (min k K))
theorem RawQ.below {w w' : World} {v : Value} {n : Nat} {q : Nat → Rat} {K : Nat} (h : RawQ w v n q K) (hb : Below w.heap.size w w') : RawQ w' v n q K := by
 obtain ⟨el,h1,h2⟩ := h
 exact ⟨el,h1.below hb,fun i hi => let ⟨p,ao,m,c,bo,k,d,f,g,a,b,x,r,r2,e⟩ := h2 i hi; ⟨p,ao,m,c,bo,k,d,f,g,a,b,x,r.below hb,r2.below hb,e⟩⟩
/-- The i-th of them. -/
theorem RawQ.at {w : World} {v : Value} {n : Nat} {q : Nat → Rat} {K : Nat} (h : RawQ w v n q K) (i : Nat) (hi : i < n) :
  ∃ b off c p ao m d bo k e f g,v = .slice (some ⟨b,off,none⟩) n c ∧ n ≤ c ∧ w.cell? ⟨b,off + i * 3,none⟩ = some (.bool p) ∧ w.cell? ⟨b,off + i * 3 + 1,none⟩ = some (.slice ao m d) ∧ w.cell? ⟨b,off + i * 3 + 2,none⟩ = some (.slice bo k e) ∧ Raw w (.slice ao m d) m f ∧ Raw w (.slice bo k e) k g ∧ q i = mkRat (zof p (num f (min m K))) (num g (min k K)) := by
 obtain ⟨el,⟨a,c,h1,h2,h3,h4⟩,h5⟩ := h
 obtain ⟨b,off,rfl,hc⟩ := h4 (by omega)
 obtain ⟨p,ao,m,d,bo,k,e,f,g,e0,e1,e2,r,r2,eq⟩ := h5 i hi
 have c0 := hc i hi 0 (by omega)
 have c1 := hc i hi 1 (by omega)
 have c2 := hc i hi 2 (by omega)
 rw [e0] at c0
 rw [e1] at c1
 rw [e2] at c2
 exact ⟨b,off,c,p,ao,m,d,bo,k,e,f,g,h1,h2,c0,c1,c2,r,r2,eq⟩
theorem cells3 {l : List Value} (h : l.length = 3) : ∃ a b c,l = [a,b,c] := by
 match l,h with
 | [a,b,c],_ => exact ⟨a,b,c,rfl⟩
set_option maxRecDepth 100000 in
theorem open_wrats {H : Type} {enc : TypeId × Value → H} {W : World} {base b0 : Nat} {r : Reach} {v : Value} {d : DataW H} {ps : List MemPlace} (K : Nat)
  (hval : Value.okWide Tryz.prog W r b0 22 v) (h : DataW.Trod enc Tryz.prog W base (fun _ => true) true 22 v d ps) : ∃ n q,RawQ W v n q K := by
 obtain ⟨a,len,cap,rfl⟩ := okWide_slice Tryz.underlying22 hval
 obtain ⟨fuel,hf⟩ := h
 rcases Go.Deep.open_slice Tryz.underlying22 hf with ⟨hcs,_⟩ | ⟨x,l,c,m,n,D,Pl,hcs,_,hl,hm,hmm,_,hall⟩
 ·simp [Value.cells] at hcs
  obtain ⟨rfl,rfl,rfl⟩ := hcs
  exact ⟨0,fun _ => 0,fun _ _ => .bool false,RowAt.nil _ _ _,fun i hi => by omega⟩
 ·simp [Value.cells] at hcs
  obtain ⟨rfl,rfl,rfl⟩ := hcs
  rw [if_pos rfl] at hmm
  subst hmm
  rw [cells_wrat] at hall
  have each : ∀ i,∃ y : Rat × Value × Value × Value,i < len → W.cell? (x.add (i * 3)) = some y.2.1 ∧ W.cell? (x.add (i * 3 + 1)) = some y.2.2.1 ∧ W.cell? (x.add (i * 3 + 2)) = some y.2.2.2 ∧
    ∃ p ao m c bo k d f g,y.2.1 = .bool p ∧ y.2.2.1 = .slice ao m c ∧ y.2.2.2 = .slice bo k d ∧ Raw W (.slice ao m c) m f ∧ Raw W (.slice bo k d) k g ∧ y.1 = mkRat (zof p (num f (min m K))) (num g (min k K)) := by
   intro i
   by_cases hi : i < len
   ·obtain ⟨cs,h1,h2⟩ := hall i (by omega)
    obtain ⟨_,hlen,hcell⟩ := World.cells?_some h1
    obtain ⟨c0,c1,c2,rfl⟩ := cells3 hlen
    obtain ⟨y0,y1,m,hx,_,hy0,hy1⟩ := trod_struct2 Tryz.underlying35 h2
    obtain ⟨z0,z1,m2,hx2,_,hz0,hz1⟩ := trod_struct2 Tryz.underlying33 hy0
    obtain ⟨b,e0,_⟩ := DataW.trod_bool Tryz.underlying4 hz0
    obtain ⟨ao,n1,c3,f,e1,hraw⟩ := open_nat hz1
    obtain ⟨bo,m3,d3,g,e2,hraw2⟩ := open_nat hy1
    simp [cells_bool,cells_nat,cells_wint] at e0 e1 e2
    have k0 := hcell 0 (by omega)
    have k1 := hcell 1 (by omega)
    have k2 := hcell 2 (by omega)
    rw [Go.Deep.add_add] at k0 k1 k2
    exact ⟨(_,c0,c1,c2),fun _ => ⟨by simpa using k0,by simpa using k1,by simpa using k2,b,ao,n1,c3,bo,m3,d3,f,g,e0,e1,e2,hraw,hraw2,rfl⟩⟩
   ·exact ⟨(0,.bool false,.bool false,.bool false),fun h => absurd h hi⟩
  obtain ⟨Y,hY⟩ := Classical.axiomOfChoice each
  refine ⟨len,fun i => (Y i).1,fun i j => if j = 0 then (Y i).2.1 else if j = 1 then (Y i).2.2.1 else (Y i).2.2.2,⟨_,_,rfl,hl,by unfold maxLen at hm; omega,fun h0 => ?_⟩,fun i hi => ?_⟩
  ·obtain ⟨b,off,spot⟩ := x
   have hc := (hY 0 (by omega)).1
   have hspot : spot = none := by simpa [Addr.add] using World.cell?_spot hc
   subst hspot
   refine ⟨b,off,rfl,fun i hi j hj => ?_⟩
   obtain ⟨g0,g1,g2,_⟩ := hY i hi
   rw [add_off] at g0 g1 g2
   rcases (show j = 0 ∨ j = 1 ∨ j = 2 by omega) with rfl | rfl | rfl
   ·exact g0
   ·exact g1
   ·exact g2
  ·obtain ⟨_,_,_,p,ao,m,c,bo,k,d,f,g,e0,e1,e2,hr,hr2,e⟩ := hY i hi
   exact ⟨p,ao,m,c,bo,k,d,f,g,e0,e1,e2,hr,hr2,e⟩

theorem info_wrat : (Tryz.prog.info? 35).map (fun i => (i.zero,i.size,i.bytes)) = some (some (.agg #[.bool false,.slice none 0 0,.slice none 0 0]),3,56) := by kernel_rfl
/-- A row of the call's own of rational numbers, each of at most L limbs above and below. -/
def QOwn (B : Nat) (w : World) (v : Value) (n : Nat) (q : Nat → Rat) (L : Nat) : Prop :=
 ∃ (us : List Value) (el : Nat → Nat → Value),w.ownsRow B 35 3 v n us ∧ (∀ g,v.ownBlock = some g → PureB IsNum w g) ∧ (∀ i,i < n → ∀ j,j < 3 → us[i * 3 + j]? = some (el i j)) ∧ ∀ i,i < n → RatAt w (.agg #[el i 0,el i 1,el i 2]) (q i) L
theorem QOwn.row {B : Nat} {w : World} {v : Value} {n : Nat} {q : Nat → Rat} {L : Nat} (h : QOwn B w v n q L) : QRow w v n q L := by
 obtain ⟨us,el,h1,_,h3,h4⟩ := h
 exact ⟨el,RowAt.of_owns h1 h3,h4⟩
theorem QOwn.nil (B : Nat) (w : World) (q : Nat → Rat) (L : Nat) : QOwn B w (.slice none 0 0) 0 q L :=
 ⟨[],fun _ _ => .bool false,World.ownsRow_nil _ _ _ _,fun g h => (by cases h),fun i hi => (by omega),fun i hi => (by omega)⟩
theorem QOwn.below {B : Nat} {w w' : World} {v : Value} {n : Nat} {q : Nat → Rat} {L : Nat} (h : QOwn B w v n q L) (hb : Below w.heap.size w w') : QOwn B w' v n q L := by
 obtain ⟨us,el,h1,h2,h3,h4⟩ := h
 exact ⟨us,el,owns_later h1 hb,fun g hg => (h2 g hg).below hb (h1.lt g hg).2,h3,fun i hi => (h4 i hi).below hb⟩
/-- Something else was set. -/
theorem QOwn.other {B : Nat} {w w' : World} {v : Value} {n : Nat} {q : Nat → Rat} {L : Nat} {row : Option Nat} (h : QOwn B w v n q L) (hg : w.grownBy w' row) (hk : KeepQ IsNum w w') (hne : ∀ g,row = some g → g < B) : QOwn B w' v n q L := by
 obtain ⟨us,el,h1,h2,h3,h4⟩ := h
 have hv : ∀ g,v.ownBlock = some g → some g ≠ row := fun g hg e => by have := (h1.lt g hg).1; have := hne g e.symm; omega
 refine ⟨us,el,h1.kept hg ?_,fun g hgg o u hu => h2 g hgg o u ?_,h3,fun i hi => (h4 i hi).keep hk⟩
 ·cases hb : v.ownBlock with
  | none => exact .inl rfl
  | some g => exact .inr (hv g hb)
 ·rw [← World.cell?_of_block (w := w) (hg.block g (h1.lt g hgg).2 (hv g hgg))]; exact hu
theorem QOwn.more {B : Nat} {w w' : World} {n g' cap' : Nat} {q : Nat → Rat} {L : Nat} {us : List Value} {el : Nat → Nat → Value} {x0 x1 x2 : Value} (h1 : w'.ownsRow B 35 3 (.slice (some ⟨g',0,none⟩) (n + 1) cap') (n + 1) (us ++ [x0,x1,x2]))
  (hp : PureB IsNum w' g') (hl : us.length = n * 3) (h3 : ∀ i,i < n → ∀ j,j < 3 → us[i * 3 + j]? = some (el i j)) (h4 : ∀ i,i < n → RatAt w (.agg #[el i 0,el i 1,el i 2]) (q i) L) (hx : RatAt w (.agg #[x0,x1,x2]) (q n) L) (hk : KeepQ IsNum w w') :
  QOwn B w' (.slice (some ⟨g',0,none⟩) (n + 1) cap') (n + 1) q L := by
 refine ⟨_,fun i j => if i < n then el i j else if j = 0 then x0 else if j = 1 then x1 else x2,h1,fun g hg => by simp only [Value.ownBlock,Option.some.injEq] at hg; subst hg; exact hp,fun i hi j hj => ?_,fun i hi => ?_⟩
 ·by_cases hin : i < n
  ·show _ = some (if i < n then el i j else if j = 0 then x0 else if j = 1 then x1 else x2)
   rw [if_pos hin,List.getElem?_append_left (by omega)]; exact h3 i hin j hj
  ·obtain rfl : i = n := by omega
   show _ = some (if i < i then el i j else if j = 0 then x0 else if j = 1 then x1 else x2)
   rw [if_neg hin,List.getElem?_append_right (by omega),hl,Nat.add_sub_cancel_left]
   rcases (show j = 0 ∨ j = 1 ∨ j = 2 by omega) with rfl | rfl | rfl <;> rfl
 ·by_cases hin : i < n
  ·simp only [if_pos hin]; exact (h4 i hin).keep hk
  ·obtain rfl : i = n := by omega
   simp only [if_neg hin]; exact hx.keep hk
theorem grown_set3 (w : World) (R : Nat) (x y z : Value) : w.grownBy (((w.setCell ⟨R,0,none⟩ x).setCell ⟨R,1,none⟩ y).setCell ⟨R,2,none⟩ z) (some R) :=
 ⟨rfl,rfl,rfl,by simp,fun k _ hk => by rw [Below.heap_setCell _ _ _ _ (fun e => hk (by rw [e])),Below.heap_setCell _ _ _ _ (fun e => hk (by rw [e])),Below.heap_setCell _ _ _ _ (fun e => hk (by rw [e]))]⟩
theorem V3.grown {w w' : World} {R : Nat} {x y z : Value} {row : Option Nat} (h : V3 w R x y z) (hg : w.grownBy w' row) (hne : some R ≠ row) : V3 w' R x y z := by
 have hb := hg.block R h.lt hne
 obtain ⟨h1,h2,h3,h4,h5,h6⟩ := h
 exact ⟨(World.cell?_of_block (w := w) hb).trans h1,(World.cell?_of_block (w := w) hb).trans h2,(World.cell?_of_block (w := w) hb).trans h3,(World.frozen?_of_block (w := w) hb).trans h4,(World.frozen?_of_block (w := w) hb).trans h5,(World.frozen?_of_block (w := w) hb).trans h6⟩
/-- Three cells of a row. -/
def E3 (w : World) (b o : Nat) (x y z : Value) : Prop := w.cell? ⟨b,o,none⟩ = some x ∧ w.cell? ⟨b,o + 1,none⟩ = some y ∧ w.cell? ⟨b,o + 2,none⟩ = some z
theorem E3.lt {w : World} {b o : Nat} {x y z : Value} (h : E3 w b o x y z) : b < w.heap.size := World.block_lt_of_cell? _ _ h.1
theorem E3.below {w w' : World} {b o : Nat} {x y z : Value} (h : E3 w b o x y z) (hb : Below w.heap.size w w') : E3 w' b o x y z := ⟨(hb.cell h.lt).trans h.1,(hb.cell h.lt).trans h.2.1,(hb.cell h.lt).trans h.2.2⟩
theorem E3.other3 {w : World} {R b o : Nat} {x y z : Value} (h : E3 w b o x y z) (hne : b ≠ R) (x' y' z' : Value) : E3 (((w.setCell ⟨R,0,none⟩ x').setCell ⟨R,1,none⟩ y').setCell ⟨R,2,none⟩ z') b o x y z :=
 ⟨set_cell_block (set_cell_block (set_cell_block h.1 hne) hne) hne,set_cell_block (set_cell_block (set_cell_block h.2.1 hne) hne) hne,set_cell_block (set_cell_block (set_cell_block h.2.2 hne) hne) hne⟩

end Go.Proofs.YthlogenaienkhaaGreatDoor
