/-
  Texts of mine, joined: what lies beneath the statement.
-/
import Derived.Test.YtieeneaebjihlaaGreatDoorJ8dfb21a160
import Derived.Test.YtieeneaebjihlaaGreatDoorJc5af075678
import Derived.Deep.LoopGhost
import Derived.Deep.Cut
import Derived.Test.YtieeneaebjihlaaGreatDoorJ6e678e005c
import Derived.Test.YtieeneaebjihlaaGreatDoorJa9b749065a
import Derived.Test.YtieeneaebjihlaaGreatDoorJc0b533a066
namespace Go.Proofs.YtieeneaebjihlaaGreatDoor
open Go.RowKit
set_option linter.unusedVariables false
set_option linter.unusedSimpArgs false

/-- Two cells of a row. -/
def E2 (w : World) (b o : Nat) (x y : Value) : Prop := w.cell? ⟨b,o,none⟩ = some x ∧ w.cell? ⟨b,o + 1,none⟩ = some y
theorem E2.lt {w : World} {b o : Nat} {x y : Value} (h : E2 w b o x y) : b < w.heap.size := World.block_lt_of_cell? _ _ h.1
theorem E2.below {w w' : World} {b o : Nat} {x y : Value} (h : E2 w b o x y) (hb : Below w.heap.size w w') : E2 w' b o x y := ⟨(hb.cell h.lt).trans h.1,(hb.cell h.lt).trans h.2⟩
theorem E2.other {w : World} {R b o : Nat} {x y : Value} (h : E2 w b o x y) (hne : b ≠ R) (x' y' : Value) : E2 ((w.setCell ⟨R,0,none⟩ x').setCell ⟨R,1,none⟩ y') b o x y :=
 ⟨set_cell_block (set_cell_block h.1 hne) hne,set_cell_block (set_cell_block h.2 hne) hne⟩
theorem E2.other3 {w : World} {R b o : Nat} {x y : Value} (h : E2 w b o x y) (hne : b ≠ R) (x' y' z' : Value) : E2 (((w.setCell ⟨R,0,none⟩ x').setCell ⟨R,1,none⟩ y').setCell ⟨R,2,none⟩ z') b o x y :=
 ⟨set_cell_block (set_cell_block (set_cell_block h.1 hne) hne) hne,set_cell_block (set_cell_block (set_cell_block h.2 hne) hne) hne⟩
/-- The i-th of a list of whole numbers. -/
theorem IRow.at {w : World} {v : Value} {n : Nat} {z : Nat → Int} {L : Nat} (h : IRow w v n z L) (i : Nat) (hi : i < n) :
  ∃ b off c p ao m d,v = .slice (some ⟨b,off,none⟩) n c ∧ n ≤ c ∧ E2 w b (off + i * 2) (.bool p) (.slice ao m d) ∧ IntAt w (.agg #[.bool p,.slice ao m d]) (z i) L := by
 obtain ⟨el,⟨a,c,h1,h2,h3,h4⟩,h5⟩ := h
 obtain ⟨b,off,rfl,hc⟩ := h4 (by omega)
 have hz := h5 i hi
 obtain ⟨p,ao,m,d,he⟩ := hz.open
 have he' := he
 simp only [Value.agg.injEq,Array.mk.injEq,List.cons.injEq,and_true] at he'
 have c0 := hc i hi 0 (by omega)
 have c1 := hc i hi 1 (by omega)
 rw [he'.1] at c0
 rw [he'.2] at c1
 rw [he] at hz
 exact ⟨b,off,c,p,ao,m,d,h1,h2,⟨c0,c1⟩,hz⟩



end Go.Proofs.YtieeneaebjihlaaGreatDoor

namespace Go.Proofs.YtieeneaebjihlaaGreatDoor
open Go.ChangeShapes Go.WideShapes Go.ChangeAt Go.RowKit
set_option linter.unusedVariables false

theorem cells_wrat : Tryz.prog.cellsOf 28 = 3 := by kernel_rfl
theorem agg3 {cs : Array Value} (h : cs.size = 3) : ∃ a b c,cs = #[a,b,c] := by
 obtain ⟨l⟩ := cs
 match l,h with
 | [a,b,c],_ => exact ⟨a,b,c,rfl⟩
set_option maxRecDepth 100000 in
theorem open_wrat {H : Type} {enc : TypeId × Value → H} {W : World} {base b0 : Nat} {r : Reach} {v : Value} {d : DataW H} {ps : List MemPlace}
  (hval : Value.okWide Tryz.prog W r b0 28 v) (h : DataW.Trod enc Tryz.prog W base (fun _ => true) true 28 v d ps) :
  ∃ neg ao n c bo m e f g,v = .agg #[.bool neg,.slice ao n c,.slice bo m e] ∧ Raw W (.slice ao n c) n f ∧ Raw W (.slice bo m e) m g := by
 obtain ⟨cs,rfl,hsz⟩ := okWide_struct Tryz.underlying28 hval
 rw [cells_wrat] at hsz
 obtain ⟨c0,c1,c2,rfl⟩ := agg3 hsz
 obtain ⟨fuel,hf⟩ := h
 obtain ⟨y0,y1,m,hx,_,hy0,hy1⟩ := trod_struct2 Tryz.underlying28 hf
 obtain ⟨z0,z1,m2,hx2,_,hz0,hz1⟩ := trod_struct2 Tryz.underlying26 hy0
 obtain ⟨b,e0,_⟩ := DataW.trod_bool Tryz.underlying4 hz0
 obtain ⟨ao,n,c,f,e1,hraw⟩ := open_nat hz1
 obtain ⟨bo,m3,d3,g,e2,hraw2⟩ := open_nat hy1
 simp [Value.cells,cells_bool,cells_nat,cells_wint] at e0 e1 e2
 subst e0 e1 e2
 exact ⟨b,ao,n,c,bo,m3,d3,f,g,rfl,hraw,hraw2⟩
/-- Is the number above 0 digits long? -/
theorem DocQ.len {w : World} {p : Bool} {ao : Option Addr} {n c : Nat} {bo : Option Addr} {m d : Nat} {q : Rat} {L : Nat} (h : DocQ w (.agg #[.bool p,.slice ao n c,.slice bo m d]) q L) : n = 0 ↔ q = 0 := by
 obtain ⟨z,x,h1,rfl⟩ := h
 obtain ⟨hj,_,hx,_⟩ := h1.parts
 rw [mkRat_zero_iff z x hx]
 obtain ⟨ao',c',e,_⟩ := hj
 simp only [Value.agg.injEq,Array.mk.injEq,List.cons.injEq,Value.slice.injEq,and_true] at e
 rw [e.2.2.1,nl_eq_zero 10000 _ (by decide)]
 omega

/-- A list of rational numbers as it comes in; q i is the i-th cut to K limbs above and below. -/
def RawQ (w : World) (v : Value) (n : Nat) (q : Nat → Rat) (K : Nat) : Prop :=
 ∃ el,RowAt 3 w v n el ∧ ∀ i,i < n → ∃ p ao m c bo k d f g,el i 0 = .bool p ∧ el i 1 = .slice ao m c ∧ el i 2 = .slice bo k d ∧ Raw w (.slice ao m c) m f ∧ Raw w (.slice bo k d) k g ∧ q i = mkRat (zof p (num f (min m K))) (num g (min k K))
theorem RawQ.below {w w' : World} {v : Value} {n : Nat} {q : Nat → Rat} {K : Nat} (h : RawQ w v n q K) (hb : Below w.heap.size w w') : RawQ w' v n q K := by
 obtain ⟨el,h1,h2⟩ := h
 exact ⟨el,h1.below hb,fun i hi => let ⟨p,ao,m,c,bo,k,d,f,g,a,b,x,r,r2,e⟩ := h2 i hi; ⟨p,ao,m,c,bo,k,d,f,g,a,b,x,r.below hb,r2.below hb,e⟩⟩
/-- The i-th of them. -/
theorem RawQ.at {w : World} {v : Value} {n : Nat} {q : Nat → Rat} {K : Nat} (h : RawQ w v n q K) (i : Nat) (hi : i < n) :
  ∃ b off c p ao m d bo k e f g,v = .slice (some ⟨b,off,none⟩) n c ∧ n ≤ c ∧ w.cell? ⟨b,off + i * 3,none⟩ = some (.bool p) ∧ w.cell? ⟨b,off + i * 3 + 1,none⟩ = some (.slice ao m d) ∧ w.cell? ⟨b,off + i * 3 + 2,none⟩ = some (.slice bo k e) ∧ Raw w (.slice ao m d) m f ∧ Raw w (.slice bo k e) k g ∧ q i = mkRat (zof p (num f (min m K))) (num g (min k K)) := by
 obtain ⟨el,⟨a,c,h1,h2,h3,h4⟩,h5⟩ := h
 obtain ⟨b,off,rfl,hc⟩ := h4 (by omega)
 obtain ⟨p,ao,m,d,bo,k,e,f,g,e0,e1,e2,r,r2,eq⟩ := h5 i hi
 have c0 := hc i hi 0 (by omega)
 have c1 := hc i hi 1 (by omega)
 have c2 := hc i hi 2 (by omega)
 rw [e0] at c0
 rw [e1] at c1
 rw [e2] at c2
 exact ⟨b,off,c,p,ao,m,d,bo,k,e,f,g,h1,h2,c0,c1,c2,r,r2,eq⟩
theorem cells3 {l : List Value} (h : l.length = 3) : ∃ a b c,l = [a,b,c] := by
 match l,h with
 | [a,b,c],_ => exact ⟨a,b,c,rfl⟩
set_option maxRecDepth 100000 in
theorem open_wrats {H : Type} {enc : TypeId × Value → H} {W : World} {base b0 : Nat} {r : Reach} {v : Value} {d : DataW H} {ps : List MemPlace} (K : Nat)
  (hval : Value.okWide Tryz.prog W r b0 22 v) (h : DataW.Trod enc Tryz.prog W base (fun _ => true) true 22 v d ps) : ∃ n q,RawQ W v n q K := by
 obtain ⟨a,len,cap,rfl⟩ := okWide_slice Tryz.underlying22 hval
 obtain ⟨fuel,hf⟩ := h
 rcases Go.Deep.open_slice Tryz.underlying22 hf with ⟨hcs,_⟩ | ⟨x,l,c,m,n,D,Pl,hcs,_,hl,hm,hmm,_,hall⟩
 ·simp [Value.cells] at hcs
  obtain ⟨rfl,rfl,rfl⟩ := hcs
  exact ⟨0,fun _ => 0,fun _ _ => .bool false,RowAt.nil _ _ _,fun i hi => by omega⟩
 ·simp [Value.cells] at hcs
  obtain ⟨rfl,rfl,rfl⟩ := hcs
  rw [if_pos rfl] at hmm
  subst hmm
  rw [cells_wrat] at hall
  have each : ∀ i,∃ y : Rat × Value × Value × Value,i < len → W.cell? (x.add (i * 3)) = some y.2.1 ∧ W.cell? (x.add (i * 3 + 1)) = some y.2.2.1 ∧ W.cell? (x.add (i * 3 + 2)) = some y.2.2.2 ∧
    ∃ p ao m c bo k d f g,y.2.1 = .bool p ∧ y.2.2.1 = .slice ao m c ∧ y.2.2.2 = .slice bo k d ∧ Raw W (.slice ao m c) m f ∧ Raw W (.slice bo k d) k g ∧ y.1 = mkRat (zof p (num f (min m K))) (num g (min k K)) := by
   intro i
   by_cases hi : i < len
   ·obtain ⟨cs,h1,h2⟩ := hall i (by omega)
    obtain ⟨_,hlen,hcell⟩ := World.cells?_some h1
    obtain ⟨c0,c1,c2,rfl⟩ := cells3 hlen
    obtain ⟨y0,y1,m,hx,_,hy0,hy1⟩ := trod_struct2 Tryz.underlying28 h2
    obtain ⟨z0,z1,m2,hx2,_,hz0,hz1⟩ := trod_struct2 Tryz.underlying26 hy0
    obtain ⟨b,e0,_⟩ := DataW.trod_bool Tryz.underlying4 hz0
    obtain ⟨ao,n1,c3,f,e1,hraw⟩ := open_nat hz1
    obtain ⟨bo,m3,d3,g,e2,hraw2⟩ := open_nat hy1
    simp [cells_bool,cells_nat,cells_wint] at e0 e1 e2
    have k0 := hcell 0 (by omega)
    have k1 := hcell 1 (by omega)
    have k2 := hcell 2 (by omega)
    rw [Go.Deep.add_add] at k0 k1 k2
    exact ⟨(_,c0,c1,c2),fun _ => ⟨by simpa using k0,by simpa using k1,by simpa using k2,b,ao,n1,c3,bo,m3,d3,f,g,e0,e1,e2,hraw,hraw2,rfl⟩⟩
   ·exact ⟨(0,.bool false,.bool false,.bool false),fun h => absurd h hi⟩
  obtain ⟨Y,hY⟩ := Classical.axiomOfChoice each
  refine ⟨len,fun i => (Y i).1,fun i j => if j = 0 then (Y i).2.1 else if j = 1 then (Y i).2.2.1 else (Y i).2.2.2,⟨_,_,rfl,hl,by unfold maxLen at hm; omega,fun h0 => ?_⟩,fun i hi => ?_⟩
  ·obtain ⟨b,off,spot⟩ := x
   have hc := (hY 0 (by omega)).1
   have hspot : spot = none := by simpa [Addr.add] using World.cell?_spot hc
   subst hspot
   refine ⟨b,off,rfl,fun i hi j hj => ?_⟩
   obtain ⟨g0,g1,g2,_⟩ := hY i hi
   rw [add_off] at g0 g1 g2
   rcases (show j = 0 ∨ j = 1 ∨ j = 2 by omega) with rfl | rfl | rfl
   ·exact g0
   ·exact g1
   ·exact g2
  ·obtain ⟨_,_,_,p,ao,m,c,bo,k,d,f,g,e0,e1,e2,hr,hr2,e⟩ := hY i hi
   exact ⟨p,ao,m,c,bo,k,d,f,g,e0,e1,e2,hr,hr2,e⟩

end Go.Proofs.YtieeneaebjihlaaGreatDoor
