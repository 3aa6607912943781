/-
  Texts of mine.
-/
import Derived.Test.YtbbliiafkjipbaaGreatDoorJ8a45fc476e
import Derived.Test.YtbbliiafkjipbaaGreatDoorJ0923b60517
import Derived.Test.YtbbliiafkjipbaaGreatDoorJbea81810e9
import Derived.Test.YtbbliiafkjipbaaGreatDoorJa61d86bc3a
import Derived.Laws.CopyOwn
import Derived.Deep.RegionHeld
import Derived.Test.YtbbliiafkjipbaaGreatDoorJe1b848227b
import Derived.Test.YtbbliiafkjipbaaGreatDoorJff5c29fd8b
import Derived.Test.YtbbliiafkjipbaaGreatDoorJ36fd7742e1
namespace Go.Proofs.YtbbliiafkjipbaaGreatDoor
open Go.ChangeShapes Go.WideShapes Go.ChangeAt Go.RowKit
set_option linter.unusedVariables false
def RawQ (w : World) (v : Value) (n : Nat) (q : Nat → Rat) (K : Nat) : Prop :=
 ∃ el,RowAt 3 w v n el ∧ ∀ i,i < n → ∃ p ao m c bo k d f g,el i 0 = .bool p ∧ el i 1 = .slice ao m c ∧ el i 2 = .slice bo k d ∧ Raw w (.slice ao m c) m f ∧ Raw w (.slice bo k d) k g ∧ q i = mkRat (zof p (num f (min m K))) (num g (min k K))
theorem RawQ.below {w w' : World} {v : Value} {n : Nat} {q : Nat → Rat} {K : Nat} (h : RawQ w v n q K) (hb : Below w.heap.size w w') : RawQ w' v n q K := by
 obtain ⟨el,h1,h2⟩ := h
 exact ⟨el,h1.below hb,fun i hi => let ⟨p,ao,m,c,bo,k,d,f,g,a,b,x,r,r2,e⟩ := h2 i hi; ⟨p,ao,m,c,bo,k,d,f,g,a,b,x,r.below hb,r2.below hb,e⟩⟩
theorem RawQ.at {w : World} {v : Value} {n : Nat} {q : Nat → Rat} {K : Nat} (h : RawQ w v n q K) (i : Nat) (hi : i < n) :
  ∃ b off c p ao m d bo k e f g,v = .slice (some ⟨b,off,none⟩) n c ∧ n ≤ c ∧ w.cell? ⟨b,off + i * 3,none⟩ = some (.bool p) ∧ w.cell? ⟨b,off + i * 3 + 1,none⟩ = some (.slice ao m d) ∧ w.cell? ⟨b,off + i * 3 + 2,none⟩ = some (.slice bo k e) ∧ Raw w (.slice ao m d) m f ∧ Raw w (.slice bo k e) k g ∧ q i = mkRat (zof p (num f (min m K))) (num g (min k K)) := by
 obtain ⟨el,⟨a,c,h1,h2,h3,h4⟩,h5⟩ := h
 obtain ⟨b,off,rfl,hc⟩ := h4 (by omega)
 obtain ⟨p,ao,m,d,bo,k,e,f,g,e0,e1,e2,r,r2,eq⟩ := h5 i hi
 have c0 := hc i hi 0 (by omega)
 have c1 := hc i hi 1 (by omega)
 have c2 := hc i hi 2 (by omega)
 rw [e0] at c0
 rw [e1] at c1
 rw [e2] at c2
 exact ⟨b,off,c,p,ao,m,d,bo,k,e,f,g,h1,h2,c0,c1,c2,r,r2,eq⟩

def I64 (z : Int) : Prop := -9223372036854775808 ≤ z ∧ z ≤ 9223372036854775807
theorem i64_wf {z : Int} (h : (Lit.int .i64 z).wf = true) : I64 z := by
 have := h
 simp [Lit.wf] at this
 unfold I64
 have e1 : IntKind.i64.min = -9223372036854775808 := by decide
 have e2 : IntKind.i64.max = 9223372036854775807 := by decide
 omega
def RawN (w : World) (x y z : Value) (q : Rat) (K : Nat) : Prop := ∃ p ao m c bo k d f g,x = .bool p ∧ y = .slice ao m c ∧ z = .slice bo k d ∧ Raw w (.slice ao m c) m f ∧ Raw w (.slice bo k d) k g ∧ q = mkRat (zof p (num f (min m K))) (num g (min k K))
def AtN (w : World) (x y z : Value) (q : Rat) (L : Nat) : Prop := ∃ p ao m c bo k d,x = .bool p ∧ y = .slice ao m c ∧ z = .slice bo k d ∧ RatAt w (.agg #[.bool p,.slice ao m c,.slice bo k d]) q L
theorem RawN.below {w w' : World} {x y z : Value} {q : Rat} {K : Nat} (h : RawN w x y z q K) (hb : Below w.heap.size w w') : RawN w' x y z q K := by
 obtain ⟨p,ao,m,c,bo,k,d,f,g,a,b,e,r,r2,q⟩ := h
 exact ⟨p,ao,m,c,bo,k,d,f,g,a,b,e,r.below hb,r2.below hb,q⟩
theorem AtN.below {w w' : World} {x y z : Value} {q : Rat} {L : Nat} (h : AtN w x y z q L) (hb : Below w.heap.size w w') : AtN w' x y z q L := by
 obtain ⟨p,ao,m,c,bo,k,d,a,b,e,r⟩ := h
 exact ⟨p,ao,m,c,bo,k,d,a,b,e,r.below hb⟩
def NodeRaw (w : World) (el : Nat → Value) (d : Nd) (K : Nat) : Prop := el 0 = .bool d.leaf ∧ el 1 = .int .i64 d.feat ∧ RawN w (el 2) (el 3) (el 4) d.cut K ∧ el 5 = .int .i64 d.left ∧ el 6 = .int .i64 d.right ∧ el 7 = .bool d.miss ∧ RawN w (el 8) (el 9) (el 10) d.val K ∧ RawN w (el 11) (el 12) (el 13) d.cov K ∧ I64 d.feat ∧ I64 d.left ∧ I64 d.right
def NodeAt (w : World) (el : Nat → Value) (d : Nd) (L : Nat) : Prop := el 0 = .bool d.leaf ∧ el 1 = .int .i64 d.feat ∧ AtN w (el 2) (el 3) (el 4) d.cut L ∧ el 5 = .int .i64 d.left ∧ el 6 = .int .i64 d.right ∧ el 7 = .bool d.miss ∧ AtN w (el 8) (el 9) (el 10) d.val L ∧ AtN w (el 11) (el 12) (el 13) d.cov L ∧ I64 d.feat ∧ I64 d.left ∧ I64 d.right
theorem NodeRaw.below {w w' : World} {el : Nat → Value} {d : Nd} {K : Nat} (h : NodeRaw w el d K) (hb : Below w.heap.size w w') : NodeRaw w' el d K := by
 obtain ⟨a,b,c,e,f,g,i,j,k⟩ := h
 exact ⟨a,b,c.below hb,e,f,g,i.below hb,j.below hb,k⟩
theorem NodeAt.below {w w' : World} {el : Nat → Value} {d : Nd} {L : Nat} (h : NodeAt w el d L) (hb : Below w.heap.size w w') : NodeAt w' el d L := by
 obtain ⟨a,b,c,e,f,g,i,j,k⟩ := h
 exact ⟨a,b,c.below hb,e,f,g,i.below hb,j.below hb,k⟩
def TRaw (w : World) (v : Value) (n : Nat) (t : Nat → Nd) (K : Nat) : Prop := ∃ el,RowAt 14 w v n el ∧ ∀ i,i < n → NodeRaw w (el i) (t i) K
def TRow (w : World) (v : Value) (n : Nat) (t : Nat → Nd) (L : Nat) : Prop := ∃ el,RowAt 14 w v n el ∧ ∀ i,i < n → NodeAt w (el i) (t i) L
theorem TRaw.below {w w' : World} {v : Value} {n : Nat} {t : Nat → Nd} {K : Nat} (h : TRaw w v n t K) (hb : Below w.heap.size w w') : TRaw w' v n t K := by
 obtain ⟨el,h1,h2⟩ := h
 exact ⟨el,h1.below hb,fun i hi => (h2 i hi).below hb⟩
theorem TRow.below {w w' : World} {v : Value} {n : Nat} {t : Nat → Nd} {L : Nat} (h : TRow w v n t L) (hb : Below w.heap.size w w') : TRow w' v n t L := by
 obtain ⟨el,h1,h2⟩ := h
 exact ⟨el,h1.below hb,fun i hi => (h2 i hi).below hb⟩
theorem TRow.open {w : World} {v : Value} {n : Nat} {t : Nat → Nd} {L : Nat} (h : TRow w v n t L) : ∃ a c,v = .slice a n c ∧ n ≤ c ∧ c ≤ 9223372036854775807 := by
 obtain ⟨el,⟨a,c,h1,h2,h3,_⟩,_⟩ := h
 exact ⟨a,c,h1,h2,h3⟩
theorem TRaw.open {w : World} {v : Value} {n : Nat} {t : Nat → Nd} {L : Nat} (h : TRaw w v n t L) : ∃ a c,v = .slice a n c ∧ n ≤ c ∧ c ≤ 9223372036854775807 := by
 obtain ⟨el,⟨a,c,h1,h2,h3,_⟩,_⟩ := h
 exact ⟨a,c,h1,h2,h3⟩
structure N14 (w : World) (b o : Nat) (x0 x1 x2 x3 x4 x5 x6 x7 x8 x9 x10 x11 x12 x13 : Value) : Prop where
 c0 : w.cell? ⟨b,o,none⟩ = some x0
 c1 : w.cell? ⟨b,o + 1,none⟩ = some x1
 c2 : w.cell? ⟨b,o + 2,none⟩ = some x2
 c3 : w.cell? ⟨b,o + 3,none⟩ = some x3
 c4 : w.cell? ⟨b,o + 4,none⟩ = some x4
 c5 : w.cell? ⟨b,o + 5,none⟩ = some x5
 c6 : w.cell? ⟨b,o + 6,none⟩ = some x6
 c7 : w.cell? ⟨b,o + 7,none⟩ = some x7
 c8 : w.cell? ⟨b,o + 8,none⟩ = some x8
 c9 : w.cell? ⟨b,o + 9,none⟩ = some x9
 c10 : w.cell? ⟨b,o + 10,none⟩ = some x10
 c11 : w.cell? ⟨b,o + 11,none⟩ = some x11
 c12 : w.cell? ⟨b,o + 12,none⟩ = some x12
 c13 : w.cell? ⟨b,o + 13,none⟩ = some x13
theorem RowAt.n14 {w : World} {v : Value} {n : Nat} {el : Nat → Nat → Value} (h : RowAt 14 w v n el) {i : Nat} (hi : i < n) : ∃ b off c,v = .slice (some ⟨b,off,none⟩) n c ∧ n ≤ c ∧ c ≤ 9223372036854775807 ∧ N14 w b (off + i * 14) (el i 0) (el i 1) (el i 2) (el i 3) (el i 4) (el i 5) (el i 6) (el i 7) (el i 8) (el i 9) (el i 10) (el i 11) (el i 12) (el i 13) := by
 obtain ⟨a,c,h1,h2,h3,h4⟩ := h
 obtain ⟨b,off,rfl,hc⟩ := h4 (by omega)
 have hc := hc i hi
 exact ⟨b,off,c,h1,h2,h3,hc 0 (by omega),hc 1 (by omega),hc 2 (by omega),hc 3 (by omega),hc 4 (by omega),hc 5 (by omega),hc 6 (by omega),hc 7 (by omega),hc 8 (by omega),hc 9 (by omega),hc 10 (by omega),hc 11 (by omega),hc 12 (by omega),hc 13 (by omega)⟩
theorem TRow.at {w : World} {v : Value} {n : Nat} {t : Nat → Nd} {L : Nat} (h : TRow w v n t L) {i : Nat} (hi : i < n) :
  ∃ b off c p1 a1 n1 c1 b1 m1 d1 p2 a2 n2 c2 b2 m2 d2 p3 a3 n3 c3 b3 m3 d3,v = .slice (some ⟨b,off,none⟩) n c ∧ n ≤ c ∧ c ≤ 9223372036854775807 ∧
   N14 w b (off + i * 14) (.bool (t i).leaf) (.int .i64 (t i).feat) (.bool p1) (.slice a1 n1 c1) (.slice b1 m1 d1) (.int .i64 (t i).left) (.int .i64 (t i).right) (.bool (t i).miss) (.bool p2) (.slice a2 n2 c2) (.slice b2 m2 d2) (.bool p3) (.slice a3 n3 c3) (.slice b3 m3 d3) ∧
   RatAt w (.agg #[.bool p1,.slice a1 n1 c1,.slice b1 m1 d1]) (t i).cut L ∧ RatAt w (.agg #[.bool p2,.slice a2 n2 c2,.slice b2 m2 d2]) (t i).val L ∧ RatAt w (.agg #[.bool p3,.slice a3 n3 c3,.slice b3 m3 d3]) (t i).cov L ∧ I64 (t i).feat ∧ I64 (t i).left ∧ I64 (t i).right := by
 obtain ⟨el,h1,h2⟩ := h
 obtain ⟨b,off,c,e,hc,hm,hN⟩ := h1.n14 hi
 obtain ⟨e0,e1,⟨p1,a1,n1,c1,b1,m1,d1,e2,e3,e4,r1⟩,e5,e6,e7,⟨p2,a2,n2,c2,b2,m2,d2,e8,e9,e10,r2⟩,⟨p3,a3,n3,c3,b3,m3,d3,e11,e12,e13,r3⟩,i1,i2,i3⟩ := h2 i hi
 rw [e0,e1,e2,e3,e4,e5,e6,e7,e8,e9,e10,e11,e12,e13] at hN
 exact ⟨b,off,c,p1,a1,n1,c1,b1,m1,d1,p2,a2,n2,c2,b2,m2,d2,p3,a3,n3,c3,b3,m3,d3,e,hc,hm,hN,r1,r2,r3,i1,i2,i3⟩
theorem TRaw.at {w : World} {v : Value} {n : Nat} {t : Nat → Nd} {K : Nat} (h : TRaw w v n t K) {i : Nat} (hi : i < n) :
  ∃ b off c p1 a1 n1 c1 b1 m1 d1 f1 g1 p2 a2 n2 c2 b2 m2 d2 f2 g2 p3 a3 n3 c3 b3 m3 d3 f3 g3,v = .slice (some ⟨b,off,none⟩) n c ∧ n ≤ c ∧ c ≤ 9223372036854775807 ∧
   N14 w b (off + i * 14) (.bool (t i).leaf) (.int .i64 (t i).feat) (.bool p1) (.slice a1 n1 c1) (.slice b1 m1 d1) (.int .i64 (t i).left) (.int .i64 (t i).right) (.bool (t i).miss) (.bool p2) (.slice a2 n2 c2) (.slice b2 m2 d2) (.bool p3) (.slice a3 n3 c3) (.slice b3 m3 d3) ∧
   (Raw w (.slice a1 n1 c1) n1 f1 ∧ Raw w (.slice b1 m1 d1) m1 g1 ∧ (t i).cut = mkRat (zof p1 (num f1 (min n1 K))) (num g1 (min m1 K))) ∧
   (Raw w (.slice a2 n2 c2) n2 f2 ∧ Raw w (.slice b2 m2 d2) m2 g2 ∧ (t i).val = mkRat (zof p2 (num f2 (min n2 K))) (num g2 (min m2 K))) ∧
   (Raw w (.slice a3 n3 c3) n3 f3 ∧ Raw w (.slice b3 m3 d3) m3 g3 ∧ (t i).cov = mkRat (zof p3 (num f3 (min n3 K))) (num g3 (min m3 K))) ∧ I64 (t i).feat ∧ I64 (t i).left ∧ I64 (t i).right := by
 obtain ⟨el,h1,h2⟩ := h
 obtain ⟨b,off,c,e,hc,hm,hN⟩ := h1.n14 hi
 obtain ⟨e0,e1,⟨p1,a1,n1,c1,b1,m1,d1,f1,g1,e2,e3,e4,r1⟩,e5,e6,e7,⟨p2,a2,n2,c2,b2,m2,d2,f2,g2,e8,e9,e10,r2⟩,⟨p3,a3,n3,c3,b3,m3,d3,f3,g3,e11,e12,e13,r3⟩,i1,i2,i3⟩ := h2 i hi
 rw [e0,e1,e2,e3,e4,e5,e6,e7,e8,e9,e10,e11,e12,e13] at hN
 exact ⟨b,off,c,p1,a1,n1,c1,b1,m1,d1,f1,g1,p2,a2,n2,c2,b2,m2,d2,f2,g2,p3,a3,n3,c3,b3,m3,d3,f3,g3,e,hc,hm,hN,r1,r2,r3,i1,i2,i3⟩
def MRaw (w : World) (v : Value) (k : Nat) (N : Nat → Nat) (t : Nat → Nat → Nd) (K : Nat) : Prop := ∃ el,RowAt 1 w v k el ∧ ∀ i,i < k → TRaw w (el i 0) (N i) (t i) K
def MRow (w : World) (v : Value) (k : Nat) (N : Nat → Nat) (t : Nat → Nat → Nd) (L : Nat) : Prop := ∃ el,RowAt 1 w v k el ∧ ∀ i,i < k → TRow w (el i 0) (N i) (t i) L
theorem MRaw.below {w w' : World} {v : Value} {k : Nat} {N : Nat → Nat} {t : Nat → Nat → Nd} {K : Nat} (h : MRaw w v k N t K) (hb : Below w.heap.size w w') : MRaw w' v k N t K := by
 obtain ⟨el,h1,h2⟩ := h
 exact ⟨el,h1.below hb,fun i hi => (h2 i hi).below hb⟩
theorem MRow.below {w w' : World} {v : Value} {k : Nat} {N : Nat → Nat} {t : Nat → Nat → Nd} {L : Nat} (h : MRow w v k N t L) (hb : Below w.heap.size w w') : MRow w' v k N t L := by
 obtain ⟨el,h1,h2⟩ := h
 exact ⟨el,h1.below hb,fun i hi => (h2 i hi).below hb⟩
theorem MRow.open {w : World} {v : Value} {k : Nat} {N : Nat → Nat} {t : Nat → Nat → Nd} {L : Nat} (h : MRow w v k N t L) : ∃ a c,v = .slice a k c ∧ k ≤ c ∧ c ≤ 9223372036854775807 := by
 obtain ⟨el,⟨a,c,h1,h2,h3,_⟩,_⟩ := h
 exact ⟨a,c,h1,h2,h3⟩
theorem MRaw.open {w : World} {v : Value} {k : Nat} {N : Nat → Nat} {t : Nat → Nat → Nd} {L : Nat} (h : MRaw w v k N t L) : ∃ a c,v = .slice a k c ∧ k ≤ c ∧ c ≤ 9223372036854775807 := by
 obtain ⟨el,⟨a,c,h1,h2,h3,_⟩,_⟩ := h
 exact ⟨a,c,h1,h2,h3⟩
theorem MRow.at {w : World} {v : Value} {k : Nat} {N : Nat → Nat} {t : Nat → Nat → Nd} {L : Nat} (h : MRow w v k N t L) {i : Nat} (hi : i < k) : ∃ b off c a d,v = .slice (some ⟨b,off,none⟩) k c ∧ k ≤ c ∧ w.cell? ⟨b,off + i,none⟩ = some (.slice a (N i) d) ∧ TRow w (.slice a (N i) d) (N i) (t i) L := by
 obtain ⟨el,⟨a,c,h1,h2,h3,h4⟩,h5⟩ := h
 obtain ⟨b,off,rfl,hc⟩ := h4 (by omega)
 obtain ⟨a,d,e,_⟩ := (h5 i hi).open
 have := hc i hi 0 (by omega)
 rw [Nat.mul_one,Nat.add_zero,e] at this
 exact ⟨b,off,c,a,d,h1,h2,this,e ▸ h5 i hi⟩
theorem MRaw.at {w : World} {v : Value} {k : Nat} {N : Nat → Nat} {t : Nat → Nat → Nd} {L : Nat} (h : MRaw w v k N t L) {i : Nat} (hi : i < k) : ∃ b off c a d,v = .slice (some ⟨b,off,none⟩) k c ∧ k ≤ c ∧ w.cell? ⟨b,off + i,none⟩ = some (.slice a (N i) d) ∧ TRaw w (.slice a (N i) d) (N i) (t i) L := by
 obtain ⟨el,⟨a,c,h1,h2,h3,h4⟩,h5⟩ := h
 obtain ⟨b,off,rfl,hc⟩ := h4 (by omega)
 obtain ⟨a,d,e,_⟩ := (h5 i hi).open
 have := hc i hi 0 (by omega)
 rw [Nat.mul_one,Nat.add_zero,e] at this
 exact ⟨b,off,c,a,d,h1,h2,this,e ▸ h5 i hi⟩
structure V14 (w : World) (R : Nat) (x0 x1 x2 x3 x4 x5 x6 x7 x8 x9 x10 x11 x12 x13 : Value) : Prop where
 c0 : w.cell? ⟨R,0,none⟩ = some x0
 c1 : w.cell? ⟨R,1,none⟩ = some x1
 c2 : w.cell? ⟨R,2,none⟩ = some x2
 c3 : w.cell? ⟨R,3,none⟩ = some x3
 c4 : w.cell? ⟨R,4,none⟩ = some x4
 c5 : w.cell? ⟨R,5,none⟩ = some x5
 c6 : w.cell? ⟨R,6,none⟩ = some x6
 c7 : w.cell? ⟨R,7,none⟩ = some x7
 c8 : w.cell? ⟨R,8,none⟩ = some x8
 c9 : w.cell? ⟨R,9,none⟩ = some x9
 c10 : w.cell? ⟨R,10,none⟩ = some x10
 c11 : w.cell? ⟨R,11,none⟩ = some x11
 c12 : w.cell? ⟨R,12,none⟩ = some x12
 c13 : w.cell? ⟨R,13,none⟩ = some x13
theorem V14.lt {w : World} {R : Nat} {x0 x1 x2 x3 x4 x5 x6 x7 x8 x9 x10 x11 x12 x13 : Value} (h : V14 w R x0 x1 x2 x3 x4 x5 x6 x7 x8 x9 x10 x11 x12 x13) : R < w.heap.size := World.block_lt_of_cell? _ _ h.c0
theorem V14.below {w w' : World} {R : Nat} {x0 x1 x2 x3 x4 x5 x6 x7 x8 x9 x10 x11 x12 x13 : Value} (h : V14 w R x0 x1 x2 x3 x4 x5 x6 x7 x8 x9 x10 x11 x12 x13) (hb : Below w.heap.size w w') : V14 w' R x0 x1 x2 x3 x4 x5 x6 x7 x8 x9 x10 x11 x12 x13 := by
 have hl := h.lt
 obtain ⟨h0,h1,h2,h3,h4,h5,h6,h7,h8,h9,h10,h11,h12,h13⟩ := h
 exact ⟨(hb.cell hl).trans h0,(hb.cell hl).trans h1,(hb.cell hl).trans h2,(hb.cell hl).trans h3,(hb.cell hl).trans h4,(hb.cell hl).trans h5,(hb.cell hl).trans h6,(hb.cell hl).trans h7,(hb.cell hl).trans h8,(hb.cell hl).trans h9,(hb.cell hl).trans h10,(hb.cell hl).trans h11,(hb.cell hl).trans h12,(hb.cell hl).trans h13⟩
theorem V14.lay (w : World) (t : TypeId) (x0 x1 x2 x3 x4 x5 x6 x7 x8 x9 x10 x11 x12 x13 : Value) : ∃ W,W = w.alloc (.cells #[x0,x1,x2,x3,x4,x5,x6,x7,x8,x9,x10,x11,x12,x13] t) ∧ W.heap.size = w.heap.size + 1 ∧ Below w.heap.size w W ∧ V14 W w.heap.size x0 x1 x2 x3 x4 x5 x6 x7 x8 x9 x10 x11 x12 x13 ∧ (∀ j,W.frozen? ⟨w.heap.size,j,none⟩ = false) := by
 have hb := heap_alloc_new w (.cells #[x0,x1,x2,x3,x4,x5,x6,x7,x8,x9,x10,x11,x12,x13] t)
 refine ⟨_,rfl,by simp,(Below.refl _ _).alloc (Nat.le_refl _) _,?_,?_⟩
 ·constructor <;> (rw [cell_of_row _ _ _ _ _ _ hb]; rfl)
 ·intro j
  simp only [World.frozen?]
  rw [hb]
  simp
def fltV (x : Option (Int × Nat × Nat)) : Value := match x with
 | none => .agg #[.int .i64 0,.int .i64 0,.int .i64 0,.int .i64 0]
 | some (e,i,nd) => .agg #[.int .i64 e,.int .i64 0,.int .i64 (i : Int),.int .i64 (nd : Int)]
theorem cells14 {l : List Value} (h : l.length = 14) : ∃ x0 x1 x2 x3 x4 x5 x6 x7 x8 x9 x10 x11 x12 x13,l = [x0,x1,x2,x3,x4,x5,x6,x7,x8,x9,x10,x11,x12,x13] := by
 match l,h with
 | [x0,x1,x2,x3,x4,x5,x6,x7,x8,x9,x10,x11,x12,x13],_ => exact ⟨x0,x1,x2,x3,x4,x5,x6,x7,x8,x9,x10,x11,x12,x13,rfl⟩
theorem cells_node : Tryz.prog.cellsOf 48 = 14 := by kernel_rfl
theorem cells_int : Tryz.prog.cellsOf 3 = 1 := by kernel_rfl
set_option maxRecDepth 100000 in
theorem trod_rat3 {H : Type} {enc : TypeId × Value → H} {W : World} {base n : Nat} {c0 c1 c2 : Value} {y : DataW H × List MemPlace} (K : Nat) (h : DataW.trod enc Tryz.prog W base (fun _ => true) true n 42 [c0,c1,c2] = some y) : ∃ q,RawN W c0 c1 c2 q K := by
 obtain ⟨y0,y1,m,hx,_,hy0,hy1⟩ := trod_struct2 Tryz.underlying42 h
 obtain ⟨z0,z1,m2,hx2,_,hz0,hz1⟩ := trod_struct2 Tryz.underlying40 hy0
 obtain ⟨b,e0,_⟩ := DataW.trod_bool Tryz.underlying4 hz0
 obtain ⟨ao,n1,c3,f,e1,hraw⟩ := open_nat hz1
 obtain ⟨bo,m3,d3,g,e2,hraw2⟩ := open_nat hy1
 simp [cells_bool,cells_nat,cells_wint] at e0 e1 e2
 exact ⟨_,b,ao,n1,c3,bo,m3,d3,f,g,e0,e1,e2,hraw,hraw2,rfl⟩
set_option maxRecDepth 100000 in
theorem trod_node {H : Type} {enc : TypeId × Value → H} {W : World} {base n : Nat} {x0 x1 x2 x3 x4 x5 x6 x7 x8 x9 x10 x11 x12 x13 : Value} {y : DataW H × List MemPlace} (K : Nat) (h : DataW.trod enc Tryz.prog W base (fun _ => true) true n 48 [x0,x1,x2,x3,x4,x5,x6,x7,x8,x9,x10,x11,x12,x13] = some y) :
  ∃ d : Nd,NodeRaw W (fun j => [x0,x1,x2,x3,x4,x5,x6,x7,x8,x9,x10,x11,x12,x13].getD j undef) d K := by
 obtain ⟨xs,m,_,_,_,hxl,hf⟩ := DataW.trod_struct Tryz.underlying48 h
 have get : ∀ i,i < 8 → ∃ z,xs[i]? = some z := fun i hi => ⟨xs[i]'(by rw [hxl]; exact hi),List.getElem?_eq_getElem _⟩
 obtain ⟨z0,g0⟩ := get 0 (by omega)
 obtain ⟨z1,g1⟩ := get 1 (by omega)
 obtain ⟨z2,g2⟩ := get 2 (by omega)
 obtain ⟨z3,g3⟩ := get 3 (by omega)
 obtain ⟨z4,g4⟩ := get 4 (by omega)
 obtain ⟨z5,g5⟩ := get 5 (by omega)
 obtain ⟨z6,g6⟩ := get 6 (by omega)
 obtain ⟨z7,g7⟩ := get 7 (by omega)
 have h0 : DataW.trod enc Tryz.prog W base (fun _ => true) true m 4 [x0] = some z0 := by
  have h : DataW.trod enc Tryz.prog W base (fun _ => true) true m 4 (List.take (Tryz.prog.cellsOf 4) (List.drop 0 [x0,x1,x2,x3,x4,x5,x6,x7,x8,x9,x10,x11,x12,x13])) = some z0 := (hf 0 _ rfl).trans g0
  rw [cells_bool] at h
  exact h
 have h1 : DataW.trod enc Tryz.prog W base (fun _ => true) true m 3 [x1] = some z1 := by
  have h : DataW.trod enc Tryz.prog W base (fun _ => true) true m 3 (List.take (Tryz.prog.cellsOf 3) (List.drop 1 [x0,x1,x2,x3,x4,x5,x6,x7,x8,x9,x10,x11,x12,x13])) = some z1 := (hf 1 _ rfl).trans g1
  rw [cells_int] at h
  exact h
 have h2 : DataW.trod enc Tryz.prog W base (fun _ => true) true m 42 [x2,x3,x4] = some z2 := by
  have h : DataW.trod enc Tryz.prog W base (fun _ => true) true m 42 (List.take (Tryz.prog.cellsOf 42) (List.drop 2 [x0,x1,x2,x3,x4,x5,x6,x7,x8,x9,x10,x11,x12,x13])) = some z2 := (hf 2 _ rfl).trans g2
  rw [cells_wrat] at h
  exact h
 have h3 : DataW.trod enc Tryz.prog W base (fun _ => true) true m 3 [x5] = some z3 := by
  have h : DataW.trod enc Tryz.prog W base (fun _ => true) true m 3 (List.take (Tryz.prog.cellsOf 3) (List.drop 5 [x0,x1,x2,x3,x4,x5,x6,x7,x8,x9,x10,x11,x12,x13])) = some z3 := (hf 3 _ rfl).trans g3
  rw [cells_int] at h
  exact h
 have h4 : DataW.trod enc Tryz.prog W base (fun _ => true) true m 3 [x6] = some z4 := by
  have h : DataW.trod enc Tryz.prog W base (fun _ => true) true m 3 (List.take (Tryz.prog.cellsOf 3) (List.drop 6 [x0,x1,x2,x3,x4,x5,x6,x7,x8,x9,x10,x11,x12,x13])) = some z4 := (hf 4 _ rfl).trans g4
  rw [cells_int] at h
  exact h
 have h5 : DataW.trod enc Tryz.prog W base (fun _ => true) true m 4 [x7] = some z5 := by
  have h : DataW.trod enc Tryz.prog W base (fun _ => true) true m 4 (List.take (Tryz.prog.cellsOf 4) (List.drop 7 [x0,x1,x2,x3,x4,x5,x6,x7,x8,x9,x10,x11,x12,x13])) = some z5 := (hf 5 _ rfl).trans g5
  rw [cells_bool] at h
  exact h
 have h6 : DataW.trod enc Tryz.prog W base (fun _ => true) true m 42 [x8,x9,x10] = some z6 := by
  have h : DataW.trod enc Tryz.prog W base (fun _ => true) true m 42 (List.take (Tryz.prog.cellsOf 42) (List.drop 8 [x0,x1,x2,x3,x4,x5,x6,x7,x8,x9,x10,x11,x12,x13])) = some z6 := (hf 6 _ rfl).trans g6
  rw [cells_wrat] at h
  exact h
 have h7 : DataW.trod enc Tryz.prog W base (fun _ => true) true m 42 [x11,x12,x13] = some z7 := by
  have h : DataW.trod enc Tryz.prog W base (fun _ => true) true m 42 (List.take (Tryz.prog.cellsOf 42) (List.drop 11 [x0,x1,x2,x3,x4,x5,x6,x7,x8,x9,x10,x11,x12,x13])) = some z7 := (hf 7 _ rfl).trans g7
  rw [cells_wrat] at h
  exact h
 obtain ⟨lf,e0,_⟩ := DataW.trod_bool Tryz.underlying4 h0
 obtain ⟨ft,e1,_,w1⟩ := DataW.trod_int Tryz.underlying3 h1
 obtain ⟨qc,r2⟩ := trod_rat3 K h2
 obtain ⟨lt,e3,_,w3⟩ := DataW.trod_int Tryz.underlying3 h3
 obtain ⟨rt,e4,_,w4⟩ := DataW.trod_int Tryz.underlying3 h4
 obtain ⟨ms,e5,_⟩ := DataW.trod_bool Tryz.underlying4 h5
 obtain ⟨qv,r6⟩ := trod_rat3 K h6
 obtain ⟨qo,r7⟩ := trod_rat3 K h7
 simp only [List.cons.injEq,and_true] at e0 e1 e3 e4 e5
 exact ⟨⟨lf,ft,qc,lt,rt,ms,qv,qo⟩,e0,e1,r2,e3,e4,e5,r6,r7,i64_wf w1,i64_wf w3,i64_wf w4⟩
set_option maxRecDepth 100000 in
theorem trod_tree {H : Type} {enc : TypeId × Value → H} {W : World} {base fuel : Nat} {c : Value} {y : DataW H × List MemPlace} (K : Nat) (hf : DataW.trod enc Tryz.prog W base (fun _ => true) true fuel 22 [c] = some y) : ∃ n t,TRaw W c n t K := by
 rcases Go.Deep.open_slice Tryz.underlying22 hf with ⟨hcs,_⟩ | ⟨x,l,c',m,n,D,Pl,hcs,_,hl,hm,hmm,_,hall⟩
 ·simp only [List.cons.injEq,and_true] at hcs
  subst hcs
  exact ⟨0,fun _ => ⟨false,0,0,0,0,false,0,0⟩,fun _ _ => .bool false,RowAt.nil _ _ _,fun i hi => by omega⟩
 ·simp only [List.cons.injEq,and_true] at hcs
  subst hcs
  rw [if_pos rfl] at hmm
  subst hmm
  rw [cells_node] at hall
  have each : ∀ i,∃ y : Nd × (Nat → Value),i < l → (∀ j,j < 14 → W.cell? (x.add (i * 14 + j)) = some (y.2 j)) ∧ NodeRaw W y.2 y.1 K := by
   intro i
   by_cases hi : i < l
   ·obtain ⟨cs,h1,h2⟩ := hall i (by omega)
    obtain ⟨_,hlen,hcell⟩ := World.cells?_some h1
    obtain ⟨x0,x1,x2,x3,x4,x5,x6,x7,x8,x9,x10,x11,x12,x13,rfl⟩ := cells14 hlen
    obtain ⟨d,hd⟩ := trod_node K h2
    refine ⟨(d,_),fun _ => ⟨fun j hj => ?_,hd⟩⟩
    have k := hcell j (by omega)
    rw [Go.Deep.add_add] at k
    rw [k]
    rcases (by omega : j = 0 ∨ j = 1 ∨ j = 2 ∨ j = 3 ∨ j = 4 ∨ j = 5 ∨ j = 6 ∨ j = 7 ∨ j = 8 ∨ j = 9 ∨ j = 10 ∨ j = 11 ∨ j = 12 ∨ j = 13) with rfl | rfl | rfl | rfl | rfl | rfl | rfl | rfl | rfl | rfl | rfl | rfl | rfl | rfl <;> rfl
   ·exact ⟨(⟨false,0,0,0,0,false,0,0⟩,fun _ => .bool false),fun h => absurd h hi⟩
  obtain ⟨Y,hY⟩ := Classical.axiomOfChoice each
  refine ⟨l,fun i => (Y i).1,fun i => (Y i).2,⟨_,_,rfl,hl,by unfold maxLen at hm; omega,fun h0 => ?_⟩,fun i hi => (hY i hi).2⟩
  obtain ⟨b,off,spot⟩ := x
  have hc := (hY 0 (by omega)).1 0 (by omega)
  have hspot : spot = none := by simpa [Addr.add] using World.cell?_spot hc
  subst hspot
  refine ⟨b,off,rfl,fun i hi j hj => ?_⟩
  have := (hY i hi).1 j hj
  rw [add_off] at this
  rw [Nat.add_assoc]
  exact this
set_option maxRecDepth 100000 in
theorem open_nodes {H : Type} {enc : TypeId × Value → H} {W : World} {base b0 : Nat} {r : Reach} {v : Value} {d : DataW H} {ps : List MemPlace} (K : Nat)
  (hval : Value.okWide Tryz.prog W r b0 22 v) (h : DataW.Trod enc Tryz.prog W base (fun _ => true) true 22 v d ps) : ∃ n t,TRaw W v n t K := by
 obtain ⟨a,len,cap,rfl⟩ := okWide_slice Tryz.underlying22 hval
 obtain ⟨fuel,hf⟩ := h
 exact trod_tree K hf
end Go.Proofs.YtbbliiafkjipbaaGreatDoor

namespace Go.Proofs.YtbbliiafkjipbaaGreatDoor
open Go.RowKit
set_option linter.unusedVariables false
theorem cell_set_at {w : World} {R i : Nat} {x u : Value} (h : w.cell? ⟨R,i,none⟩ = some x) : (w.setCell ⟨R,i,none⟩ u).cell? ⟨R,i,none⟩ = some u := World.cell?_setCell_same _ _ _ h
theorem cell_set_by {w : World} {R i j : Nat} {x u : Value} (h : w.cell? ⟨R,i,none⟩ = some x) (hne : i ≠ j) : (w.setCell ⟨R,j,none⟩ u).cell? ⟨R,i,none⟩ = some x := by
 rw [World.cell?_setCell_other _ _ _ _ (fun e => hne (by injection e with _ e2; exact e2.symm))]; exact h
theorem grown_at (w : World) (a : Addr) (x : Value) : w.grownBy (w.setCell a x) (some a.block) :=
 ⟨rfl,rfl,rfl,by simp,fun k _ hk => by rw [Below.heap_setCell _ _ _ _ (fun e => hk (by rw [e]))]⟩
theorem limb_bool (b : Bool) : ¬ IsLimb (.bool b) := fun ⟨_,h⟩ => by rcases h with h | h <;> cases h
theorem limb_slice (a : Option Addr) (n c : Nat) : ¬ IsLimb (.slice a n c) := fun ⟨_,h⟩ => by rcases h with h | h <;> cases h
theorem AtN.keepL {w w' : World} {x y z : Value} {q : Rat} {L : Nat} (h : AtN w x y z q L) (hk : KeepQ IsLimb w w') : AtN w' x y z q L := by
 obtain ⟨p,ao,m,c,bo,k,d,a,b,e,r⟩ := h
 exact ⟨p,ao,m,c,bo,k,d,a,b,e,r.keepL hk⟩
theorem NodeAt.keepL {w w' : World} {el : Nat → Value} {d : Nd} {L : Nat} (h : NodeAt w el d L) (hk : KeepQ IsLimb w w') : NodeAt w' el d L := by
 obtain ⟨a,b,c,e,f,g,i,j,k⟩ := h
 exact ⟨a,b,c.keepL hk,e,f,g,i.keepL hk,j.keepL hk,k⟩
theorem NodeAt.congr {w : World} {el el' : Nat → Value} {d : Nd} {L : Nat} (h : NodeAt w el d L) (e : ∀ j,j < 14 → el j = el' j) : NodeAt w el' d L := by
 unfold NodeAt at h ⊢
 rw [← e 0 (by omega),← e 1 (by omega),← e 2 (by omega),← e 3 (by omega),← e 4 (by omega),← e 5 (by omega),← e 6 (by omega),← e 7 (by omega),← e 8 (by omega),← e 9 (by omega),← e 10 (by omega),← e 11 (by omega),← e 12 (by omega),← e 13 (by omega)]
 exact h
def NOwn (B : Nat) (w : World) (v : Value) (n : Nat) (t : Nat → Nd) (L : Nat) : Prop := ∃ cs : List Value,w.ownsRow B 48 14 v n cs ∧ (∀ g,v.ownBlock = some g → PureB IsLimb w g) ∧ ∀ i,i < n → NodeAt w (fun j => cs.getD (i * 14 + j) undef) (t i) L
theorem NOwn.nil (B : Nat) (w : World) (t : Nat → Nd) (L : Nat) : NOwn B w (.slice none 0 0) 0 t L := ⟨[],World.ownsRow_nil _ _ _ _,fun g h => by simp [Value.ownBlock] at h,fun i hi => by omega⟩
theorem owns_le {B B' k : Nat} {e : TypeId} {w : World} {v : Value} {n : Nat} {us : List Value} (h : w.ownsRow B e k v n us) (hb : B' ≤ B) : w.ownsRow B' e k v n us := by
 refine ⟨h.1,?_⟩
 rcases h.2 with hn | ⟨g,cap,cur,rfl,hB,rest⟩
 ·exact .inl hn
 ·exact .inr ⟨g,cap,cur,rfl,by omega,rest⟩
theorem NOwn.le {B B' : Nat} {w : World} {v : Value} {n : Nat} {t : Nat → Nd} {L : Nat} (h : NOwn B w v n t L) (hb : B' ≤ B) : NOwn B' w v n t L := by
 obtain ⟨cs,h1,h2,h3⟩ := h
 exact ⟨cs,owns_le h1 hb,h2,h3⟩
theorem NOwn.later {B : Nat} {w w' : World} {v : Value} {n : Nat} {t : Nat → Nd} {L : Nat} (h : NOwn B w v n t L) (hb : Below w.heap.size w w') : NOwn B w' v n t L := by
 obtain ⟨cs,h1,h2,h3⟩ := h
 exact ⟨cs,owns_later h1 hb,fun g hg => (h2 g hg).below hb (World.ownsRow.lt h1 g hg).2,fun i hi => (h3 i hi).below hb⟩
theorem NOwn.form {B : Nat} {w : World} {v : Value} {n : Nat} {t : Nat → Nd} {L : Nat} (h : NOwn B w v n t L) : ∃ a c,v = .slice a n c := by
 obtain ⟨cs,h1,_⟩ := h
 rcases h1.2 with ⟨rfl,rfl⟩ | ⟨g,c,_,rfl,_⟩
 ·exact ⟨none,0,rfl⟩
 ·exact ⟨_,c,rfl⟩
theorem NOwn.row {B : Nat} {w : World} {v : Value} {n : Nat} {t : Nat → Nd} {L : Nat} (h : NOwn B w v n t L) : TRow w v n t L := by
 obtain ⟨cs,h1,_,h3⟩ := h
 refine ⟨fun i j => cs.getD (i * 14 + j) undef,?_,h3⟩
 have hl := h1.1
 rcases h1.2 with ⟨rfl,rfl⟩ | ⟨g,c,cur,rfl,hB,hg,hc,hm,rest⟩
 ·exact RowAt.nil _ _ _
 ·refine ⟨_,c,rfl,hc,by unfold maxLen at hm; omega,fun _ => ⟨g,0,rfl,fun i hi j hj => ?_⟩⟩
  have hlt : i * 14 + j < cs.length := by rw [hl]; omega
  rw [Nat.zero_add]
  exact owns_cell h1 (by show cs[i * 14 + j]? = some (cs.getD (i * 14 + j) undef); rw [List.getD_eq_getElem?_getD,List.getElem?_eq_getElem hlt]; rfl)
theorem NOwn.more {B : Nat} {w w' : World} {v v' : Value} {n : Nat} {t : Nat → Nd} {L : Nat} {cs news : List Value} (h1 : w'.ownsRow B 48 14 v' (n + 1) (cs ++ news)) (hl : cs.length = n * 14) (hp : ∀ g,v'.ownBlock = some g → PureB IsLimb w' g) (hk : KeepQ IsLimb w w') (h3 : ∀ i,i < n → NodeAt w (fun j => cs.getD (i * 14 + j) undef) (t i) L) (hn : NodeAt w (fun j => news.getD j undef) (t n) L) : NOwn B w' v' (n + 1) t L := by
 refine ⟨_,h1,hp,fun i hi => ?_⟩
 by_cases e : i = n
 ·subst e
  refine (hn.keepL hk).congr (fun j hj => ?_)
  simp only [List.getD_eq_getElem?_getD]
  rw [List.getElem?_append_right (by omega),hl,Nat.add_sub_cancel_left]
 ·refine ((h3 i (by omega)).keepL hk).congr (fun j hj => ?_)
  simp only [List.getD_eq_getElem?_getD]
  rw [List.getElem?_append_left (by omega)]
theorem NOwn.kept {B : Nat} {w w' : World} {v : Value} {n : Nat} {t : Nat → Nd} {L : Nat} {row : Option Nat} (h : NOwn B w v n t L) (hg : w.grownBy w' row) (hk : KeepQ IsLimb w w') (hne : v.ownBlock = none ∨ v.ownBlock ≠ row) : NOwn B w' v n t L := by
 obtain ⟨cs,h1,h2,h3⟩ := h
 refine ⟨cs,h1.kept hg hne,fun g hgg o u hu => h2 g hgg o u ?_,fun i hi => (h3 i hi).keepL hk⟩
 have hlt := (World.ownsRow.lt h1 g hgg).2
 have hne2 : some g ≠ row := fun e => by
  rcases hne with a | a
  ·rw [hgg] at a; cases a
  ·exact a (hgg.trans e)
 rw [← World.cell?_of_block (w := w) (hg.block g hlt hne2)]; exact hu
theorem NOwn.set {B : Nat} {w : World} {v : Value} {n : Nat} {t : Nat → Nd} {L : Nat} (h : NOwn B w v n t L) {a : Addr} (ha : a.block < B) (u : Value) (hk : KeepQ IsLimb w (w.setCell a u)) : NOwn B (w.setCell a u) v n t L := by
 obtain ⟨cs,h1,h2,h3⟩ := h
 refine ⟨cs,ownsRow_setCell_below h1 ha u,fun g hgg o x hx => h2 g hgg o x ?_,fun i hi => (h3 i hi).keepL hk⟩
 have hlt := (World.ownsRow.lt h1 g hgg).1
 rwa [World.cell?_setCell_other _ _ _ _ (fun e => by rw [e] at ha; simp at ha; omega)] at hx
theorem unlike {B B' k k' n n' : Nat} {e e' : TypeId} {w : World} {v v' : Value} {us us' : List Value} (h : w.ownsRow B e k v n us) (h' : w.ownsRow B' e' k' v' n' us') (hne : e ≠ e') : v.ownBlock = none ∨ v.ownBlock ≠ v'.ownBlock := by
 rcases h.2 with ⟨rfl,_⟩ | ⟨g,c,cur,rfl,_,hg,_⟩
 ·exact .inl rfl
 ·refine .inr (fun e9 => ?_)
  rcases h'.2 with ⟨rfl,_⟩ | ⟨g',c',cur',rfl,_,hg',_⟩
  ·cases e9
  ·have : g = g' := by injection e9
   subst this
   rw [hg] at hg'
   injection hg' with hh
   injection hh with _ h2
   exact hne h2
def MOwn (B : Nat) (w : World) (v : Value) (k : Nat) (N : Nat → Nat) (T : Nat → Nat → Nd) (L : Nat) : Prop := ∃ us : List Value,w.ownsRow B 22 1 v k us ∧ (∀ g,v.ownBlock = some g → PureB IsLimb w g) ∧ ∀ i,i < k → ∃ u,us[i]? = some u ∧ NOwn B w u (N i) (T i) L
theorem MOwn.nil (B : Nat) (w : World) (N : Nat → Nat) (T : Nat → Nat → Nd) (L : Nat) : MOwn B w (.slice none 0 0) 0 N T L := ⟨[],World.ownsRow_nil _ _ _ _,fun g h => by simp [Value.ownBlock] at h,fun i hi => by omega⟩
theorem MOwn.later {B : Nat} {w w' : World} {v : Value} {k : Nat} {N : Nat → Nat} {T : Nat → Nat → Nd} {L : Nat} (h : MOwn B w v k N T L) (hb : Below w.heap.size w w') : MOwn B w' v k N T L := by
 obtain ⟨us,h1,h2,h3⟩ := h
 exact ⟨us,owns_later h1 hb,fun g hg => (h2 g hg).below hb (World.ownsRow.lt h1 g hg).2,fun i hi => let ⟨u,a,b⟩ := h3 i hi; ⟨u,a,b.later hb⟩⟩
theorem MOwn.set {B : Nat} {w : World} {v : Value} {k : Nat} {N : Nat → Nat} {T : Nat → Nat → Nd} {L : Nat} (h : MOwn B w v k N T L) {a : Addr} (ha : a.block < B) (u : Value) (hk : KeepQ IsLimb w (w.setCell a u)) : MOwn B (w.setCell a u) v k N T L := by
 obtain ⟨us,h1,h2,h3⟩ := h
 refine ⟨us,ownsRow_setCell_below h1 ha u,fun g hgg o x hx => h2 g hgg o x ?_,fun i hi => let ⟨y,a1,b1⟩ := h3 i hi; ⟨y,a1,b1.set ha u hk⟩⟩
 have hlt := (World.ownsRow.lt h1 g hgg).1
 rwa [World.cell?_setCell_other _ _ _ _ (fun e => by rw [e] at ha; simp at ha; omega)] at hx
theorem MOwn.form {B : Nat} {w : World} {v : Value} {k : Nat} {N : Nat → Nat} {T : Nat → Nat → Nd} {L : Nat} (h : MOwn B w v k N T L) : ∃ a c,v = .slice a k c := by
 obtain ⟨cs,h1,_⟩ := h
 rcases h1.2 with ⟨rfl,rfl⟩ | ⟨g,c,_,rfl,_⟩
 ·exact ⟨none,0,rfl⟩
 ·exact ⟨_,c,rfl⟩
theorem MOwn.row {B : Nat} {w : World} {v : Value} {k : Nat} {N : Nat → Nat} {T : Nat → Nat → Nd} {L : Nat} (h : MOwn B w v k N T L) : MRow w v k N T L := by
 obtain ⟨us,h1,_,h3⟩ := h
 refine ⟨fun i _ => us.getD i undef,?_,fun i hi => ?_⟩
 ·have hl := h1.1
  rcases h1.2 with ⟨rfl,rfl⟩ | ⟨g,c,cur,rfl,hB,hg,hc,hm,rest⟩
  ·exact RowAt.nil _ _ _
  ·refine ⟨_,c,rfl,hc,by unfold maxLen at hm; omega,fun _ => ⟨g,0,rfl,fun i hi j hj => ?_⟩⟩
   obtain ⟨u,hu,_⟩ := h3 i hi
   rw [show j = 0 by omega,Nat.zero_add,Nat.mul_one,Nat.add_zero]
   exact owns_cell h1 (by show us[i]? = some (us.getD i undef); rw [List.getD_eq_getElem?_getD,hu]; rfl)
 ·obtain ⟨u,hu,ho⟩ := h3 i hi
  show TRow w (us.getD i undef) (N i) (T i) L
  rw [List.getD_eq_getElem?_getD,hu]
  exact ho.row
theorem MOwn.more {B : Nat} {w w' : World} {v v' y : Value} {k : Nat} {N : Nat → Nat} {T : Nat → Nat → Nd} {L : Nat} (h : MOwn B w v k N T L) (hy : NOwn B w y (N k) (T k) L) (h1 : ∀ us,w.ownsRow B 22 1 v k us → w'.ownsRow B 22 1 v' (k + 1) (us ++ [y])) (hg : w.grownBy w' v.ownBlock) (hp : ∀ g,v'.ownBlock = some g → PureB IsLimb w' g) (hk : KeepQ IsLimb w w') : MOwn B w' v' (k + 1) N T L := by
 obtain ⟨us,o1,o2,o3⟩ := h
 have hl := o1.1
 have stay : ∀ u n t,NOwn B w u n t L → NOwn B w' u n t L := fun u n t ht => by
  obtain ⟨cs,c1,_⟩ := id ht
  exact ht.kept hg hk (unlike c1 o1 (by decide))
 refine ⟨us ++ [y],h1 us o1,hp,fun i hi => ?_⟩
 by_cases e : i = k
 ·subst e
  exact ⟨y,by rw [List.getElem?_append_right (by omega),hl,Nat.mul_one,Nat.sub_self]; rfl,stay _ _ _ hy⟩
 ·obtain ⟨u,hu,ho⟩ := o3 i (by omega)
  exact ⟨u,by rw [List.getElem?_append_left (by omega)]; exact hu,stay _ _ _ ho⟩
theorem info_node : (Tryz.prog.info? 48).map (fun i => (i.zero,i.size,i.bytes)) = some (some (.agg #[.bool false,.int .i64 0,.bool false,.slice none 0 0,.slice none 0 0,.int .i64 0,.int .i64 0,.bool false,.bool false,.slice none 0 0,.slice none 0 0,.bool false,.slice none 0 0,.slice none 0 0]),14,208) := by kernel_rfl
theorem info_tree : (Tryz.prog.info? 22).map (fun i => (i.zero,i.size,i.bytes)) = some (some (.slice none 0 0),1,24) := by kernel_rfl
end Go.Proofs.YtbbliiafkjipbaaGreatDoor

namespace Go.Proofs.YtbbliiafkjipbaaGreatDoor
open Go.ChangeShapes Go.WideShapes Go.ChangeAt Go.RowKit
set_option linter.unusedVariables false
structure Cl where
 miss : Bool
 val : Rat
def CellRaw (w : World) (el : Nat → Value) (d : Cl) (K : Nat) : Prop := el 0 = .bool d.miss ∧ RawN w (el 1) (el 2) (el 3) d.val K
def CellAt (w : World) (el : Nat → Value) (d : Cl) (L : Nat) : Prop := el 0 = .bool d.miss ∧ AtN w (el 1) (el 2) (el 3) d.val L
theorem CellRaw.below {w w' : World} {el : Nat → Value} {d : Cl} {K : Nat} (h : CellRaw w el d K) (hb : Below w.heap.size w w') : CellRaw w' el d K := ⟨h.1,h.2.below hb⟩
theorem CellAt.below {w w' : World} {el : Nat → Value} {d : Cl} {L : Nat} (h : CellAt w el d L) (hb : Below w.heap.size w w') : CellAt w' el d L := ⟨h.1,h.2.below hb⟩
theorem CellAt.keepL {w w' : World} {el : Nat → Value} {d : Cl} {L : Nat} (h : CellAt w el d L) (hk : KeepQ IsLimb w w') : CellAt w' el d L := ⟨h.1,h.2.keepL hk⟩
theorem CellAt.congr {w : World} {el el' : Nat → Value} {d : Cl} {L : Nat} (h : CellAt w el d L) (e : ∀ j,j < 4 → el j = el' j) : CellAt w el' d L := by
 unfold CellAt at h ⊢
 rw [← e 0 (by omega),← e 1 (by omega),← e 2 (by omega),← e 3 (by omega)]
 exact h
theorem AtN.mono {w : World} {x y z : Value} {q : Rat} {L L' : Nat} (h : AtN w x y z q L) (hL : L ≤ L') : AtN w x y z q L' := by
 obtain ⟨p,ao,m,c,bo,k,d,a,b,e,r⟩ := h
 exact ⟨p,ao,m,c,bo,k,d,a,b,e,r.le hL⟩
theorem CellAt.mono {w : World} {el : Nat → Value} {d : Cl} {L L' : Nat} (h : CellAt w el d L) (hL : L ≤ L') : CellAt w el d L' := ⟨h.1,h.2.mono hL⟩
def CRaw (w : World) (v : Value) (n : Nat) (t : Nat → Cl) (K : Nat) : Prop := ∃ el,RowAt 4 w v n el ∧ ∀ i,i < n → CellRaw w (el i) (t i) K
def CRow (w : World) (v : Value) (n : Nat) (t : Nat → Cl) (L : Nat) : Prop := ∃ el,RowAt 4 w v n el ∧ ∀ i,i < n → CellAt w (el i) (t i) L
theorem CRaw.below {w w' : World} {v : Value} {n : Nat} {t : Nat → Cl} {K : Nat} (h : CRaw w v n t K) (hb : Below w.heap.size w w') : CRaw w' v n t K := by
 obtain ⟨el,h1,h2⟩ := h
 exact ⟨el,h1.below hb,fun i hi => (h2 i hi).below hb⟩
theorem CRow.below {w w' : World} {v : Value} {n : Nat} {t : Nat → Cl} {L : Nat} (h : CRow w v n t L) (hb : Below w.heap.size w w') : CRow w' v n t L := by
 obtain ⟨el,h1,h2⟩ := h
 exact ⟨el,h1.below hb,fun i hi => (h2 i hi).below hb⟩
theorem CRow.open {w : World} {v : Value} {n : Nat} {t : Nat → Cl} {L : Nat} (h : CRow w v n t L) : ∃ a c,v = .slice a n c ∧ n ≤ c ∧ c ≤ 9223372036854775807 := by
 obtain ⟨el,⟨a,c,h1,h2,h3,_⟩,_⟩ := h
 exact ⟨a,c,h1,h2,h3⟩
theorem CRaw.open {w : World} {v : Value} {n : Nat} {t : Nat → Cl} {L : Nat} (h : CRaw w v n t L) : ∃ a c,v = .slice a n c ∧ n ≤ c ∧ c ≤ 9223372036854775807 := by
 obtain ⟨el,⟨a,c,h1,h2,h3,_⟩,_⟩ := h
 exact ⟨a,c,h1,h2,h3⟩
theorem CRow.at {w : World} {v : Value} {n : Nat} {t : Nat → Cl} {L : Nat} (h : CRow w v n t L) {i : Nat} (hi : i < n) :
  ∃ b off c p1 a1 n1 c1 b1 m1 d1,v = .slice (some ⟨b,off,none⟩) n c ∧ n ≤ c ∧ c ≤ 9223372036854775807 ∧
   w.cell? ⟨b,off + i * 4,none⟩ = some (.bool (t i).miss) ∧ w.cell? ⟨b,off + i * 4 + 1,none⟩ = some (.bool p1) ∧ w.cell? ⟨b,off + i * 4 + 2,none⟩ = some (.slice a1 n1 c1) ∧ w.cell? ⟨b,off + i * 4 + 3,none⟩ = some (.slice b1 m1 d1) ∧
   RatAt w (.agg #[.bool p1,.slice a1 n1 c1,.slice b1 m1 d1]) (t i).val L := by
 obtain ⟨el,⟨a,c,h1,h2,h3,h4⟩,h5⟩ := h
 obtain ⟨b,off,rfl,hc⟩ := h4 (by omega)
 obtain ⟨e0,p1,a1,n1,c1,b1,m1,d1,e1,e2,e3,r1⟩ := h5 i hi
 have hc := hc i hi
 exact ⟨b,off,c,p1,a1,n1,c1,b1,m1,d1,h1,h2,h3,(hc 0 (by omega)).trans (by rw [e0]),(hc 1 (by omega)).trans (by rw [e1]),(hc 2 (by omega)).trans (by rw [e2]),(hc 3 (by omega)).trans (by rw [e3]),r1⟩
theorem CRaw.at {w : World} {v : Value} {n : Nat} {t : Nat → Cl} {K : Nat} (h : CRaw w v n t K) {i : Nat} (hi : i < n) :
  ∃ b off c p1 a1 n1 c1 b1 m1 d1 f1 g1,v = .slice (some ⟨b,off,none⟩) n c ∧ n ≤ c ∧ c ≤ 9223372036854775807 ∧
   w.cell? ⟨b,off + i * 4,none⟩ = some (.bool (t i).miss) ∧ w.cell? ⟨b,off + i * 4 + 1,none⟩ = some (.bool p1) ∧ w.cell? ⟨b,off + i * 4 + 2,none⟩ = some (.slice a1 n1 c1) ∧ w.cell? ⟨b,off + i * 4 + 3,none⟩ = some (.slice b1 m1 d1) ∧
   Raw w (.slice a1 n1 c1) n1 f1 ∧ Raw w (.slice b1 m1 d1) m1 g1 ∧ (t i).val = mkRat (zof p1 (num f1 (min n1 K))) (num g1 (min m1 K)) := by
 obtain ⟨el,⟨a,c,h1,h2,h3,h4⟩,h5⟩ := h
 obtain ⟨b,off,rfl,hc⟩ := h4 (by omega)
 obtain ⟨e0,p1,a1,n1,c1,b1,m1,d1,f1,g1,e1,e2,e3,r1⟩ := h5 i hi
 have hc := hc i hi
 exact ⟨b,off,c,p1,a1,n1,c1,b1,m1,d1,f1,g1,h1,h2,h3,(hc 0 (by omega)).trans (by rw [e0]),(hc 1 (by omega)).trans (by rw [e1]),(hc 2 (by omega)).trans (by rw [e2]),(hc 3 (by omega)).trans (by rw [e3]),r1⟩
theorem CRow.mono {w : World} {v : Value} {n : Nat} {t : Nat → Cl} {L L' : Nat} (h : CRow w v n t L) (hL : L ≤ L') : CRow w v n t L' := by
 obtain ⟨el,h1,h2⟩ := h
 exact ⟨el,h1,fun i hi => (h2 i hi).mono hL⟩
theorem CRow.congr {w : World} {v : Value} {n : Nat} {t t' : Nat → Cl} {L : Nat} (h : CRow w v n t L) (e : ∀ i,i < n → t i = t' i) : CRow w v n t' L := by
 obtain ⟨el,h1,h2⟩ := h
 exact ⟨el,h1,fun i hi => e i hi ▸ h2 i hi⟩
def ARaw (w : World) (v : Value) (k : Nat) (N : Nat → Nat) (t : Nat → Nat → Cl) (K : Nat) : Prop := ∃ el,RowAt 1 w v k el ∧ ∀ i,i < k → CRaw w (el i 0) (N i) (t i) K
def ARow (w : World) (v : Value) (k : Nat) (N : Nat → Nat) (t : Nat → Nat → Cl) (L : Nat) : Prop := ∃ el,RowAt 1 w v k el ∧ ∀ i,i < k → CRow w (el i 0) (N i) (t i) L
theorem ARaw.below {w w' : World} {v : Value} {k : Nat} {N : Nat → Nat} {t : Nat → Nat → Cl} {K : Nat} (h : ARaw w v k N t K) (hb : Below w.heap.size w w') : ARaw w' v k N t K := by
 obtain ⟨el,h1,h2⟩ := h
 exact ⟨el,h1.below hb,fun i hi => (h2 i hi).below hb⟩
theorem ARow.below {w w' : World} {v : Value} {k : Nat} {N : Nat → Nat} {t : Nat → Nat → Cl} {L : Nat} (h : ARow w v k N t L) (hb : Below w.heap.size w w') : ARow w' v k N t L := by
 obtain ⟨el,h1,h2⟩ := h
 exact ⟨el,h1.below hb,fun i hi => (h2 i hi).below hb⟩
theorem ARow.open {w : World} {v : Value} {k : Nat} {N : Nat → Nat} {t : Nat → Nat → Cl} {L : Nat} (h : ARow w v k N t L) : ∃ a c,v = .slice a k c ∧ k ≤ c ∧ c ≤ 9223372036854775807 := by
 obtain ⟨el,⟨a,c,h1,h2,h3,_⟩,_⟩ := h
 exact ⟨a,c,h1,h2,h3⟩
theorem ARaw.open {w : World} {v : Value} {k : Nat} {N : Nat → Nat} {t : Nat → Nat → Cl} {L : Nat} (h : ARaw w v k N t L) : ∃ a c,v = .slice a k c ∧ k ≤ c ∧ c ≤ 9223372036854775807 := by
 obtain ⟨el,⟨a,c,h1,h2,h3,_⟩,_⟩ := h
 exact ⟨a,c,h1,h2,h3⟩
theorem ARow.at {w : World} {v : Value} {k : Nat} {N : Nat → Nat} {t : Nat → Nat → Cl} {L : Nat} (h : ARow w v k N t L) {i : Nat} (hi : i < k) : ∃ b off c a d,v = .slice (some ⟨b,off,none⟩) k c ∧ k ≤ c ∧ w.cell? ⟨b,off + i,none⟩ = some (.slice a (N i) d) ∧ CRow w (.slice a (N i) d) (N i) (t i) L := by
 obtain ⟨el,⟨a,c,h1,h2,h3,h4⟩,h5⟩ := h
 obtain ⟨b,off,rfl,hc⟩ := h4 (by omega)
 obtain ⟨a,d,e,_⟩ := (h5 i hi).open
 have := hc i hi 0 (by omega)
 rw [Nat.mul_one,Nat.add_zero,e] at this
 exact ⟨b,off,c,a,d,h1,h2,this,e ▸ h5 i hi⟩
theorem ARaw.at {w : World} {v : Value} {k : Nat} {N : Nat → Nat} {t : Nat → Nat → Cl} {L : Nat} (h : ARaw w v k N t L) {i : Nat} (hi : i < k) : ∃ b off c a d,v = .slice (some ⟨b,off,none⟩) k c ∧ k ≤ c ∧ w.cell? ⟨b,off + i,none⟩ = some (.slice a (N i) d) ∧ CRaw w (.slice a (N i) d) (N i) (t i) L := by
 obtain ⟨el,⟨a,c,h1,h2,h3,h4⟩,h5⟩ := h
 obtain ⟨b,off,rfl,hc⟩ := h4 (by omega)
 obtain ⟨a,d,e,_⟩ := (h5 i hi).open
 have := hc i hi 0 (by omega)
 rw [Nat.mul_one,Nat.add_zero,e] at this
 exact ⟨b,off,c,a,d,h1,h2,this,e ▸ h5 i hi⟩
theorem cells4 {l : List Value} (h : l.length = 4) : ∃ x0 x1 x2 x3,l = [x0,x1,x2,x3] := by
 match l,h with
 | [x0,x1,x2,x3],_ => exact ⟨x0,x1,x2,x3,rfl⟩
theorem cells_cell : Tryz.prog.cellsOf 65 = 4 := by kernel_rfl
set_option maxRecDepth 100000 in
theorem trod_cell {H : Type} {enc : TypeId × Value → H} {W : World} {base n : Nat} {x0 x1 x2 x3 : Value} {y : DataW H × List MemPlace} (K : Nat) (h : DataW.trod enc Tryz.prog W base (fun _ => true) true n 65 [x0,x1,x2,x3] = some y) :
  ∃ d : Cl,CellRaw W (fun j => [x0,x1,x2,x3].getD j undef) d K := by
 obtain ⟨y0,y1,m,hx,_,hy0,hy1⟩ := trod_struct2 Tryz.underlying65 h
 obtain ⟨b,e0,_⟩ := DataW.trod_bool Tryz.underlying4 hy0
 simp [cells_bool] at e0
 obtain ⟨q,r⟩ := trod_rat3 (c0 := x1) (c1 := x2) (c2 := x3) K (by simpa [cells_bool,cells_wrat] using hy1)
 exact ⟨⟨b,q⟩,e0,r⟩
set_option maxRecDepth 100000 in
theorem trod_cells {H : Type} {enc : TypeId × Value → H} {W : World} {base fuel : Nat} {c : Value} {y : DataW H × List MemPlace} (K : Nat) (hf : DataW.trod enc Tryz.prog W base (fun _ => true) true fuel 23 [c] = some y) : ∃ n t,CRaw W c n t K := by
 rcases Go.Deep.open_slice Tryz.underlying23 hf with ⟨hcs,_⟩ | ⟨x,l,c',m,n,D,Pl,hcs,_,hl,hm,hmm,_,hall⟩
 ·simp only [List.cons.injEq,and_true] at hcs
  subst hcs
  exact ⟨0,fun _ => ⟨false,0⟩,fun _ _ => .bool false,RowAt.nil _ _ _,fun i hi => by omega⟩
 ·simp only [List.cons.injEq,and_true] at hcs
  subst hcs
  rw [if_pos rfl] at hmm
  subst hmm
  rw [cells_cell] at hall
  have each : ∀ i,∃ y : Cl × (Nat → Value),i < l → (∀ j,j < 4 → W.cell? (x.add (i * 4 + j)) = some (y.2 j)) ∧ CellRaw W y.2 y.1 K := by
   intro i
   by_cases hi : i < l
   ·obtain ⟨cs,h1,h2⟩ := hall i (by omega)
    obtain ⟨_,hlen,hcell⟩ := World.cells?_some h1
    obtain ⟨x0,x1,x2,x3,rfl⟩ := cells4 hlen
    obtain ⟨d,hd⟩ := trod_cell K h2
    refine ⟨(d,_),fun _ => ⟨fun j hj => ?_,hd⟩⟩
    have k := hcell j (by omega)
    rw [Go.Deep.add_add] at k
    rw [k]
    rcases (by omega : j = 0 ∨ j = 1 ∨ j = 2 ∨ j = 3) with rfl | rfl | rfl | rfl <;> rfl
   ·exact ⟨(⟨false,0⟩,fun _ => .bool false),fun h => absurd h hi⟩
  obtain ⟨Y,hY⟩ := Classical.axiomOfChoice each
  refine ⟨l,fun i => (Y i).1,fun i => (Y i).2,⟨_,_,rfl,hl,by unfold maxLen at hm; omega,fun h0 => ?_⟩,fun i hi => (hY i hi).2⟩
  obtain ⟨b,off,spot⟩ := x
  have hc := (hY 0 (by omega)).1 0 (by omega)
  have hspot : spot = none := by simpa [Addr.add] using World.cell?_spot hc
  subst hspot
  refine ⟨b,off,rfl,fun i hi j hj => ?_⟩
  have := (hY i hi).1 j hj
  rw [add_off] at this
  rw [Nat.add_assoc]
  exact this
set_option maxRecDepth 100000 in
theorem open_cells {H : Type} {enc : TypeId × Value → H} {W : World} {base b0 : Nat} {r : Reach} {v : Value} {d : DataW H} {ps : List MemPlace} (K : Nat)
  (hval : Value.okWide Tryz.prog W r b0 23 v) (h : DataW.Trod enc Tryz.prog W base (fun _ => true) true 23 v d ps) : ∃ n t,CRaw W v n t K := by
 obtain ⟨a,len,cap,rfl⟩ := okWide_slice Tryz.underlying23 hval
 obtain ⟨fuel,hf⟩ := h
 exact trod_cells K hf
def COwn (B : Nat) (w : World) (v : Value) (n : Nat) (t : Nat → Cl) (L : Nat) : Prop := ∃ cs : List Value,w.ownsRow B 65 4 v n cs ∧ (∀ g,v.ownBlock = some g → PureB IsLimb w g) ∧ ∀ i,i < n → CellAt w (fun j => cs.getD (i * 4 + j) undef) (t i) L
theorem COwn.nil (B : Nat) (w : World) (t : Nat → Cl) (L : Nat) : COwn B w (.slice none 0 0) 0 t L := ⟨[],World.ownsRow_nil _ _ _ _,fun g h => by simp [Value.ownBlock] at h,fun i hi => by omega⟩
theorem COwn.le {B B' : Nat} {w : World} {v : Value} {n : Nat} {t : Nat → Cl} {L : Nat} (h : COwn B w v n t L) (hb : B' ≤ B) : COwn B' w v n t L := by
 obtain ⟨cs,h1,h2,h3⟩ := h
 exact ⟨cs,owns_le h1 hb,h2,h3⟩
theorem COwn.later {B : Nat} {w w' : World} {v : Value} {n : Nat} {t : Nat → Cl} {L : Nat} (h : COwn B w v n t L) (hb : Below w.heap.size w w') : COwn B w' v n t L := by
 obtain ⟨cs,h1,h2,h3⟩ := h
 exact ⟨cs,owns_later h1 hb,fun g hg => (h2 g hg).below hb (World.ownsRow.lt h1 g hg).2,fun i hi => (h3 i hi).below hb⟩
theorem COwn.form {B : Nat} {w : World} {v : Value} {n : Nat} {t : Nat → Cl} {L : Nat} (h : COwn B w v n t L) : ∃ a c,v = .slice a n c := by
 obtain ⟨cs,h1,_⟩ := h
 rcases h1.2 with ⟨rfl,rfl⟩ | ⟨g,c,_,rfl,_⟩
 ·exact ⟨none,0,rfl⟩
 ·exact ⟨_,c,rfl⟩
theorem COwn.row {B : Nat} {w : World} {v : Value} {n : Nat} {t : Nat → Cl} {L : Nat} (h : COwn B w v n t L) : CRow w v n t L := by
 obtain ⟨cs,h1,_,h3⟩ := h
 refine ⟨fun i j => cs.getD (i * 4 + j) undef,?_,h3⟩
 have hl := h1.1
 rcases h1.2 with ⟨rfl,rfl⟩ | ⟨g,c,cur,rfl,hB,hg,hc,hm,rest⟩
 ·exact RowAt.nil _ _ _
 ·refine ⟨_,c,rfl,hc,by unfold maxLen at hm; omega,fun _ => ⟨g,0,rfl,fun i hi j hj => ?_⟩⟩
  have hlt : i * 4 + j < cs.length := by rw [hl]; omega
  rw [Nat.zero_add]
  exact owns_cell h1 (by show cs[i * 4 + j]? = some (cs.getD (i * 4 + j) undef); rw [List.getD_eq_getElem?_getD,List.getElem?_eq_getElem hlt]; rfl)
theorem COwn.more {B : Nat} {w w' : World} {v v' : Value} {n : Nat} {t : Nat → Cl} {L : Nat} {cs news : List Value} (h1 : w'.ownsRow B 65 4 v' (n + 1) (cs ++ news)) (hl : cs.length = n * 4) (hp : ∀ g,v'.ownBlock = some g → PureB IsLimb w' g) (hk : KeepQ IsLimb w w') (h3 : ∀ i,i < n → CellAt w (fun j => cs.getD (i * 4 + j) undef) (t i) L) (hn : CellAt w (fun j => news.getD j undef) (t n) L) : COwn B w' v' (n + 1) t L := by
 refine ⟨_,h1,hp,fun i hi => ?_⟩
 by_cases e : i = n
 ·subst e
  refine (hn.keepL hk).congr (fun j hj => ?_)
  simp only [List.getD_eq_getElem?_getD]
  rw [List.getElem?_append_right (by omega),hl,Nat.add_sub_cancel_left]
 ·refine ((h3 i (by omega)).keepL hk).congr (fun j hj => ?_)
  simp only [List.getD_eq_getElem?_getD]
  rw [List.getElem?_append_left (by omega)]
theorem COwn.kept {B : Nat} {w w' : World} {v : Value} {n : Nat} {t : Nat → Cl} {L : Nat} {row : Option Nat} (h : COwn B w v n t L) (hg : w.grownBy w' row) (hk : KeepQ IsLimb w w') (hne : v.ownBlock = none ∨ v.ownBlock ≠ row) : COwn B w' v n t L := by
 obtain ⟨cs,h1,h2,h3⟩ := h
 refine ⟨cs,h1.kept hg hne,fun g hgg o u hu => h2 g hgg o u ?_,fun i hi => (h3 i hi).keepL hk⟩
 have hlt := (World.ownsRow.lt h1 g hgg).2
 have hne2 : some g ≠ row := fun e => by
  rcases hne with a | a
  ·rw [hgg] at a; cases a
  ·exact a (hgg.trans e)
 rw [← World.cell?_of_block (w := w) (hg.block g hlt hne2)]; exact hu
theorem COwn.set {B : Nat} {w : World} {v : Value} {n : Nat} {t : Nat → Cl} {L : Nat} (h : COwn B w v n t L) {a : Addr} (ha : a.block < B) (u : Value) (hk : KeepQ IsLimb w (w.setCell a u)) : COwn B (w.setCell a u) v n t L := by
 obtain ⟨cs,h1,h2,h3⟩ := h
 refine ⟨cs,ownsRow_setCell_below h1 ha u,fun g hgg o x hx => h2 g hgg o x ?_,fun i hi => (h3 i hi).keepL hk⟩
 have hlt := (World.ownsRow.lt h1 g hgg).1
 rwa [World.cell?_setCell_other _ _ _ _ (fun e => by rw [e] at ha; simp at ha; omega)] at hx
def AOwn (B : Nat) (w : World) (v : Value) (k : Nat) (N : Nat → Nat) (T : Nat → Nat → Cl) (L : Nat) : Prop := ∃ us : List Value,w.ownsRow B 23 1 v k us ∧ (∀ g,v.ownBlock = some g → PureB IsLimb w g) ∧ ∀ i,i < k → ∃ u,us[i]? = some u ∧ COwn B w u (N i) (T i) L
theorem AOwn.nil (B : Nat) (w : World) (N : Nat → Nat) (T : Nat → Nat → Cl) (L : Nat) : AOwn B w (.slice none 0 0) 0 N T L := ⟨[],World.ownsRow_nil _ _ _ _,fun g h => by simp [Value.ownBlock] at h,fun i hi => by omega⟩
theorem AOwn.later {B : Nat} {w w' : World} {v : Value} {k : Nat} {N : Nat → Nat} {T : Nat → Nat → Cl} {L : Nat} (h : AOwn B w v k N T L) (hb : Below w.heap.size w w') : AOwn B w' v k N T L := by
 obtain ⟨us,h1,h2,h3⟩ := h
 exact ⟨us,owns_later h1 hb,fun g hg => (h2 g hg).below hb (World.ownsRow.lt h1 g hg).2,fun i hi => let ⟨u,a,b⟩ := h3 i hi; ⟨u,a,b.later hb⟩⟩
theorem AOwn.set {B : Nat} {w : World} {v : Value} {k : Nat} {N : Nat → Nat} {T : Nat → Nat → Cl} {L : Nat} (h : AOwn B w v k N T L) {a : Addr} (ha : a.block < B) (u : Value) (hk : KeepQ IsLimb w (w.setCell a u)) : AOwn B (w.setCell a u) v k N T L := by
 obtain ⟨us,h1,h2,h3⟩ := h
 refine ⟨us,ownsRow_setCell_below h1 ha u,fun g hgg o x hx => h2 g hgg o x ?_,fun i hi => let ⟨y,a1,b1⟩ := h3 i hi; ⟨y,a1,b1.set ha u hk⟩⟩
 have hlt := (World.ownsRow.lt h1 g hgg).1
 rwa [World.cell?_setCell_other _ _ _ _ (fun e => by rw [e] at ha; simp at ha; omega)] at hx
theorem AOwn.form {B : Nat} {w : World} {v : Value} {k : Nat} {N : Nat → Nat} {T : Nat → Nat → Cl} {L : Nat} (h : AOwn B w v k N T L) : ∃ a c,v = .slice a k c := by
 obtain ⟨cs,h1,_⟩ := h
 rcases h1.2 with ⟨rfl,rfl⟩ | ⟨g,c,_,rfl,_⟩
 ·exact ⟨none,0,rfl⟩
 ·exact ⟨_,c,rfl⟩
theorem AOwn.row {B : Nat} {w : World} {v : Value} {k : Nat} {N : Nat → Nat} {T : Nat → Nat → Cl} {L : Nat} (h : AOwn B w v k N T L) : ARow w v k N T L := by
 obtain ⟨us,h1,_,h3⟩ := h
 refine ⟨fun i _ => us.getD i undef,?_,fun i hi => ?_⟩
 ·have hl := h1.1
  rcases h1.2 with ⟨rfl,rfl⟩ | ⟨g,c,cur,rfl,hB,hg,hc,hm,rest⟩
  ·exact RowAt.nil _ _ _
  ·refine ⟨_,c,rfl,hc,by unfold maxLen at hm; omega,fun _ => ⟨g,0,rfl,fun i hi j hj => ?_⟩⟩
   obtain ⟨u,hu,_⟩ := h3 i hi
   rw [show j = 0 by omega,Nat.zero_add,Nat.mul_one,Nat.add_zero]
   exact owns_cell h1 (by show us[i]? = some (us.getD i undef); rw [List.getD_eq_getElem?_getD,hu]; rfl)
 ·obtain ⟨u,hu,ho⟩ := h3 i hi
  show CRow w (us.getD i undef) (N i) (T i) L
  rw [List.getD_eq_getElem?_getD,hu]
  exact ho.row
theorem AOwn.more {B : Nat} {w w' : World} {v v' y : Value} {k : Nat} {N : Nat → Nat} {T : Nat → Nat → Cl} {L : Nat} (h : AOwn B w v k N T L) (hy : COwn B w y (N k) (T k) L) (h1 : ∀ us,w.ownsRow B 23 1 v k us → w'.ownsRow B 23 1 v' (k + 1) (us ++ [y])) (hg : w.grownBy w' v.ownBlock) (hp : ∀ g,v'.ownBlock = some g → PureB IsLimb w' g) (hk : KeepQ IsLimb w w') : AOwn B w' v' (k + 1) N T L := by
 obtain ⟨us,o1,o2,o3⟩ := h
 have hl := o1.1
 have stay : ∀ u n t,COwn B w u n t L → COwn B w' u n t L := fun u n t ht => by
  obtain ⟨cs,c1,_⟩ := id ht
  exact ht.kept hg hk (unlike c1 o1 (by decide))
 refine ⟨us ++ [y],h1 us o1,hp,fun i hi => ?_⟩
 by_cases e : i = k
 ·subst e
  exact ⟨y,by rw [List.getElem?_append_right (by omega),hl,Nat.mul_one,Nat.sub_self]; rfl,stay _ _ _ hy⟩
 ·obtain ⟨u,hu,ho⟩ := o3 i (by omega)
  exact ⟨u,by rw [List.getElem?_append_left (by omega)]; exact hu,stay _ _ _ ho⟩
theorem info_cell : (Tryz.prog.info? 65).map (fun i => (i.zero,i.size,i.bytes)) = some (some (.agg #[.bool false,.bool false,.slice none 0 0,.slice none 0 0]),4,64) := by kernel_rfl
theorem COwn.apart {B : Nat} {w : World} {v : Value} {n : Nat} {t : Nat → Cl} {L : Nat} (h : COwn B w v n t L) {a : Addr} (ha : ∀ g,v.ownBlock = some g → g ≠ a.block) (u : Value) (hk : KeepQ IsLimb w (w.setCell a u)) : COwn B (w.setCell a u) v n t L := by
 refine h.kept (grown_at w a u) hk ?_
 cases e : v.ownBlock with
 | none => exact .inl rfl
 | some g => exact .inr (fun e2 => ha g e (by injection e2))
theorem COwn.blocks {B : Nat} {w : World} {v : Value} {n : Nat} {t : Nat → Cl} {L : Nat} (h : COwn B w v n t L) : ∀ g,v.ownBlock = some g → B ≤ g ∧ g < w.heap.size := by
 obtain ⟨cs,h1,_⟩ := h
 exact World.ownsRow.lt h1
theorem COwn.parts {B : Nat} {w : World} {v : Value} {n : Nat} {t : Nat → Cl} {L : Nat} (h : COwn B w v n t L) : ∃ cs : List Value,cs.length = n * 4 ∧ w.ownsRow B 65 4 v n cs ∧ (∀ g,v.ownBlock = some g → PureB IsLimb w g) ∧ ∀ i,i < n → CellAt w (fun j => cs.getD (i * 4 + j) undef) (t i) L := by
 obtain ⟨cs,h1,h2,h3⟩ := h
 exact ⟨cs,h1.1,h1,h2,h3⟩
theorem AOwn.parts {B : Nat} {w : World} {v : Value} {k : Nat} {N : Nat → Nat} {T : Nat → Nat → Cl} {L : Nat} (h : AOwn B w v k N T L) : ∃ us : List Value,w.ownsRow B 23 1 v k us ∧ (∀ g,v.ownBlock = some g → PureB IsLimb w g) := by
 obtain ⟨us,h1,h2,_⟩ := h
 exact ⟨us,h1,h2⟩
theorem AOwn.blocks {B : Nat} {w : World} {v : Value} {k : Nat} {N : Nat → Nat} {T : Nat → Nat → Cl} {L : Nat} (h : AOwn B w v k N T L) : ∀ g,v.ownBlock = some g → B ≤ g ∧ g < w.heap.size := by
 obtain ⟨cs,h1,_⟩ := h
 exact World.ownsRow.lt h1
theorem AOwn.more1 {B : Nat} {w w' : World} {v v' y : Value} {k : Nat} {N : Nat → Nat} {T : Nat → Nat → Cl} {L : Nat} {us : List Value} (h : AOwn B w v k N T L) (hu : w.ownsRow B 23 1 v k us) (hy : COwn B w y (N k) (T k) L) (h1 : w'.ownsRow B 23 1 v' (k + 1) (us ++ [y])) (hg : w.grownBy w' v.ownBlock) (hp : ∀ g,v'.ownBlock = some g → PureB IsLimb w' g) (hk : KeepQ IsLimb w w') : AOwn B w' v' (k + 1) N T L := by
 refine h.more hy (fun us2 h2 => ?_) hg hp hk
 have : us2 = us := by
  rcases hu.2 with ⟨rfl,rfl⟩ | ⟨g,c,cur,rfl,_,hgg,_,_,_,ht⟩
  ·have a9 : us2 = [] := by simpa using h2.1
   have b9 : us = [] := by simpa using hu.1
   rw [a9,b9]
  ·rcases h2.2 with ⟨h3,_⟩ | ⟨g',c',cur',h3,_,hgg',_,_,_,ht'⟩
   ·cases h3
   ·cases h3
    rw [hgg] at hgg'
    cases hgg'
    rw [← ht,← ht']
 rw [this]
 exact h1
theorem AOwn.le {B B' : Nat} {w : World} {v : Value} {k : Nat} {N : Nat → Nat} {T : Nat → Nat → Cl} {L : Nat} (h : AOwn B w v k N T L) (hb : B' ≤ B) : AOwn B' w v k N T L := by
 obtain ⟨us,h1,h2,h3⟩ := h
 exact ⟨us,owns_le h1 hb,h2,fun i hi => let ⟨u,a,b⟩ := h3 i hi; ⟨u,a,b.le hb⟩⟩
theorem AOwn.below {B : Nat} {w w' : World} {v : Value} {k : Nat} {N : Nat → Nat} {T : Nat → Nat → Cl} {L : Nat} (h : AOwn B w v k N T L) (hb : Below w.heap.size w w') : AOwn B w' v k N T L := h.later hb
end Go.Proofs.YtbbliiafkjipbaaGreatDoor

namespace Go.Proofs.YtbbliiafkjipbaaGreatDoor
open Go.ChangeShapes Go.WideShapes Go.ChangeAt Go.RowKit
set_option linter.unusedVariables false
set_option linter.unusedSimpArgs false
def NodeV (w : World) (v : Value) (d : Nd) (K : Nat) : Prop := ∃ x0 x1 x2 x3 x4 x5 x6 x7 x8 x9 x10 x11 x12 x13,v = .agg #[x0,x1,x2,x3,x4,x5,x6,x7,x8,x9,x10,x11,x12,x13] ∧ NodeRaw w (fun j => [x0,x1,x2,x3,x4,x5,x6,x7,x8,x9,x10,x11,x12,x13].getD j undef) d K
theorem NodeV.open {w : World} {v : Value} {d : Nd} {K : Nat} (h : NodeV w v d K) : ∃ p1 a1 n1 c1 b1 m1 d1 p2 a2 n2 c2 b2 m2 d2 p3 a3 n3 c3 b3 m3 d3,v = .agg #[.bool d.leaf,.int .i64 d.feat,.bool p1,.slice a1 n1 c1,.slice b1 m1 d1,.int .i64 d.left,.int .i64 d.right,.bool d.miss,.bool p2,.slice a2 n2 c2,.slice b2 m2 d2,.bool p3,.slice a3 n3 c3,.slice b3 m3 d3] ∧ NodeRaw w (fun j => [.bool d.leaf,.int .i64 d.feat,.bool p1,.slice a1 n1 c1,.slice b1 m1 d1,.int .i64 d.left,.int .i64 d.right,.bool d.miss,.bool p2,.slice a2 n2 c2,.slice b2 m2 d2,.bool p3,.slice a3 n3 c3,.slice b3 m3 d3].getD j undef) d K := by
 obtain ⟨x0,x1,x2,x3,x4,x5,x6,x7,x8,x9,x10,x11,x12,x13,rfl,hN⟩ := h
 obtain ⟨e0,e1,⟨p1,a1,n1,c1,b1,m1,d1,f1,g1,e2,e3,e4,s1⟩,e5,e6,e7,⟨p2,a2,n2,c2,b2,m2,d2,f2,g2,e8,e9,e10,s2⟩,⟨p3,a3,n3,c3,b3,m3,d3,f3,g3,e11,e12,e13,s3⟩,i1,i2,i3⟩ := id hN
 have e0 : x0 = .bool d.leaf := e0
 have e1 : x1 = .int .i64 d.feat := e1
 have e2 : x2 = .bool p1 := e2
 have e3 : x3 = .slice a1 n1 c1 := e3
 have e4 : x4 = .slice b1 m1 d1 := e4
 have e5 : x5 = .int .i64 d.left := e5
 have e6 : x6 = .int .i64 d.right := e6
 have e7 : x7 = .bool d.miss := e7
 have e8 : x8 = .bool p2 := e8
 have e9 : x9 = .slice a2 n2 c2 := e9
 have e10 : x10 = .slice b2 m2 d2 := e10
 have e11 : x11 = .bool p3 := e11
 have e12 : x12 = .slice a3 n3 c3 := e12
 have e13 : x13 = .slice b3 m3 d3 := e13
 subst e0 e1 e2 e3 e4 e5 e6 e7 e8 e9 e10 e11 e12 e13
 exact ⟨p1,a1,n1,c1,b1,m1,d1,p2,a2,n2,c2,b2,m2,d2,p3,a3,n3,c3,b3,m3,d3,rfl,hN⟩
theorem V14.put {w : World} {R : Nat} {x0 x1 x2 x3 x4 x5 x6 x7 x8 x9 x10 x11 x12 x13 : Value} (h : V14 w R x0 x1 x2 x3 x4 x5 x6 x7 x8 x9 x10 x11 x12 x13) (u0 u1 u2 u3 u4 u5 u6 u7 u8 u9 u10 u11 u12 u13 : Value) : V14 ((((((((((((((w.setCell ⟨R,0,none⟩ u0).setCell ⟨R,1,none⟩ u1).setCell ⟨R,2,none⟩ u2).setCell ⟨R,3,none⟩ u3).setCell ⟨R,4,none⟩ u4).setCell ⟨R,5,none⟩ u5).setCell ⟨R,6,none⟩ u6).setCell ⟨R,7,none⟩ u7).setCell ⟨R,8,none⟩ u8).setCell ⟨R,9,none⟩ u9).setCell ⟨R,10,none⟩ u10).setCell ⟨R,11,none⟩ u11).setCell ⟨R,12,none⟩ u12).setCell ⟨R,13,none⟩ u13) R u0 u1 u2 u3 u4 u5 u6 u7 u8 u9 u10 u11 u12 u13 := by
 obtain ⟨c0,c1,c2,c3,c4,c5,c6,c7,c8,c9,c10,c11,c12,c13⟩ := h
 refine ⟨?_,?_,?_,?_,?_,?_,?_,?_,?_,?_,?_,?_,?_,?_⟩
 ·exact (cell_set_by (j := 13) (cell_set_by (j := 12) (cell_set_by (j := 11) (cell_set_by (j := 10) (cell_set_by (j := 9) (cell_set_by (j := 8) (cell_set_by (j := 7) (cell_set_by (j := 6) (cell_set_by (j := 5) (cell_set_by (j := 4) (cell_set_by (j := 3) (cell_set_by (j := 2) (cell_set_by (j := 1) (cell_set_at c0) (by omega)) (by omega)) (by omega)) (by omega)) (by omega)) (by omega)) (by omega)) (by omega)) (by omega)) (by omega)) (by omega)) (by omega)) (by omega))
 ·exact (cell_set_by (j := 13) (cell_set_by (j := 12) (cell_set_by (j := 11) (cell_set_by (j := 10) (cell_set_by (j := 9) (cell_set_by (j := 8) (cell_set_by (j := 7) (cell_set_by (j := 6) (cell_set_by (j := 5) (cell_set_by (j := 4) (cell_set_by (j := 3) (cell_set_by (j := 2) (cell_set_at (cell_set_by (j := 0) c1 (by omega))) (by omega)) (by omega)) (by omega)) (by omega)) (by omega)) (by omega)) (by omega)) (by omega)) (by omega)) (by omega)) (by omega)) (by omega))
 ·exact (cell_set_by (j := 13) (cell_set_by (j := 12) (cell_set_by (j := 11) (cell_set_by (j := 10) (cell_set_by (j := 9) (cell_set_by (j := 8) (cell_set_by (j := 7) (cell_set_by (j := 6) (cell_set_by (j := 5) (cell_set_by (j := 4) (cell_set_by (j := 3) (cell_set_at (cell_set_by (j := 1) (cell_set_by (j := 0) c2 (by omega)) (by omega))) (by omega)) (by omega)) (by omega)) (by omega)) (by omega)) (by omega)) (by omega)) (by omega)) (by omega)) (by omega)) (by omega))
 ·exact (cell_set_by (j := 13) (cell_set_by (j := 12) (cell_set_by (j := 11) (cell_set_by (j := 10) (cell_set_by (j := 9) (cell_set_by (j := 8) (cell_set_by (j := 7) (cell_set_by (j := 6) (cell_set_by (j := 5) (cell_set_by (j := 4) (cell_set_at (cell_set_by (j := 2) (cell_set_by (j := 1) (cell_set_by (j := 0) c3 (by omega)) (by omega)) (by omega))) (by omega)) (by omega)) (by omega)) (by omega)) (by omega)) (by omega)) (by omega)) (by omega)) (by omega)) (by omega))
 ·exact (cell_set_by (j := 13) (cell_set_by (j := 12) (cell_set_by (j := 11) (cell_set_by (j := 10) (cell_set_by (j := 9) (cell_set_by (j := 8) (cell_set_by (j := 7) (cell_set_by (j := 6) (cell_set_by (j := 5) (cell_set_at (cell_set_by (j := 3) (cell_set_by (j := 2) (cell_set_by (j := 1) (cell_set_by (j := 0) c4 (by omega)) (by omega)) (by omega)) (by omega))) (by omega)) (by omega)) (by omega)) (by omega)) (by omega)) (by omega)) (by omega)) (by omega)) (by omega))
 ·exact (cell_set_by (j := 13) (cell_set_by (j := 12) (cell_set_by (j := 11) (cell_set_by (j := 10) (cell_set_by (j := 9) (cell_set_by (j := 8) (cell_set_by (j := 7) (cell_set_by (j := 6) (cell_set_at (cell_set_by (j := 4) (cell_set_by (j := 3) (cell_set_by (j := 2) (cell_set_by (j := 1) (cell_set_by (j := 0) c5 (by omega)) (by omega)) (by omega)) (by omega)) (by omega))) (by omega)) (by omega)) (by omega)) (by omega)) (by omega)) (by omega)) (by omega)) (by omega))
 ·exact (cell_set_by (j := 13) (cell_set_by (j := 12) (cell_set_by (j := 11) (cell_set_by (j := 10) (cell_set_by (j := 9) (cell_set_by (j := 8) (cell_set_by (j := 7) (cell_set_at (cell_set_by (j := 5) (cell_set_by (j := 4) (cell_set_by (j := 3) (cell_set_by (j := 2) (cell_set_by (j := 1) (cell_set_by (j := 0) c6 (by omega)) (by omega)) (by omega)) (by omega)) (by omega)) (by omega))) (by omega)) (by omega)) (by omega)) (by omega)) (by omega)) (by omega)) (by omega))
 ·exact (cell_set_by (j := 13) (cell_set_by (j := 12) (cell_set_by (j := 11) (cell_set_by (j := 10) (cell_set_by (j := 9) (cell_set_by (j := 8) (cell_set_at (cell_set_by (j := 6) (cell_set_by (j := 5) (cell_set_by (j := 4) (cell_set_by (j := 3) (cell_set_by (j := 2) (cell_set_by (j := 1) (cell_set_by (j := 0) c7 (by omega)) (by omega)) (by omega)) (by omega)) (by omega)) (by omega)) (by omega))) (by omega)) (by omega)) (by omega)) (by omega)) (by omega)) (by omega))
 ·exact (cell_set_by (j := 13) (cell_set_by (j := 12) (cell_set_by (j := 11) (cell_set_by (j := 10) (cell_set_by (j := 9) (cell_set_at (cell_set_by (j := 7) (cell_set_by (j := 6) (cell_set_by (j := 5) (cell_set_by (j := 4) (cell_set_by (j := 3) (cell_set_by (j := 2) (cell_set_by (j := 1) (cell_set_by (j := 0) c8 (by omega)) (by omega)) (by omega)) (by omega)) (by omega)) (by omega)) (by omega)) (by omega))) (by omega)) (by omega)) (by omega)) (by omega)) (by omega))
 ·exact (cell_set_by (j := 13) (cell_set_by (j := 12) (cell_set_by (j := 11) (cell_set_by (j := 10) (cell_set_at (cell_set_by (j := 8) (cell_set_by (j := 7) (cell_set_by (j := 6) (cell_set_by (j := 5) (cell_set_by (j := 4) (cell_set_by (j := 3) (cell_set_by (j := 2) (cell_set_by (j := 1) (cell_set_by (j := 0) c9 (by omega)) (by omega)) (by omega)) (by omega)) (by omega)) (by omega)) (by omega)) (by omega)) (by omega))) (by omega)) (by omega)) (by omega)) (by omega))
 ·exact (cell_set_by (j := 13) (cell_set_by (j := 12) (cell_set_by (j := 11) (cell_set_at (cell_set_by (j := 9) (cell_set_by (j := 8) (cell_set_by (j := 7) (cell_set_by (j := 6) (cell_set_by (j := 5) (cell_set_by (j := 4) (cell_set_by (j := 3) (cell_set_by (j := 2) (cell_set_by (j := 1) (cell_set_by (j := 0) c10 (by omega)) (by omega)) (by omega)) (by omega)) (by omega)) (by omega)) (by omega)) (by omega)) (by omega)) (by omega))) (by omega)) (by omega)) (by omega))
 ·exact (cell_set_by (j := 13) (cell_set_by (j := 12) (cell_set_at (cell_set_by (j := 10) (cell_set_by (j := 9) (cell_set_by (j := 8) (cell_set_by (j := 7) (cell_set_by (j := 6) (cell_set_by (j := 5) (cell_set_by (j := 4) (cell_set_by (j := 3) (cell_set_by (j := 2) (cell_set_by (j := 1) (cell_set_by (j := 0) c11 (by omega)) (by omega)) (by omega)) (by omega)) (by omega)) (by omega)) (by omega)) (by omega)) (by omega)) (by omega)) (by omega))) (by omega)) (by omega))
 ·exact (cell_set_by (j := 13) (cell_set_at (cell_set_by (j := 11) (cell_set_by (j := 10) (cell_set_by (j := 9) (cell_set_by (j := 8) (cell_set_by (j := 7) (cell_set_by (j := 6) (cell_set_by (j := 5) (cell_set_by (j := 4) (cell_set_by (j := 3) (cell_set_by (j := 2) (cell_set_by (j := 1) (cell_set_by (j := 0) c12 (by omega)) (by omega)) (by omega)) (by omega)) (by omega)) (by omega)) (by omega)) (by omega)) (by omega)) (by omega)) (by omega)) (by omega))) (by omega))
 ·exact (cell_set_at (cell_set_by (j := 12) (cell_set_by (j := 11) (cell_set_by (j := 10) (cell_set_by (j := 9) (cell_set_by (j := 8) (cell_set_by (j := 7) (cell_set_by (j := 6) (cell_set_by (j := 5) (cell_set_by (j := 4) (cell_set_by (j := 3) (cell_set_by (j := 2) (cell_set_by (j := 1) (cell_set_by (j := 0) c13 (by omega)) (by omega)) (by omega)) (by omega)) (by omega)) (by omega)) (by omega)) (by omega)) (by omega)) (by omega)) (by omega)) (by omega)) (by omega)))
end Go.Proofs.YtbbliiafkjipbaaGreatDoor

namespace Go.Proofs.YtbbliiafkjipbaaGreatDoor
open Go.RowKit
set_option linter.unusedVariables false
theorem V14.set2 {w : World} {R : Nat} {x0 x1 x2 x3 x4 x5 x6 x7 x8 x9 x10 x11 x12 x13 : Value} (h : V14 w R x0 x1 x2 x3 x4 x5 x6 x7 x8 x9 x10 x11 x12 x13) (u0 u1 u2 : Value) : V14 (((w.setCell ⟨R,2,none⟩ u0).setCell ⟨R,3,none⟩ u1).setCell ⟨R,4,none⟩ u2) R x0 x1 u0 u1 u2 x5 x6 x7 x8 x9 x10 x11 x12 x13 := by
 constructor
 ·exact cell_set_by (cell_set_by (cell_set_by h.c0 (by omega)) (by omega)) (by omega)
 ·exact cell_set_by (cell_set_by (cell_set_by h.c1 (by omega)) (by omega)) (by omega)
 ·exact cell_set_by (cell_set_by (cell_set_at h.c2) (by omega)) (by omega)
 ·exact cell_set_by (cell_set_at (cell_set_by h.c3 (by omega))) (by omega)
 ·exact cell_set_at (cell_set_by (cell_set_by h.c4 (by omega)) (by omega))
 ·exact cell_set_by (cell_set_by (cell_set_by h.c5 (by omega)) (by omega)) (by omega)
 ·exact cell_set_by (cell_set_by (cell_set_by h.c6 (by omega)) (by omega)) (by omega)
 ·exact cell_set_by (cell_set_by (cell_set_by h.c7 (by omega)) (by omega)) (by omega)
 ·exact cell_set_by (cell_set_by (cell_set_by h.c8 (by omega)) (by omega)) (by omega)
 ·exact cell_set_by (cell_set_by (cell_set_by h.c9 (by omega)) (by omega)) (by omega)
 ·exact cell_set_by (cell_set_by (cell_set_by h.c10 (by omega)) (by omega)) (by omega)
 ·exact cell_set_by (cell_set_by (cell_set_by h.c11 (by omega)) (by omega)) (by omega)
 ·exact cell_set_by (cell_set_by (cell_set_by h.c12 (by omega)) (by omega)) (by omega)
 ·exact cell_set_by (cell_set_by (cell_set_by h.c13 (by omega)) (by omega)) (by omega)
theorem V14.keep2 {w : World} {R : Nat} {x0 x1 x2 x3 x4 x5 x6 x7 x8 x9 x10 x11 x12 x13 : Value} (h : V14 w R x0 x1 x2 x3 x4 x5 x6 x7 x8 x9 x10 x11 x12 x13) (h0 : ¬ IsLimb x2) (h1 : ¬ IsLimb x3) (h2 : ¬ IsLimb x4) (u0 u1 u2 : Value) : KeepQ IsLimb w (((w.setCell ⟨R,2,none⟩ u0).setCell ⟨R,3,none⟩ u1).setCell ⟨R,4,none⟩ u2) :=
 ((keepL_set h.c2 h0 u0).trans (keepL_set (cell_set_by h.c3 (by omega)) h1 u1)).trans (keepL_set (cell_set_by (cell_set_by h.c4 (by omega)) (by omega)) h2 u2)
theorem V14.set8 {w : World} {R : Nat} {x0 x1 x2 x3 x4 x5 x6 x7 x8 x9 x10 x11 x12 x13 : Value} (h : V14 w R x0 x1 x2 x3 x4 x5 x6 x7 x8 x9 x10 x11 x12 x13) (u0 u1 u2 : Value) : V14 (((w.setCell ⟨R,8,none⟩ u0).setCell ⟨R,9,none⟩ u1).setCell ⟨R,10,none⟩ u2) R x0 x1 x2 x3 x4 x5 x6 x7 u0 u1 u2 x11 x12 x13 := by
 constructor
 ·exact cell_set_by (cell_set_by (cell_set_by h.c0 (by omega)) (by omega)) (by omega)
 ·exact cell_set_by (cell_set_by (cell_set_by h.c1 (by omega)) (by omega)) (by omega)
 ·exact cell_set_by (cell_set_by (cell_set_by h.c2 (by omega)) (by omega)) (by omega)
 ·exact cell_set_by (cell_set_by (cell_set_by h.c3 (by omega)) (by omega)) (by omega)
 ·exact cell_set_by (cell_set_by (cell_set_by h.c4 (by omega)) (by omega)) (by omega)
 ·exact cell_set_by (cell_set_by (cell_set_by h.c5 (by omega)) (by omega)) (by omega)
 ·exact cell_set_by (cell_set_by (cell_set_by h.c6 (by omega)) (by omega)) (by omega)
 ·exact cell_set_by (cell_set_by (cell_set_by h.c7 (by omega)) (by omega)) (by omega)
 ·exact cell_set_by (cell_set_by (cell_set_at h.c8) (by omega)) (by omega)
 ·exact cell_set_by (cell_set_at (cell_set_by h.c9 (by omega))) (by omega)
 ·exact cell_set_at (cell_set_by (cell_set_by h.c10 (by omega)) (by omega))
 ·exact cell_set_by (cell_set_by (cell_set_by h.c11 (by omega)) (by omega)) (by omega)
 ·exact cell_set_by (cell_set_by (cell_set_by h.c12 (by omega)) (by omega)) (by omega)
 ·exact cell_set_by (cell_set_by (cell_set_by h.c13 (by omega)) (by omega)) (by omega)
theorem V14.keep8 {w : World} {R : Nat} {x0 x1 x2 x3 x4 x5 x6 x7 x8 x9 x10 x11 x12 x13 : Value} (h : V14 w R x0 x1 x2 x3 x4 x5 x6 x7 x8 x9 x10 x11 x12 x13) (h0 : ¬ IsLimb x8) (h1 : ¬ IsLimb x9) (h2 : ¬ IsLimb x10) (u0 u1 u2 : Value) : KeepQ IsLimb w (((w.setCell ⟨R,8,none⟩ u0).setCell ⟨R,9,none⟩ u1).setCell ⟨R,10,none⟩ u2) :=
 ((keepL_set h.c8 h0 u0).trans (keepL_set (cell_set_by h.c9 (by omega)) h1 u1)).trans (keepL_set (cell_set_by (cell_set_by h.c10 (by omega)) (by omega)) h2 u2)
theorem V14.set11 {w : World} {R : Nat} {x0 x1 x2 x3 x4 x5 x6 x7 x8 x9 x10 x11 x12 x13 : Value} (h : V14 w R x0 x1 x2 x3 x4 x5 x6 x7 x8 x9 x10 x11 x12 x13) (u0 u1 u2 : Value) : V14 (((w.setCell ⟨R,11,none⟩ u0).setCell ⟨R,12,none⟩ u1).setCell ⟨R,13,none⟩ u2) R x0 x1 x2 x3 x4 x5 x6 x7 x8 x9 x10 u0 u1 u2 := by
 constructor
 ·exact cell_set_by (cell_set_by (cell_set_by h.c0 (by omega)) (by omega)) (by omega)
 ·exact cell_set_by (cell_set_by (cell_set_by h.c1 (by omega)) (by omega)) (by omega)
 ·exact cell_set_by (cell_set_by (cell_set_by h.c2 (by omega)) (by omega)) (by omega)
 ·exact cell_set_by (cell_set_by (cell_set_by h.c3 (by omega)) (by omega)) (by omega)
 ·exact cell_set_by (cell_set_by (cell_set_by h.c4 (by omega)) (by omega)) (by omega)
 ·exact cell_set_by (cell_set_by (cell_set_by h.c5 (by omega)) (by omega)) (by omega)
 ·exact cell_set_by (cell_set_by (cell_set_by h.c6 (by omega)) (by omega)) (by omega)
 ·exact cell_set_by (cell_set_by (cell_set_by h.c7 (by omega)) (by omega)) (by omega)
 ·exact cell_set_by (cell_set_by (cell_set_by h.c8 (by omega)) (by omega)) (by omega)
 ·exact cell_set_by (cell_set_by (cell_set_by h.c9 (by omega)) (by omega)) (by omega)
 ·exact cell_set_by (cell_set_by (cell_set_by h.c10 (by omega)) (by omega)) (by omega)
 ·exact cell_set_by (cell_set_by (cell_set_at h.c11) (by omega)) (by omega)
 ·exact cell_set_by (cell_set_at (cell_set_by h.c12 (by omega))) (by omega)
 ·exact cell_set_at (cell_set_by (cell_set_by h.c13 (by omega)) (by omega))
theorem V14.keep11 {w : World} {R : Nat} {x0 x1 x2 x3 x4 x5 x6 x7 x8 x9 x10 x11 x12 x13 : Value} (h : V14 w R x0 x1 x2 x3 x4 x5 x6 x7 x8 x9 x10 x11 x12 x13) (h0 : ¬ IsLimb x11) (h1 : ¬ IsLimb x12) (h2 : ¬ IsLimb x13) (u0 u1 u2 : Value) : KeepQ IsLimb w (((w.setCell ⟨R,11,none⟩ u0).setCell ⟨R,12,none⟩ u1).setCell ⟨R,13,none⟩ u2) :=
 ((keepL_set h.c11 h0 u0).trans (keepL_set (cell_set_by h.c12 (by omega)) h1 u1)).trans (keepL_set (cell_set_by (cell_set_by h.c13 (by omega)) (by omega)) h2 u2)
theorem soft_set {w : World} {R : Nat} (h : ∀ j,w.frozen? ⟨R,j,none⟩ = false) (a : Addr) (u : Value) : ∀ j,(w.setCell a u).frozen? ⟨R,j,none⟩ = false := fun j => by simp [h j]
theorem soft_below {w w' : World} {R : Nat} (h : ∀ j,w.frozen? ⟨R,j,none⟩ = false) (hR : R < w.heap.size) (hb : Below w.heap.size w w') : ∀ j,w'.frozen? ⟨R,j,none⟩ = false := fun j => (hb.frozen (p := ⟨R,j,none⟩) hR).trans (h j)
theorem NOwn.apart {B : Nat} {w : World} {v : Value} {n : Nat} {t : Nat → Nd} {L : Nat} (h : NOwn B w v n t L) {a : Addr} (ha : ∀ g,v.ownBlock = some g → g ≠ a.block) (u : Value) (hk : KeepQ IsLimb w (w.setCell a u)) : NOwn B (w.setCell a u) v n t L := by
 refine h.kept (grown_at w a u) hk ?_
 cases e : v.ownBlock with
 | none => exact .inl rfl
 | some g => exact .inr (fun e2 => ha g e (by injection e2))
theorem NOwn.blocks {B : Nat} {w : World} {v : Value} {n : Nat} {t : Nat → Nd} {L : Nat} (h : NOwn B w v n t L) : ∀ g,v.ownBlock = some g → B ≤ g ∧ g < w.heap.size := by
 obtain ⟨cs,h1,_⟩ := h
 exact World.ownsRow.lt h1
theorem NOwn.apart2 {B : Nat} {w : World} {v : Value} {n : Nat} {t : Nat → Nd} {L R : Nat} (h : NOwn B w v n t L) (ha : ∀ g,v.ownBlock = some g → g ≠ R) {x2 x3 x4 : Value} (c2 : w.cell? ⟨R,2,none⟩ = some x2) (c3 : w.cell? ⟨R,3,none⟩ = some x3) (c4 : w.cell? ⟨R,4,none⟩ = some x4) (h0 : ¬ IsLimb x2) (h1 : ¬ IsLimb x3) (h2 : ¬ IsLimb x4) (u0 u1 u2 : Value) : NOwn B (((w.setCell ⟨R,2,none⟩ u0).setCell ⟨R,3,none⟩ u1).setCell ⟨R,4,none⟩ u2) v n t L :=
 ((h.apart (a := ⟨R,2,none⟩) ha u0 (keepL_set c2 h0 u0)).apart (a := ⟨R,3,none⟩) ha u1 (keepL_set (cell_set_by c3 (by omega)) h1 u1)).apart (a := ⟨R,4,none⟩) ha u2 (keepL_set (cell_set_by (cell_set_by c4 (by omega)) (by omega)) h2 u2)
theorem NOwn.apart8 {B : Nat} {w : World} {v : Value} {n : Nat} {t : Nat → Nd} {L R : Nat} (h : NOwn B w v n t L) (ha : ∀ g,v.ownBlock = some g → g ≠ R) {x2 x3 x4 : Value} (c2 : w.cell? ⟨R,8,none⟩ = some x2) (c3 : w.cell? ⟨R,9,none⟩ = some x3) (c4 : w.cell? ⟨R,10,none⟩ = some x4) (h0 : ¬ IsLimb x2) (h1 : ¬ IsLimb x3) (h2 : ¬ IsLimb x4) (u0 u1 u2 : Value) : NOwn B (((w.setCell ⟨R,8,none⟩ u0).setCell ⟨R,9,none⟩ u1).setCell ⟨R,10,none⟩ u2) v n t L :=
 ((h.apart (a := ⟨R,8,none⟩) ha u0 (keepL_set c2 h0 u0)).apart (a := ⟨R,9,none⟩) ha u1 (keepL_set (cell_set_by c3 (by omega)) h1 u1)).apart (a := ⟨R,10,none⟩) ha u2 (keepL_set (cell_set_by (cell_set_by c4 (by omega)) (by omega)) h2 u2)
theorem NOwn.apart11 {B : Nat} {w : World} {v : Value} {n : Nat} {t : Nat → Nd} {L R : Nat} (h : NOwn B w v n t L) (ha : ∀ g,v.ownBlock = some g → g ≠ R) {x2 x3 x4 : Value} (c2 : w.cell? ⟨R,11,none⟩ = some x2) (c3 : w.cell? ⟨R,12,none⟩ = some x3) (c4 : w.cell? ⟨R,13,none⟩ = some x4) (h0 : ¬ IsLimb x2) (h1 : ¬ IsLimb x3) (h2 : ¬ IsLimb x4) (u0 u1 u2 : Value) : NOwn B (((w.setCell ⟨R,11,none⟩ u0).setCell ⟨R,12,none⟩ u1).setCell ⟨R,13,none⟩ u2) v n t L :=
 ((h.apart (a := ⟨R,11,none⟩) ha u0 (keepL_set c2 h0 u0)).apart (a := ⟨R,12,none⟩) ha u1 (keepL_set (cell_set_by c3 (by omega)) h1 u1)).apart (a := ⟨R,13,none⟩) ha u2 (keepL_set (cell_set_by (cell_set_by c4 (by omega)) (by omega)) h2 u2)
theorem NOwn.parts {B : Nat} {w : World} {v : Value} {n : Nat} {t : Nat → Nd} {L : Nat} (h : NOwn B w v n t L) : ∃ cs : List Value,cs.length = n * 14 ∧ w.ownsRow B 48 14 v n cs ∧ (∀ g,v.ownBlock = some g → PureB IsLimb w g) ∧ ∀ i,i < n → NodeAt w (fun j => cs.getD (i * 14 + j) undef) (t i) L := by
 obtain ⟨cs,h1,h2,h3⟩ := h
 exact ⟨cs,h1.1,h1,h2,h3⟩
theorem MOwn.parts {B : Nat} {w : World} {v : Value} {k : Nat} {N : Nat → Nat} {T : Nat → Nat → Nd} {L : Nat} (h : MOwn B w v k N T L) : ∃ us : List Value,w.ownsRow B 22 1 v k us ∧ (∀ g,v.ownBlock = some g → PureB IsLimb w g) := by
 obtain ⟨us,h1,h2,_⟩ := h
 exact ⟨us,h1,h2⟩
theorem MOwn.blocks {B : Nat} {w : World} {v : Value} {k : Nat} {N : Nat → Nat} {T : Nat → Nat → Nd} {L : Nat} (h : MOwn B w v k N T L) : ∀ g,v.ownBlock = some g → B ≤ g ∧ g < w.heap.size := by
 obtain ⟨cs,h1,_⟩ := h
 exact World.ownsRow.lt h1
theorem MOwn.more1 {B : Nat} {w w' : World} {v v' y : Value} {k : Nat} {N : Nat → Nat} {T : Nat → Nat → Nd} {L : Nat} {us : List Value} (h : MOwn B w v k N T L) (hu : w.ownsRow B 22 1 v k us) (hy : NOwn B w y (N k) (T k) L) (h1 : w'.ownsRow B 22 1 v' (k + 1) (us ++ [y])) (hg : w.grownBy w' v.ownBlock) (hp : ∀ g,v'.ownBlock = some g → PureB IsLimb w' g) (hk : KeepQ IsLimb w w') : MOwn B w' v' (k + 1) N T L := by
 refine h.more hy (fun us2 h2 => ?_) hg hp hk
 have : us2 = us := by
  rcases hu.2 with ⟨rfl,rfl⟩ | ⟨g,c,cur,rfl,_,hgg,_,_,_,ht⟩
  ·have a9 : us2 = [] := by simpa using h2.1
   have b9 : us = [] := by simpa using hu.1
   rw [a9,b9]
  ·rcases h2.2 with ⟨h3,_⟩ | ⟨g',c',cur',h3,_,hgg',_,_,_,ht'⟩
   ·cases h3
   ·cases h3
    rw [hgg] at hgg'
    cases hgg'
    rw [← ht,← ht']
 rw [this]
 exact h1
theorem MOwn.le {B B' : Nat} {w : World} {v : Value} {k : Nat} {N : Nat → Nat} {T : Nat → Nat → Nd} {L : Nat} (h : MOwn B w v k N T L) (hb : B' ≤ B) : MOwn B' w v k N T L := by
 obtain ⟨us,h1,h2,h3⟩ := h
 exact ⟨us,owns_le h1 hb,h2,fun i hi => let ⟨u,a,b⟩ := h3 i hi; ⟨u,a,b.le hb⟩⟩
theorem MOwn.below {B : Nat} {w w' : World} {v : Value} {k : Nat} {N : Nat → Nat} {T : Nat → Nat → Nd} {L : Nat} (h : MOwn B w v k N T L) (hb : Below w.heap.size w w') : MOwn B w' v k N T L := h.later hb
end Go.Proofs.YtbbliiafkjipbaaGreatDoor

namespace Go.Proofs.YtbbliiafkjipbaaGreatDoor
open Go.RowKit
set_option linter.unusedVariables false
set_option linter.unusedSimpArgs false
structure Blk10 (w : World) (g : Nat) (vs : Array Value) (t : TypeId) : Prop where
 heap : w.heap[g]? = some (.cells vs t (0,0))
theorem Blk10.lt {w : World} {g : Nat} {vs : Array Value} {t : TypeId} (h : Blk10 w g vs t) : g < w.heap.size := by
 by_cases e : g < w.heap.size
 ·exact e
 ·have := h.heap
  rw [Array.getElem?_eq_none (by omega)] at this
  cases this
theorem Blk10.below {w w' : World} {g : Nat} {vs : Array Value} {t : TypeId} (h : Blk10 w g vs t) (hb : Below w.heap.size w w') : Blk10 w' g vs t := ⟨(hb.block g h.lt).trans h.heap⟩
theorem Blk10.new (w : World) (vs : Array Value) (t : TypeId) : Blk10 (w.alloc (.cells vs t)) w.heap.size vs t := ⟨heap_alloc_new w _⟩
theorem Blk10.cell {w : World} {g : Nat} {vs : Array Value} {t : TypeId} (h : Blk10 w g vs t) (j : Nat) : w.cell? ⟨g,j,none⟩ = vs[j]? := cell_of_row w g j vs t _ h.heap
theorem Blk10.keep {w : World} {g : Nat} {vs : Array Value} {t : TypeId} (h : Blk10 w g vs t) (hn : ∀ v ∈ vs.toList,¬ IsLimb v) (us : Array Value) : KeepQ IsLimb w (w.setRow g us) := fun b o v hv hc => by
 by_cases e : b = g
 ·subst e
  rw [h.cell] at hc
  exact absurd hv (hn v (Array.mem_toList_iff.2 (Array.mem_of_getElem? hc)))
 ·exact (World.cell?_of_block (w := w) (setRow_other w g b _ e)).trans hc
theorem Blk10.other {w : World} {g g' : Nat} {vs us : Array Value} {t : TypeId} (h : Blk10 w g vs t) (hne : g ≠ g') : Blk10 (w.setRow g' us) g vs t := ⟨(setRow_other w g' g _ hne).trans h.heap⟩
theorem Blk10.v4 {w : World} {g : Nat} {x0 x1 x2 x3 : Value} {t : TypeId} (h : Blk10 w g #[x0,x1,x2,x3] t) : w.cell? ⟨g,0,none⟩ = some x0 ∧ w.cell? ⟨g,1,none⟩ = some x1 ∧ w.cell? ⟨g,2,none⟩ = some x2 ∧ w.cell? ⟨g,3,none⟩ = some x3 :=
 ⟨h.cell 0,h.cell 1,h.cell 2,h.cell 3⟩

theorem step_store_new {P : Program} {ops : Array Oper} {o : Oper} {a : Act} {w : World} {K : Act → World → Prop} {Q : Exit → Act → World → Prop} {E : Prop} (hgd : o.guard = none) (t : TypeId) (x y : Operand) (ho : o.op = .store t x y) (i0 : TypeInfo) (hi : P.info? t = some i0) (g : Nat) (hx : a.eval x = .pointer (some ⟨g,0,none⟩)) (vs : Array Value) (hy : a.eval y = .agg vs)
  (cur : Array Value) (t' : TypeId) (hg : w.heap[g]? = some (.cells cur t' (0,0))) (hl : vs.size = cur.size) (hs : i0.size = vs.size) (h1 : ∀ v ∈ vs.toList,v.oneCell' = true)
  (h : K (a.put o.dst undef) (w.setRow g vs)) :
  if Region.wanted o (yielded ops a.tmps) = true then Oper.wp P o a w K Q else E := by
 have hw : Region.wanted o (yielded ops a.tmps) = true := by simp [Region.wanted,hgd]
 rw [if_pos hw]
 have hst := run_storeCells_at (P := P) g 0 t' vs.toList 0 cur w hg (by simp [hl]) h1
 have e9 : (List.take (0 + 0) cur.toList ++ vs.toList ++ List.drop (0 + 0 + vs.toList.length) cur.toList).toArray = vs := by
  rw [List.drop_eq_nil_of_le (by simp [hl])]
  simp
 rw [e9] at hst
 unfold Oper.wp execOp
 simp [ho,hx,hy,Instr.storeAt,Instr.sureAddr,storeVar,sizeOf,typeInfo,hi,hs,hst,Result.andThen,Value.cells]
 exact h
theorem alloc_setRow (w : World) (a b : Array Value) (t : TypeId) : (w.alloc (.cells a t)).setRow w.heap.size b = w.alloc (.cells b t) := by
 have e : ((w.heap.push (.cells a t)).modify w.heap.size fun | .cells _ elem frozen => .cells b elem frozen | o => o) = w.heap.push (.cells b t) := by
  apply Array.ext
  ·simp
  ·intro i h1 h2
   rw [Array.getElem_modify]
   by_cases c : w.heap.size = i
   ·subst c; simp
   ·rw [if_neg c]
    simp at h1
    rw [Array.getElem_push_lt (by omega),Array.getElem_push_lt (by omega)]
 show ({ (w.alloc (.cells a t)) with heap := _ } : World) = _
 unfold World.alloc
 simp only
 congr 1
def GArr (w : World) (g n : Nat) (q : Nat → Rat) (L : Nat) : Prop := ∃ el,Arr3 w g n el ∧ ∀ j,j < n → RatAt w (elv el j) (q j) L
theorem GArr.below {w w' : World} {g n : Nat} {q : Nat → Rat} {L : Nat} (h : GArr w g n q L) (hb : Below w.heap.size w w') : GArr w' g n q L := let ⟨el,a,b⟩ := h; ⟨el,a.below hb,fun j hj => (b j hj).below hb⟩
theorem GArr.put {w : World} {g n i : Nat} {q : Nat → Rat} {L : Nat} (h : GArr w g n q L) (hi : i < n) {p : Bool} {a b : Option Addr} {n1 c m d : Nat} {x : Rat} (hr : RatAt w (.agg #[.bool p,.slice a n1 c,.slice b m d]) x L) : ∃ u0 u1 u2,w.cell? ⟨g,i * 3,none⟩ = some u0 ∧ w.cell? ⟨g,i * 3 + 1,none⟩ = some u1 ∧ w.cell? ⟨g,i * 3 + 2,none⟩ = some u2 ∧ w.frozen? ⟨g,i * 3,none⟩ = false ∧ w.frozen? ⟨g,i * 3 + 1,none⟩ = false ∧ w.frozen? ⟨g,i * 3 + 2,none⟩ = false ∧
  GArr (((w.setCell ⟨g,i * 3,none⟩ (.bool p)).setCell ⟨g,i * 3 + 1,none⟩ (.slice a n1 c)).setCell ⟨g,i * 3 + 2,none⟩ (.slice b m d)) g n (fun j => if j = i then x else q j) L ∧
  KeepQ IsNum w (((w.setCell ⟨g,i * 3,none⟩ (.bool p)).setCell ⟨g,i * 3 + 1,none⟩ (.slice a n1 c)).setCell ⟨g,i * 3 + 2,none⟩ (.slice b m d)) := by
 obtain ⟨el,A,R⟩ := h
 obtain ⟨A2,K2⟩ := A.set i hi (.bool p) (.slice a n1 c) (.slice b m d) (num_bool _) (num_slice _ _ _) (num_slice _ _ _)
 refine ⟨_,_,_,A.1 i hi 0 (by omega),A.1 i hi 1 (by omega),A.1 i hi 2 (by omega),A.2.1 i hi 0 (by omega),A.2.1 i hi 1 (by omega),A.2.1 i hi 2 (by omega),⟨_,A2,fun j hj => ?_⟩,K2⟩
 by_cases e : j = i
 ·subst e
  have := hr.keep K2
  show RatAt _ _ (if j = j then x else q j) L
  rw [if_pos rfl]
  simpa [elv,upd3] using this
 ·have := (R j hj).keep K2
  show RatAt _ _ (if j = i then x else q j) L
  rw [if_neg e]
  simp only [elv,upd3_other el i j _ _ _ e] at *
  exact this
theorem GArr.made {w : World} {B g n cap : Nat} {e : TypeId} (h : w.ownsRow B e 3 (.slice (some ⟨g,0,none⟩) n cap) n (madeCells (Value.agg #[.bool false,.slice none 0 0,.slice none 0 0]).cells (n * 3)).toList) (L : Nat) : GArr w g n (fun _ => 0) L :=
 ⟨_,arr3_made h,fun j _ => RatAt.nil w L⟩
theorem GArr.at {w : World} {g n : Nat} {q : Nat → Rat} {L : Nat} (h : GArr w g n q L) {i : Nat} (hi : i < n) : ∃ p ao m d bo k e,w.cell? ⟨g,i * 3,none⟩ = some (.bool p) ∧ w.cell? ⟨g,i * 3 + 1,none⟩ = some (.slice ao m d) ∧ w.cell? ⟨g,i * 3 + 2,none⟩ = some (.slice bo k e) ∧ RatAt w (.agg #[.bool p,.slice ao m d,.slice bo k e]) (q i) L := by
 obtain ⟨el,A,R⟩ := h
 have hr := R i hi
 obtain ⟨p,ao,m,d,bo,k,e,he⟩ := hr.open
 have h0 := A.1 i hi 0 (by omega)
 have h1 := A.1 i hi 1 (by omega)
 have h2 := A.1 i hi 2 (by omega)
 unfold elv at he hr
 simp only [Value.agg.injEq,Array.mk.injEq,List.cons.injEq,and_true] at he
 obtain ⟨e0,e1,e2⟩ := he
 rw [e0] at h0
 rw [e1] at h1
 rw [e2] at h2
 rw [e0,e1,e2] at hr
 exact ⟨p,ao,m,d,bo,k,e,h0,h1,h2,hr⟩
theorem GArr.lt {w : World} {g n : Nat} {q : Nat → Rat} {L : Nat} (h : GArr w g n q L) (hn : 0 < n) : g < w.heap.size := let ⟨el,a,b⟩ := h; a.lt hn
theorem GArr.row {w : World} {g n : Nat} {q : Nat → Rat} {L : Nat} (h : GArr w g n q L) (hn : n ≤ 1000000) : QRow w (.slice (some ⟨g,0,none⟩) n n) n q L :=
 let ⟨el,a,b⟩ := h; ⟨el,a.row n n (Nat.le_refl _) (Nat.le_refl _) (by omega),b⟩
theorem GArr.sz {w : World} {g n : Nat} {q : Nat → Rat} {L : Nat} (h : GArr w g n q L) (hL : 1 ≤ L) {i : Nat} (hi : i < n) : qsz (q i) ≤ L := let ⟨el,a,b⟩ := h; (b i hi).qsz hL
theorem RatAt.small {w : World} {v : Value} {q : Rat} {L : Nat} (h : RatAt w v q L) {M : Nat} (hM : L ≤ M) : RatAt w v q M := h.le hM
theorem GArr.congr {w : World} {g n : Nat} {q q' : Nat → Rat} {L : Nat} (h : GArr w g n q L) (e : ∀ i,i < n → q i = q' i) : GArr w g n q' L := let ⟨el,a,b⟩ := h; ⟨el,a,fun j hj => e j hj ▸ b j hj⟩

def badF (t : Nat → Nd) (i : Nat) : Bool := !(decide (0 ≤ (t i).feat ∧ (t i).feat ≤ 64) && decide (0 ≤ (t i).left ∧ (t i).left ≤ 255) && decide (0 ≤ (t i).right ∧ (t i).right ≤ 255))
def tfit (t : Nat → Nd) (n : Nat) : Bool := decide (1 ≤ n ∧ n ≤ 255) && (fb (badF t) n).isNone
def mfit (F : Int) (k : Nat) (N : Nat → Nat) (T : Nat → Nat → Nd) : Bool := decide (0 ≤ F ∧ F ≤ 64) && decide (k ≤ 64) && (fb (fun i => !tfit (T i) (N i)) k).isNone
theorem tfit_no {t : Nat → Nd} {n i : Nat} (hi : i < n) (h : ∀ j,j < i → badF t j = false) (hp : badF t i = true) : tfit t n = false := by
 unfold tfit
 rw [fb_some hi h hp]
 simp
theorem tfit_yes {t : Nat → Nd} {n : Nat} (hn : 1 ≤ n ∧ n ≤ 255) (h : ∀ j,j < n → badF t j = false) : tfit t n = true := by
 unfold tfit
 rw [fb_none h,decide_eq_true hn]
 rfl
theorem tfit_len {t : Nat → Nd} {n : Nat} (hn : ¬ (1 ≤ n ∧ n ≤ 255)) : tfit t n = false := by
 unfold tfit
 rw [decide_eq_false hn]
 rfl
theorem mfit_no {F : Int} {k : Nat} {N : Nat → Nat} {T : Nat → Nat → Nd} {i : Nat} (hi : i < k) (h : ∀ j,j < i → tfit (T j) (N j) = true) (hp : tfit (T i) (N i) = false) : mfit F k N T = false := by
 unfold mfit
 rw [fb_some (p := fun i => !tfit (T i) (N i)) hi (fun j hj => by simp [h j hj]) (by simp [hp])]
 simp
theorem mfit_yes {F : Int} {k : Nat} {N : Nat → Nat} {T : Nat → Nat → Nd} (hF : 0 ≤ F ∧ F ≤ 64) (hk : k ≤ 64) (h : ∀ j,j < k → tfit (T j) (N j) = true) : mfit F k N T = true := by
 unfold mfit
 rw [fb_none (p := fun i => !tfit (T i) (N i)) (fun j hj => by simp [h j hj]),decide_eq_true hF,decide_eq_true hk]
 rfl
theorem mfit_is {F : Int} {k : Nat} {N : Nat → Nat} {T : Nat → Nat → Nd} (h : mfit F k N T = true) : 0 ≤ F ∧ F ≤ 64 ∧ k ≤ 64 ∧ ∀ i,i < k → 1 ≤ N i ∧ N i ≤ 255 := by
 unfold mfit at h
 simp only [Bool.and_eq_true,decide_eq_true_eq] at h
 refine ⟨h.1.1.1,h.1.1.2,h.1.2,fun i hi => ?_⟩
 have := fb_is (p := fun i => !tfit (T i) (N i)) (n := k) (by cases e : fb (fun i => !tfit (T i) (N i)) k with | none => rfl | some j => rw [e] at h; simp at h) i hi
 simp at this
 unfold tfit at this
 simp only [Bool.and_eq_true,decide_eq_true_eq] at this
 exact this.1
set_option maxRecDepth 100000 in
set_option maxHeartbeats 8000000 in
theorem treeFits_at (v : Value) (n : Nat) (t : Nat → Nd) (L : Nat) (w : World) (hv : TRow w v n t L) :
  Calls Tryz.prog 117 #[v] w fun e w' => e = .returned (.bool (tfit t n)) ∧ Below w.heap.size w w' := by
 obtain ⟨ao,c,rfl,hnc,hc63⟩ := hv.open
 have BB : Below w.heap.size w w := Below.refl _ _
 go_enter Tryz.func117,Tryz.ntmps117
 go_wp2_with fail
 refine (within_at _ _ _ _).mono ?_
 rintro e wx ⟨rfl,hwx⟩
 replace hwx := hwx.symm
 subst hwx
 by_cases hn : 1 ≤ n ∧ n ≤ 255
 ·have hni : (1 : Int) ≤ (n : Int) ∧ (n : Int) ≤ 255 := by omega
  rw [decide_eq_true hni]
  go_wp2
  go_loopw [11] (fun vi wr => ∃ i : Nat,i ≤ n ∧ vi = .int .i64 (i : Int) ∧ Hid (∀ j,j < i → badF t j = false) ∧ Below w.heap.size w wr) (fun vi _ => n - (intOf vi).toNat)
  case atStart => exact ⟨0,by omega,rfl,fun j hj => by omega,BB⟩
  case round =>
   clear BB
   obtain ⟨i,hi,rfl,HB,BB⟩ := hrel
   by_cases hlt : i < n
   ·have g1 : (i : Int) < (n : Int) := by omega
    have g0 : (0 : Int) ≤ (i : Int) := by omega
    have hv1 := hv.below BB
    obtain ⟨b,off,cc,p1,a1,n1,c1,b1,m1,d1,p2,a2,n2,c2,b2,m2,d2,p3,a3,n3,c3,b3,m3,d3,hvv,hcc,hc6,NN,r1,r2,r3,i1,i2,i3⟩ := hv1.at hlt
    cases hvv
    clear hv1
    obtain ⟨N_0,N_1,N_2,N_3,N_4,N_5,N_6,N_7,N_8,N_9,N_10,N_11,N_12,N_13⟩ := id NN
    obtain ⟨W1,hW1,hS1,hL1,VN,FN⟩ := V14.lay wr 48 (.bool (t i).leaf) (.int .i64 (t i).feat) (.bool p1) (.slice a1 n1 c1) (.slice b1 m1 d1) (.int .i64 (t i).left) (.int .i64 (t i).right) (.bool (t i).miss) (.bool p2) (.slice a2 n2 c2) (.slice b2 m2 d2) (.bool p3) (.slice a3 n3 c3) (.slice b3 m3 d3)
    replace BB := BB.xm hL1
    clear hL1
    obtain ⟨V_0,V_1,V_2,V_3,V_4,V_5,V_6,V_7,V_8,V_9,V_10,V_11,V_12,V_13⟩ := id VN
    rw [hW1] at V_0 V_1 V_2 V_3 V_4 V_5 V_6 V_7 V_8 V_9 V_10 V_11 V_12 V_13
    go_wp2_with fail
    clear V_0 V_1 V_2 V_3 V_4 V_5 V_6 V_7 V_8 V_9 V_10 V_11 V_12 V_13
    clear N_0 N_1 N_2 N_3 N_4 N_5 N_6 N_7 N_8 N_9 N_10 N_11 N_12 N_13
    rw [← hW1]
    generalize wr.heap.size = R1 at *
    clear hW1 hS1
    refine (within_at _ _ _ _).mono ?_
    rintro e wx ⟨rfl,hwx⟩
    replace hwx := hwx.symm
    subst hwx
    have HP : Hid (badF t i = !(decide (0 ≤ (t i).feat ∧ (t i).feat ≤ 64) && decide (0 ≤ (t i).left ∧ (t i).left ≤ 255) && decide (0 ≤ (t i).right ∧ (t i).right ≤ 255))) := rfl
    by_cases h1 : 0 ≤ (t i).feat ∧ (t i).feat ≤ 64
    ·rw [decide_eq_true h1]
     obtain ⟨V_0,V_1,V_2,V_3,V_4,V_5,V_6,V_7,V_8,V_9,V_10,V_11,V_12,V_13⟩ := id VN
     go_wp2_with fail
     clear V_0 V_1 V_2 V_3 V_4 V_5 V_6 V_7 V_8 V_9 V_10 V_11 V_12 V_13
     refine (within_at _ _ _ _).mono ?_
     rintro e wx ⟨rfl,hwx⟩
     replace hwx := hwx.symm
     subst hwx
     by_cases h2 : 0 ≤ (t i).left ∧ (t i).left ≤ 255
     ·rw [decide_eq_true h2]
      obtain ⟨V_0,V_1,V_2,V_3,V_4,V_5,V_6,V_7,V_8,V_9,V_10,V_11,V_12,V_13⟩ := id VN
      go_wp2_with fail
      clear V_0 V_1 V_2 V_3 V_4 V_5 V_6 V_7 V_8 V_9 V_10 V_11 V_12 V_13
      refine (within_at _ _ _ _).mono ?_
      rintro e wx ⟨rfl,hwx⟩
      replace hwx := hwx.symm
      subst hwx
      by_cases h3 : 0 ≤ (t i).right ∧ (t i).right ≤ 255
      ·rw [decide_eq_true h3]
       have HB2 : Hid (∀ j,j < i + 1 → badF t j = false) := fun j hj => by
        by_cases e : j = i
        ·subst e; rw [HP.out]; simp [h1,h2,h3]
        ·exact HB.out j (by omega)
       clear HB HP
       go_wp2
       go_roundw
       case rel => exact ⟨i + 1,by omega,by go_num,HB2,BB⟩
       case measure => simp [intOf]; omega
      ·rw [decide_eq_false h3]
       go_wp2
       go_ret
       exact ⟨ret_bool (a := false) (tfit_no hlt HB.out (by rw [HP.out,decide_eq_false h3]; simp)).symm,BB⟩
     ·rw [decide_eq_false h2]
      go_wp2
      go_ret
      exact ⟨ret_bool (a := false) (tfit_no hlt HB.out (by rw [HP.out,decide_eq_false h2]; simp)).symm,BB⟩
    ·rw [decide_eq_false h1]
     go_wp2
     go_ret
     exact ⟨ret_bool (a := false) (tfit_no hlt HB.out (by rw [HP.out,decide_eq_false h1]; simp)).symm,BB⟩
   ·obtain rfl : i = n := by omega
    have g1 : ¬ (i : Int) < (i : Int) := by omega
    go_wp2
    go_ret
    exact ⟨ret_bool (a := true) (tfit_yes hn HB.out).symm,BB⟩
 ·have hni : ¬ ((1 : Int) ≤ (n : Int) ∧ (n : Int) ≤ 255) := by omega
  rw [decide_eq_false hni]
  go_wp2
  go_ret
  exact ⟨ret_bool (a := false) (tfit_len hn).symm,BB⟩
set_option maxRecDepth 100000 in
set_option maxHeartbeats 8000000 in
theorem fits_at (F : Int) (v : Value) (k : Nat) (N : Nat → Nat) (T : Nat → Nat → Nd) (L : Nat) (w : World) (hv : MRow w v k N T L) :
  Calls Tryz.prog 85 #[.agg #[.int .i64 F,v]] w fun e w' => e = .returned (.bool (mfit F k N T)) ∧ Below w.heap.size w w' := by
 obtain ⟨ao,c,rfl,hnc,hc63⟩ := hv.open
 have BB : Below w.heap.size w w := Below.refl _ _
 obtain ⟨Wb0,hW0,hS0,hL0,VM⟩ := V2.lay w 27 (.int .i64 F) (.slice ao k c)
 replace hv := hv.below hL0
 replace BB := BB.xm hL0
 clear hL0
 go_enter Tryz.func85,Tryz.ntmps85
 go_wp2_with fail
 rw [← hW0]
 clear hW0 hS0
 have hv0 := hv
 clear hv
 obtain ⟨VM_0,VM_1,VM_2,VM_3⟩ := id VM
 refine (within_at _ _ _ _).mono ?_
 rintro e wx ⟨rfl,hwx⟩
 replace hwx := hwx.symm
 subst hwx
 by_cases hF : 0 ≤ F ∧ F ≤ 64
 ·rw [decide_eq_true hF]
  go_wp2_with fail
  refine (within_at _ _ _ _).mono ?_
  rintro e wx ⟨rfl,hwx⟩
  replace hwx := hwx.symm
  subst hwx
  by_cases hk : k ≤ 64
  ·have hki : (0 : Int) ≤ (k : Int) ∧ (k : Int) ≤ 64 := by omega
   rw [decide_eq_true hki]
   go_wp2
   clear VM_0 VM_1 VM_2 VM_3
   go_loopw [19] (fun vi wr => ∃ i : Nat,i ≤ k ∧ vi = .int .i64 (i : Int) ∧ Hid (∀ j,j < i → tfit (T j) (N j) = true) ∧ Below Wb0.heap.size Wb0 wr) (fun vi _ => k - (intOf vi).toNat)
   case atStart => exact ⟨0,by omega,rfl,fun j hj => by omega,Below.refl _ _⟩
   case round =>
    obtain ⟨i,hi,rfl,HB,BL⟩ := hrel
    by_cases hlt : i < k
    ·have g1 : (i : Int) < (k : Int) := by omega
     have g0 : (0 : Int) ≤ (i : Int) := by omega
     obtain ⟨b,off,cc,a,d,hvv,hcc,XC,TR⟩ := (hv0.below BL).at hlt
     cases hvv
     go_wp2_with fail
     refine (treeFits_at _ (N i) (T i) L _ TR).mono ?_
     rintro e w1 ⟨rfl,b1⟩
     replace BL := BL.trans (b1.mono BL.size)
     clear b1 XC
     obtain ⟨fi,hfi⟩ : ∃ fi,tfit (T i) (N i) = fi := ⟨_,rfl⟩
     have HFI : Hid (tfit (T i) (N i) = fi) := hfi
     rw [hfi]
     clear hfi
     cases fi
     ·go_wp2
      go_ret
      exact ⟨ret_bool (a := false) (mfit_no hlt HB.out HFI.out).symm,BB.trans (BL.mono BB.size)⟩
     ·have HB2 : Hid (∀ j,j < i + 1 → tfit (T j) (N j) = true) := fun j hj => by
       by_cases e : j = i
       ·subst e; exact HFI.out
       ·exact HB.out j (by omega)
      clear HB HFI
      go_wp2
      go_roundw
      case rel => exact ⟨i + 1,by omega,by go_num,HB2,BL⟩
      case measure => simp [intOf]; omega
    ·obtain rfl : i = k := by omega
     have g1 : ¬ (i : Int) < (i : Int) := by omega
     go_wp2
     go_ret
     exact ⟨ret_bool (a := true) (mfit_yes hF hk HB.out).symm,BB.trans (BL.mono BB.size)⟩
  ·have hki : ¬ ((0 : Int) ≤ (k : Int) ∧ (k : Int) ≤ 64) := by omega
   rw [decide_eq_false hki]
   go_wp2
   go_ret
   exact ⟨ret_bool (a := false) (by unfold mfit; rw [decide_eq_false hk]; simp),BB⟩
 ·rw [decide_eq_false hF]
  go_wp2
  go_ret
  exact ⟨ret_bool (a := false) (by unfold mfit; rw [decide_eq_false hF]; simp),BB⟩

def nfV (p : Nat → Bool) (n : Nat) (e : Int) : Value := fltV ((fb p n).map (fun i => (e,0,i)))
def rlV (F : Int) (t : Nat → Nd) (n r : Nat) : Value := fltV ((rl F t n r).map (fun x => (x.1,0,x.2)))
theorem nfV_some {p : Nat → Bool} {n i : Nat} {e : Int} (hi : i < n) (h : ∀ j,j < i → p j = false) (hp : p i = true) : nfV p n e = .agg #[.int .i64 e,.int .i64 0,.int .i64 0,.int .i64 (i : Int)] := by
 unfold nfV
 rw [fb_some hi h hp]
 rfl
theorem nfV_none {p : Nat → Bool} {n : Nat} {e : Int} (h : ∀ j,j < n → p j = false) : nfV p n e = .agg #[.int .i64 0,.int .i64 0,.int .i64 0,.int .i64 0] := by
 unfold nfV
 rw [fb_none h]
 rfl
theorem nfV_congr {p q : Nat → Bool} {n : Nat} {e : Int} (h : ∀ j,j < n → p j = q j) : nfV p n e = nfV q n e := by
 unfold nfV
 rw [fb_congr h]
theorem rlV0 (F : Int) (t : Nat → Nd) (n : Nat) : rlV F t n 0 = nfV (bad0 F t n) n 8 := by
 unfold rlV nfV
 show fltV ((Option.map (fun i => ((8 : Int),i)) (fb (bad0 F t n) n)).map _) = _
 rw [Option.map_map]
 rfl
theorem rlV2 (F : Int) (t : Nat → Nd) (n : Nat) : rlV F t n 2 = nfV (bad3 t) n 12 := by
 unfold rlV nfV
 show fltV ((Option.map (fun i => ((12 : Int),i)) (fb (bad3 t) n)).map _) = _
 rw [Option.map_map]
 rfl
theorem rlV3 (F : Int) (t : Nat → Nd) (n : Nat) : rlV F t n 3 = nfV (bad4 t) n 13 := by
 unfold rlV nfV
 show fltV ((Option.map (fun i => ((13 : Int),i)) (fb (bad4 t) n)).map _) = _
 rw [Option.map_map]
 rfl
theorem rlV1 (F : Int) (t : Nat → Nd) (n : Nat) : rlV F t n 1 = match fb (bad1 t n) n with
  | some _ => nfV (bad1 t n) n 11
  | none => nfV (bad2 t n) n 11 := by
 unfold rlV nfV
 show fltV ((Option.map (fun i => ((11 : Int),i)) ((fb (bad1 t n) n).or (fb (bad2 t n) n))).map _) = _
 rw [Option.map_map]
 cases e : fb (bad1 t n) n with
 | none => rfl
 | some i => rfl
def bad5 (f : Nat) (z : Nat → Int) (i : Nat) : Bool := decide (f ≤ i) && decide (z i ≠ 1)
set_option maxRecDepth 100000 in
set_option maxHeartbeats 8000000 in
theorem hasCovers_at (v : Value) (n : Nat) (t : Nat → Nd) (F : Int) (L : Nat) (w : World) (hv : TRow w v n t L) (hL : 1 ≤ L) (hLM : L ≤ 100000) :
  Calls Tryz.prog 120 #[v,.int .i64 F] w fun e w' => e = .returned (rlV F t n 2) ∧ Below w.heap.size w w' := by
 obtain ⟨ao,c,rfl,hnc,hc63⟩ := hv.open
 have BB : Below w.heap.size w w := Below.refl _ _
 obtain ⟨Wb0,hW0,hS0,hL0,VR⟩ := V4.lay w 102 (.int .i64 0) (.int .i64 0) (.int .i64 0) (.int .i64 0)
 replace hv := hv.below hL0
 replace BB := BB.xm hL0
 clear hL0
 go_enter Tryz.func120,Tryz.ntmps120
 go_wp2
 rw [← hW0]
 clear hW0 hS0
 have hv0 := hv
 have VR0 := VR
 have BB0 : Hid (Below w.heap.size w Wb0) := BB
 clear hv VR BB
 go_loopw [9] (fun vi wr => ∃ i : Nat,i ≤ n ∧ vi = .int .i64 (i : Int) ∧ Hid (∀ j,j < i → bad3 t j = false) ∧ Below Wb0.heap.size Wb0 wr) (fun vi _ => n - (intOf vi).toNat)
 case atStart => exact ⟨0,by omega,rfl,fun j hj => by omega,Below.refl _ _⟩
 case round =>
  obtain ⟨i,hi,rfl,HB,BL⟩ := hrel
  have VR := VR0.below BL
  have BB := BB0.out.trans (BL.mono BB0.out.size)
  by_cases hlt : i < n
  ·have g1 : (i : Int) < (n : Int) := by omega
   have g0 : (0 : Int) ≤ (i : Int) := by omega
   have hv1 := hv0.below BL
   obtain ⟨b,off,cc,p1,a1,n1,c1,b1,m1,d1,p2,a2,n2,c2,b2,m2,d2,p3,a3,n3,c3,b3,m3,d3,hvv,hcc,hc6,NN,r1,r2,r3,i1,i2,i3⟩ := hv1.at hlt
   cases hvv
   clear hv1
   have BLR := BL
   clear BL
   obtain ⟨N_0,N_1,N_2,N_3,N_4,N_5,N_6,N_7,N_8,N_9,N_10,N_11,N_12,N_13⟩ := id NN
   obtain ⟨W1,hW1,hS1,hL1,VN,FN⟩ := V14.lay wr 48 (.bool (t i).leaf) (.int .i64 (t i).feat) (.bool p1) (.slice a1 n1 c1) (.slice b1 m1 d1) (.int .i64 (t i).left) (.int .i64 (t i).right) (.bool (t i).miss) (.bool p2) (.slice a2 n2 c2) (.slice b2 m2 d2) (.bool p3) (.slice a3 n3 c3) (.slice b3 m3 d3)
   replace r3 := r3.below hL1
   replace VR := VR.below hL1
   replace BLR := BLR.trans (hL1.mono BLR.size)
   replace BB := BB.xm hL1
   clear hL1
   obtain ⟨V_0,V_1,V_2,V_3,V_4,V_5,V_6,V_7,V_8,V_9,V_10,V_11,V_12,V_13⟩ := id VN
   rw [hW1] at V_0 V_1 V_2 V_3 V_4 V_5 V_6 V_7 V_8 V_9 V_10 V_11 V_12 V_13
   go_wp2_with fail
   clear V_0 V_1 V_2 V_3 V_4 V_5 V_6 V_7 V_8 V_9 V_10 V_11 V_12 V_13
   clear N_0 N_1 N_2 N_3 N_4 N_5 N_6 N_7 N_8 N_9 N_10 N_11 N_12 N_13
   rw [← hW1]
   generalize wr.heap.size = R1 at *
   clear hW1 hS1
   refine (qsign_at _ (t i).cov L _ r3 hL hLM).mono ?_
   rintro e w1 ⟨rfl,b1⟩
   replace r3 := r3.below b1
   replace VR := VR.below b1
   replace BB := BB.xm b1
   replace VN := VN.below b1
   replace BLR := BLR.trans (b1.mono BLR.size)
   clear b1
   have HP : Hid (bad3 t i = decide ((t i).cov ≤ 0)) := rfl
   have hcq := cmpQ_le (t i).cov 0
   obtain ⟨cq,hq⟩ : ∃ z,cmpQ (t i).cov 0 = z := ⟨_,rfl⟩
   rw [hq] at hcq
   rw [hq]
   have HCQ : Hid (decide (cq ≤ 0) = decide ((t i).cov ≤ 0)) := hcq
   clear hq hcq
   by_cases hc : cq ≤ 0
   ·have hcb : decide (cq ≤ 0) = true := decide_eq_true hc
    obtain ⟨⟨q1,q2,q3,q4,q5,q6⟩,q7,q8⟩ := id VR
    go_wp2
    (try simp only [Exit.inBlock,Exit.then])
    refine bodyPost_ret (v := .agg #[.int .i64 12,.int .i64 0,.int .i64 0,.int .i64 (i : Int)]) (by simp [results,go_sem,q1,q2,q3,q7]) rfl ?_
    exact ⟨congrArg Ending.returned ((rlV2 F t n).trans (nfV_some hlt HB.out (by rw [HP.out,← HCQ.out]; exact decide_eq_true hc))).symm,below_store4 BB (by omega) _ _ _ _⟩
   ·have hcb : decide (cq ≤ 0) = false := decide_eq_false hc
    have HB2 : Hid (∀ j,j < i + 1 → bad3 t j = false) := fun j hj => by
     by_cases e : j = i
     ·subst e; rw [HP.out,← HCQ.out]; exact decide_eq_false hc
     ·exact HB.out j (by omega)
    clear HB
    go_wp2
    go_roundw
    case rel => exact ⟨i + 1,by omega,by go_num,HB2,BLR⟩
    case measure => simp [intOf]; omega
  ·obtain rfl : i = n := by omega
   have g1 : ¬ (i : Int) < (i : Int) := by omega
   obtain ⟨⟨q1,q2,q3,q4,q5,q6⟩,q7,q8⟩ := id VR
   go_wp2
   (try simp only [Exit.inBlock,Exit.then])
   refine bodyPost_ret (v := .agg #[.int .i64 0,.int .i64 0,.int .i64 0,.int .i64 0]) (by simp [results,go_sem,q1,q2,q3,q7]) rfl ?_
   exact ⟨congrArg Ending.returned ((rlV2 F t i).trans (nfV_none HB.out)).symm,below_store4 BB (by omega) _ _ _ _⟩
set_option maxRecDepth 100000 in
set_option maxHeartbeats 8000000 in
theorem namesPlaces_at (v : Value) (n : Nat) (t : Nat → Nd) (F : Int) (L : Nat) (w : World) (hv : TRow w v n t L) :
  Calls Tryz.prog 118 #[v,.int .i64 F] w fun e w' => e = .returned (rlV F t n 0) ∧ Below w.heap.size w w' := by
 obtain ⟨ao,c,rfl,hnc,hc63⟩ := hv.open
 have BB : Below w.heap.size w w := Below.refl _ _
 obtain ⟨Wb0,hW0,hS0,hL0,VR⟩ := V4.lay w 102 (.int .i64 0) (.int .i64 0) (.int .i64 0) (.int .i64 0)
 replace hv := hv.below hL0
 replace BB := BB.xm hL0
 clear hL0
 go_enter Tryz.func118,Tryz.ntmps118
 go_wp2
 rw [← hW0]
 clear hW0 hS0
 have hv0 := hv
 have VR0 := VR
 have BB0 : Hid (Below w.heap.size w Wb0) := BB
 clear hv VR BB
 go_loopw [9] (fun vi wr => ∃ i : Nat,i ≤ n ∧ vi = .int .i64 (i : Int) ∧ Hid (∀ j,j < i → bad0 F t n j = false) ∧ Below Wb0.heap.size Wb0 wr) (fun vi _ => n - (intOf vi).toNat)
 case atStart => exact ⟨0,by omega,rfl,fun j hj => by omega,Below.refl _ _⟩
 case round =>
  obtain ⟨i,hi,rfl,HB,BL⟩ := hrel
  have VR := VR0.below BL
  have BB := BB0.out.trans (BL.mono BB0.out.size)
  by_cases hlt : i < n
  ·have g1 : (i : Int) < (n : Int) := by omega
   have g0 : (0 : Int) ≤ (i : Int) := by omega
   have hv1 := hv0.below BL
   obtain ⟨b,off,cc,p1,a1,n1,c1,b1,m1,d1,p2,a2,n2,c2,b2,m2,d2,p3,a3,n3,c3,b3,m3,d3,hvv,hcc,hc6,NN,r1,r2,r3,i1,i2,i3⟩ := hv1.at hlt
   cases hvv
   clear hv1 r1 r2 r3 i1 i2 i3
   have BLR := BL
   clear BL
   have HP : Hid (bad0 F t n i = (!(t i).leaf && (decide ((t i).feat ≥ F) || decide ((t i).left < 1) || decide ((t i).left ≥ (n : Int)) || decide ((t i).right < 1) || decide ((t i).right ≥ (n : Int))))) := rfl
   obtain ⟨lf,hlf⟩ : ∃ z,(t i).leaf = z := ⟨_,rfl⟩
   obtain ⟨ft,hft⟩ : ∃ z,(t i).feat = z := ⟨_,rfl⟩
   obtain ⟨ll,hll⟩ : ∃ z,(t i).left = z := ⟨_,rfl⟩
   obtain ⟨rr,hrr⟩ : ∃ z,(t i).right = z := ⟨_,rfl⟩
   rw [hlf,hft,hll,hrr] at HP NN
   clear hlf hft hll hrr
   generalize (t i).miss = ms at NN
   cases lf
   ·by_cases h1 : ft ≥ F
    ·have h1b : decide (ft ≥ F) = true := decide_eq_true h1
     obtain ⟨N_0,N_1,N_2,N_3,N_4,N_5,N_6,N_7,N_8,N_9,N_10,N_11,N_12,N_13⟩ := id NN
     obtain ⟨W1,rfl,hS1,hL1,VN,FN⟩ := V14.lay wr 48 (.bool false) (.int .i64 ft) (.bool p1) (.slice a1 n1 c1) (.slice b1 m1 d1) (.int .i64 ll) (.int .i64 rr) (.bool ms) (.bool p2) (.slice a2 n2 c2) (.slice b2 m2 d2) (.bool p3) (.slice a3 n3 c3) (.slice b3 m3 d3)
     replace VR := VR.below hL1
     replace BB := BB.xm hL1
     obtain ⟨V_0,V_1,V_2,V_3,V_4,V_5,V_6,V_7,V_8,V_9,V_10,V_11,V_12,V_13⟩ := id VN
     obtain ⟨⟨q1,q2,q3,q4,q5,q6⟩,q7,q8⟩ := id VR
     go_wp2
     (try simp only [Exit.inBlock,Exit.then])
     refine bodyPost_ret (v := .agg #[.int .i64 8,.int .i64 0,.int .i64 0,.int .i64 (i : Int)]) (by simp [results,go_sem,q1,q2,q3,q7]) rfl ?_
     exact ⟨congrArg Ending.returned ((rlV0 F t n).trans (nfV_some hlt HB.out (by rw [HP.out]; simp [h1b]))).symm,below_store4 BB (by omega) _ _ _ _⟩
    ·have h1b : decide (ft ≥ F) = false := decide_eq_false h1
     obtain ⟨N_0,N_1,N_2,N_3,N_4,N_5,N_6,N_7,N_8,N_9,N_10,N_11,N_12,N_13⟩ := id NN
     obtain ⟨W1,hW1,hS1,hL1,VN,FN⟩ := V14.lay wr 48 (.bool false) (.int .i64 ft) (.bool p1) (.slice a1 n1 c1) (.slice b1 m1 d1) (.int .i64 ll) (.int .i64 rr) (.bool ms) (.bool p2) (.slice a2 n2 c2) (.slice b2 m2 d2) (.bool p3) (.slice a3 n3 c3) (.slice b3 m3 d3)
     replace VR := VR.below hL1
     replace BLR := BLR.trans (hL1.mono BLR.size)
     replace BB := BB.xm hL1
     clear hL1
     obtain ⟨V_0,V_1,V_2,V_3,V_4,V_5,V_6,V_7,V_8,V_9,V_10,V_11,V_12,V_13⟩ := id VN
     rw [hW1] at V_0 V_1 V_2 V_3 V_4 V_5 V_6 V_7 V_8 V_9 V_10 V_11 V_12 V_13
     go_wp2_with fail
     clear V_0 V_1 V_2 V_3 V_4 V_5 V_6 V_7 V_8 V_9 V_10 V_11 V_12 V_13
     clear N_0 N_1 N_2 N_3 N_4 N_5 N_6 N_7 N_8 N_9 N_10 N_11 N_12 N_13
     rw [← hW1]
     generalize wr.heap.size = R1 at *
     clear hW1 hS1
     refine (isChild_at _ _ _ _ _).mono ?_
     rintro e wx ⟨rfl,hwx⟩
     replace hwx := hwx.symm
     subst hwx
     by_cases h2 : 1 ≤ ll ∧ ll < (n : Int)
     ·rw [decide_eq_true h2]
      obtain ⟨V_0,V_1,V_2,V_3,V_4,V_5,V_6,V_7,V_8,V_9,V_10,V_11,V_12,V_13⟩ := id VN
      go_wp2_with fail
      clear V_0 V_1 V_2 V_3 V_4 V_5 V_6 V_7 V_8 V_9 V_10 V_11 V_12 V_13
      refine (isChild_at _ _ _ _ _).mono ?_
      rintro e wx ⟨rfl,hwx⟩
      replace hwx := hwx.symm
      subst hwx
      by_cases h3 : 1 ≤ rr ∧ rr < (n : Int)
      ·rw [decide_eq_true h3]
       have HB2 : Hid (∀ j,j < i + 1 → bad0 F t n j = false) := fun j hj => by
        by_cases e : j = i
        ·subst e; rw [HP.out,h1b]; simp; omega
        ·exact HB.out j (by omega)
       clear HB
       go_wp2
       go_roundw
       case rel => exact ⟨i + 1,by omega,by go_num,HB2,BLR⟩
       case measure => simp [intOf]; omega
      ·rw [decide_eq_false h3]
       obtain ⟨⟨q1,q2,q3,q4,q5,q6⟩,q7,q8⟩ := id VR
       go_wp2
       (try simp only [Exit.inBlock,Exit.then])
       refine bodyPost_ret (v := .agg #[.int .i64 8,.int .i64 0,.int .i64 0,.int .i64 (i : Int)]) (by simp [results,go_sem,q1,q2,q3,q7]) rfl ?_
       exact ⟨congrArg Ending.returned ((rlV0 F t n).trans (nfV_some hlt HB.out (by rw [HP.out]; simp; omega))).symm,below_store4 BB (by omega) _ _ _ _⟩
     ·rw [decide_eq_false h2]
      obtain ⟨⟨q1,q2,q3,q4,q5,q6⟩,q7,q8⟩ := id VR
      go_wp2
      (try simp only [Exit.inBlock,Exit.then])
      refine bodyPost_ret (v := .agg #[.int .i64 8,.int .i64 0,.int .i64 0,.int .i64 (i : Int)]) (by simp [results,go_sem,q1,q2,q3,q7]) rfl ?_
      exact ⟨congrArg Ending.returned ((rlV0 F t n).trans (nfV_some hlt HB.out (by rw [HP.out]; simp; omega))).symm,below_store4 BB (by omega) _ _ _ _⟩
   ·obtain ⟨N_0,N_1,N_2,N_3,N_4,N_5,N_6,N_7,N_8,N_9,N_10,N_11,N_12,N_13⟩ := id NN
    obtain ⟨W1,hW1,hS1,hL1,VN,FN⟩ := V14.lay wr 48 (.bool true) (.int .i64 ft) (.bool p1) (.slice a1 n1 c1) (.slice b1 m1 d1) (.int .i64 ll) (.int .i64 rr) (.bool ms) (.bool p2) (.slice a2 n2 c2) (.slice b2 m2 d2) (.bool p3) (.slice a3 n3 c3) (.slice b3 m3 d3)
    replace VR := VR.below hL1
    replace BLR := BLR.trans (hL1.mono BLR.size)
    replace BB := BB.xm hL1
    clear hL1
    obtain ⟨V_0,V_1,V_2,V_3,V_4,V_5,V_6,V_7,V_8,V_9,V_10,V_11,V_12,V_13⟩ := id VN
    rw [hW1] at V_0 V_1 V_2 V_3 V_4 V_5 V_6 V_7 V_8 V_9 V_10 V_11 V_12 V_13
    go_wp2
    clear V_0 V_1 V_2 V_3 V_4 V_5 V_6 V_7 V_8 V_9 V_10 V_11 V_12 V_13
    clear N_0 N_1 N_2 N_3 N_4 N_5 N_6 N_7 N_8 N_9 N_10 N_11 N_12 N_13
    rw [← hW1]
    generalize wr.heap.size = R1 at *
    clear hW1 hS1
    have HB2 : Hid (∀ j,j < i + 1 → bad0 F t n j = false) := fun j hj => by
     by_cases e : j = i
     ·subst e; rw [HP.out]; rfl
     ·exact HB.out j (by omega)
    clear HB
    go_wp2
    go_roundw
    case rel => exact ⟨i + 1,by omega,by go_num,HB2,BLR⟩
    case measure => simp [intOf]; omega
  ·obtain rfl : i = n := by omega
   have g1 : ¬ (i : Int) < (i : Int) := by omega
   obtain ⟨⟨q1,q2,q3,q4,q5,q6⟩,q7,q8⟩ := id VR
   go_wp2
   (try simp only [Exit.inBlock,Exit.then])
   refine bodyPost_ret (v := .agg #[.int .i64 0,.int .i64 0,.int .i64 0,.int .i64 0]) (by simp [results,go_sem,q1,q2,q3,q7]) rfl ?_
   exact ⟨congrArg Ending.returned ((rlV0 F t i).trans (nfV_none HB.out)).symm,below_store4 BB (by omega) _ _ _ _⟩
set_option maxRecDepth 100000 in
set_option maxHeartbeats 8000000 in
theorem notOnce_at (v : Value) (n f : Nat) (z : Nat → Int) (w : World) (hv : Nums .i64 w v n z) :
  Calls Tryz.prog 136 #[v,.int .i64 (f : Int)] w fun e w' => e = .returned (nfV (bad5 f z) n 11) ∧ Below w.heap.size w w' := by
 obtain ⟨ao,c,rfl,hnc,hc63,hcl⟩ := id hv
 clear hcl
 unfold LIM at hc63
 have BB : Below w.heap.size w w := Below.refl _ _
 obtain ⟨Wb0,hW0,hS0,hL0,VR⟩ := V4.lay w 102 (.int .i64 0) (.int .i64 0) (.int .i64 0) (.int .i64 0)
 replace hv := hv.below hL0
 replace BB := BB.xm hL0
 clear hL0
 go_enter Tryz.func136,Tryz.ntmps136
 go_wp2
 rw [← hW0]
 clear hW0 hS0
 have hv0 := hv
 have VR0 := VR
 have BB0 : Hid (Below w.heap.size w Wb0) := BB
 clear hv VR BB
 go_loopw [9] (fun vi wr => ∃ i : Nat,i ≤ n ∧ vi = .int .i64 (i : Int) ∧ Hid (∀ j,j < i → (bad5 f z) j = false) ∧ Below Wb0.heap.size Wb0 wr) (fun vi _ => n - (intOf vi).toNat)
 case atStart => exact ⟨0,by omega,rfl,fun j hj => by omega,Below.refl _ _⟩
 case round =>
  obtain ⟨i,hi,rfl,HB,BL⟩ := hrel
  have VR := VR0.below BL
  have BB := BB0.out.trans (BL.mono BB0.out.size)
  by_cases hlt : i < n
  ·have g1 : (i : Int) < (n : Int) := by omega
   have g0 : (0 : Int) ≤ (i : Int) := by omega
   have BLR := BL
   obtain ⟨ao2,c2,hvv,_,_,h4⟩ := hv0.below BL
   cases hvv
   obtain ⟨b,off,rfl,hc⟩ := h4 (by omega)
   have XC := hc i hlt
   clear h4 hc BL
   by_cases hf : f ≤ i
   ·have fi : (i : Int) ≥ (f : Int) := by omega
    have fib : decide ((i : Int) ≥ (f : Int)) = true := decide_eq_true fi
    by_cases hz : z i = 1
    ·have hzb : (z i != 1) = false := by simp [hz]
     rw [hz] at XC
     have HB2 : Hid (∀ j,j < i + 1 → (bad5 f z) j = false) := fun j hj => by
      by_cases e : j = i
      ·subst e; unfold bad5; simp [hz]
      ·exact HB.out j (by omega)
     clear HB
     go_wp2
     go_roundw
     case rel => exact ⟨i + 1,by omega,by go_num,HB2,BLR⟩
     case measure => simp [intOf]; omega
    ·have hzb : (z i != 1) = true := by simp [hz]
     obtain ⟨⟨q1,q2,q3,q4,q5,q6⟩,q7,q8⟩ := id VR
     go_wp2
     (try simp only [Exit.inBlock,Exit.then])
     refine bodyPost_ret (v := .agg #[.int .i64 11,.int .i64 0,.int .i64 0,.int .i64 (i : Int)]) (by simp [results,go_sem,q1,q2,q3,q7]) rfl ?_
     exact ⟨congrArg Ending.returned (nfV_some hlt HB.out (by unfold bad5; simp [hz,hf])).symm,below_store4 BB (by omega) _ _ _ _⟩
   ·have fi : ¬ (i : Int) ≥ (f : Int) := by omega
    have fib : decide ((i : Int) ≥ (f : Int)) = false := decide_eq_false fi
    have HB2 : Hid (∀ j,j < i + 1 → (bad5 f z) j = false) := fun j hj => by
     by_cases e : j = i
     ·subst e; unfold bad5; simp; omega
     ·exact HB.out j (by omega)
    clear HB
    go_wp2
    go_roundw
    case rel => exact ⟨i + 1,by omega,by go_num,HB2,BLR⟩
    case measure => simp [intOf]; omega
  ·obtain rfl : i = n := by omega
   have g1 : ¬ (i : Int) < (i : Int) := by omega
   obtain ⟨⟨q1,q2,q3,q4,q5,q6⟩,q7,q8⟩ := id VR
   go_wp2
   (try simp only [Exit.inBlock,Exit.then])
   refine bodyPost_ret (v := .agg #[.int .i64 0,.int .i64 0,.int .i64 0,.int .i64 0]) (by simp [results,go_sem,q1,q2,q3,q7]) rfl ?_
   exact ⟨congrArg Ending.returned (nfV_none HB.out).symm,below_store4 BB (by omega) _ _ _ _⟩
end Go.Proofs.YtbbliiafkjipbaaGreatDoor

namespace Go.Proofs.YtbbliiafkjipbaaGreatDoor
open Go.RowKit
set_option linter.unusedVariables false
def IntOwn (B : Nat) (w : World) (v : Value) (zs : List Nat) : Prop := w.ownsRow B 3 1 v zs.length (zs.map (fun x : Nat => Value.int .i64 (x : Int)))
theorem IntOwn.later {B : Nat} {w w' : World} {v : Value} {zs : List Nat} (h : IntOwn B w v zs) (hb : Below w.heap.size w w') : IntOwn B w' v zs := owns_later h hb
theorem IntOwn.open {B : Nat} {w : World} {v : Value} {zs : List Nat} (h : IntOwn B w v zs) (h0 : 0 < zs.length) : ∃ g c,v = .slice (some ⟨g,0,none⟩) zs.length c ∧ zs.length ≤ c := by
 rcases h.2 with ⟨_,e⟩ | ⟨g,c,_,e,_,_,hc,_⟩
 ·omega
 ·exact ⟨g,c,e,hc⟩
theorem IntOwn.form {B : Nat} {w : World} {v : Value} {zs : List Nat} (h : IntOwn B w v zs) : ∃ a c,v = .slice a zs.length c ∧ zs.length ≤ c := by
 rcases h.2 with ⟨e,e2⟩ | ⟨g,c,_,e,_,_,hc,_⟩
 ·exact ⟨none,0,by rw [e,e2],by omega⟩
 ·exact ⟨_,c,e,hc⟩
theorem IntOwn.cell {B : Nat} {w : World} {g c n : Nat} {zs : List Nat} (h : IntOwn B w (.slice (some ⟨g,0,none⟩) n c) zs) (hn : n = zs.length) {j x : Nat} (hj : zs[j]? = some x) : w.cell? ⟨g,j,none⟩ = some (.int .i64 (x : Int)) := by
 subst hn
 exact owns_cell h (by rw [List.getElem?_map,hj]; rfl)
theorem IntOwn.pop {B : Nat} {w : World} {g c n : Nat} {zs : List Nat} {x : Nat} (h : IntOwn B w (.slice (some ⟨g,0,none⟩) n c) (zs ++ [x])) : IntOwn B w (.slice (some ⟨g,0,none⟩) zs.length c) zs := by
 unfold IntOwn at h ⊢
 refine ⟨by simp,?_⟩
 rcases h.2 with ⟨e,_⟩ | ⟨g',c',cur,e,hB,hg,hc,hm,hs,ht⟩
 ·cases e
 ·injection e with e1 e2 e3
  injection e1 with e1
  injection e1 with e1
  subst e1 e3
  refine .inr ⟨g,c,cur,rfl,hB,hg,by simp at hc; omega,hm,hs,?_⟩
  have := congrArg (List.take (zs.length * 1)) ht
  rw [List.take_take,show min (zs.length * 1) ((zs ++ [x]).length * 1) = zs.length * 1 by simp] at this
  rw [this,List.map_append,List.take_append_of_le_length (by simp),List.take_of_length_le (by simp)]
def AsideI (v1 v2 : Value) : Prop := ∀ g,v1.ownBlock = some g → v2.ownBlock ≠ some g
theorem AsideI.symm {v1 v2 : Value} (h : AsideI v1 v2) : AsideI v2 v1 := fun g h1 h2 => h g h2 h1
theorem IntOwn.stay {B : Nat} {w w' : World} {v x : Value} {zs : List Nat} (h : IntOwn B w v zs) (hg : w.grownBy w' x.ownBlock) (ha : AsideI v x) : IntOwn B w' v zs := by
 refine World.ownsRow.kept h hg ?_
 cases hb : v.ownBlock with
 | none => exact .inl rfl
 | some g => exact .inr (fun e => ha g hb e.symm)
theorem IntOwn.both {B : Nat} {w : World} {v : Value} {zs : List Nat} (h : IntOwn B w v zs) (g : Nat) (hg : v.ownBlock = some g) : B ≤ g ∧ g < w.heap.size := World.ownsRow.lt h g hg
theorem asideI_new {B : Nat} {w : World} {v x : Value} {zs : List Nat} {g5 m c : Nat} (h : IntOwn B w v zs) (ha : AsideI v x) (hat : x.ownBlock = some g5 ∨ g5 = w.heap.size) : AsideI v (.slice (some ⟨g5,0,none⟩) m c) := by
 intro g hg e
 have e' : g5 = g := by injection e
 subst e'
 rcases hat with h1 | h1
 ·exact ha g5 hg h1
 ·have := (h.both g5 hg).2; omega
theorem IntOwn.nums {B : Nat} {w : World} {v : Value} {zs : List Nat} (h : IntOwn B w v zs) (hl : zs.length ≤ 100000) : Nums .i64 w v zs.length (fun i => (zs.getD i 0 : Int)) := by
 rcases h.2 with ⟨rfl,e⟩ | ⟨g,c,_,rfl,_,_,hc,_⟩
 ·rw [e]; exact Nums.nil _ _ _
 ·refine ⟨_,_,rfl,hc,by unfold LIM; omega,fun _ => ⟨g,0,rfl,fun i hi => ?_⟩⟩
  rw [Nat.zero_add]
  refine IntOwn.cell h rfl ?_
  rw [List.getD_eq_getElem?_getD,List.getElem?_eq_getElem hi]
  rfl
theorem int_first (w : World) (x : Nat) (B : Nat) (hB : B ≤ w.heap.size) : IntOwn B (w.alloc (.cells #[.int .i64 (x : Int)] 3)) (.slice (some ⟨w.heap.size,0,none⟩) 1 1) [x] := by
 have := owns_new w B 1 3 #[.int .i64 (x : Int)] hB rfl
 exact this
end Go.Proofs.YtbbliiafkjipbaaGreatDoor

namespace Go.Proofs.YtbbliiafkjipbaaGreatDoor
open Go.RowKit
set_option linter.unusedVariables false
set_option linter.unusedSimpArgs false
theorem par_le (t : Nat → Nd) (x : Nat) : ∀ n,par t x n ≤ 2 * n
  | 0 => Nat.le_refl _
  | n + 1 => by
    have := par_le t x n
    have h : kc t x n ≤ 2 := by unfold kc; split <;> split <;> omega
    show par t x n + kc t x n ≤ _
    omega
theorem N14.low {w w' : World} {b o : Nat} {x0 x1 x2 x3 x4 x5 x6 x7 x8 x9 x10 x11 x12 x13 : Value} (h : N14 w b o x0 x1 x2 x3 x4 x5 x6 x7 x8 x9 x10 x11 x12 x13) (hb : Below w.heap.size w w') : N14 w' b o x0 x1 x2 x3 x4 x5 x6 x7 x8 x9 x10 x11 x12 x13 := by
  have hl : b < w.heap.size := World.block_lt_of_cell? _ _ h.c0
  obtain ⟨h0,h1,h2,h3,h4,h5,h6,h7,h8,h9,h10,h11,h12,h13⟩ := h
  exact ⟨(hb.cell hl).trans h0,(hb.cell hl).trans h1,(hb.cell hl).trans h2,(hb.cell hl).trans h3,(hb.cell hl).trans h4,(hb.cell hl).trans h5,(hb.cell hl).trans h6,(hb.cell hl).trans h7,(hb.cell hl).trans h8,(hb.cell hl).trans h9,(hb.cell hl).trans h10,(hb.cell hl).trans h11,(hb.cell hl).trans h12,(hb.cell hl).trans h13⟩
theorem int_more {B : Nat} {w : World} {g c x : Nat} {zs : List Nat} (h : w.ownsRow B 3 1 (.slice (some ⟨g,0,none⟩) (zs.length + 1) c) (zs.length + 1) (zs.map (fun x : Nat => Value.int .i64 (x : Int)) ++ [.int .i64 (x : Int)])) : IntOwn B w (.slice (some ⟨g,0,none⟩) (zs.length + 1) c) (zs ++ [x]) := by
  unfold IntOwn
  rw [List.map_append,List.length_append]
  exact h
theorem int_more2 {B : Nat} {w : World} {g c x y k : Nat} {zs : List Nat} (hk : zs.length = k) (h : w.ownsRow B 3 1 (.slice (some ⟨g,0,none⟩) (k + 2) c) (k + 2) (zs.map (fun x : Nat => Value.int .i64 (x : Int)) ++ [.int .i64 (x : Int),.int .i64 (y : Int)])) : IntOwn B w (.slice (some ⟨g,0,none⟩) (k + 2) c) (zs ++ [x,y]) := by
  unfold IntOwn
  rw [List.map_append,List.length_append,hk]
  exact h
theorem int_len {B : Nat} {w : World} {v : Value} {k : Nat} {zs : List Nat} (hk : zs.length = k) (h : IntOwn B w v zs) : w.ownsRow B 3 1 v k (zs.map (fun x : Nat => Value.int .i64 (x : Int))) := by
  unfold IntOwn at h
  rw [hk] at h
  exact h
def lenV : Value → Nat
  | .slice _ n _ => n
  | _ => 0
theorem zero_off {w : World} {k : IntKind} {g n : Nat} {f : Nat → Int} (h : Cells w k g 0 n f) {i : Nat} (hi : i < n) : w.cell? ⟨g,i,none⟩ = some (.int k (f i)) := by
  have := h i hi
  rwa [Nat.zero_add] at this
theorem zero_soft {w : World} {g n : Nat} (h : Soft w g 0 n) {i : Nat} (hi : i < n) : w.frozen? ⟨g,i,none⟩ = false := by
  have := h i hi
  rwa [Nat.zero_add] at this
theorem zero_set {w : World} {k : IntKind} {g n : Nat} {f : Nat → Int} (h : Cells w k g 0 n f) {j : Nat} (hj : j < n) (v : Int) : Cells (w.setCell ⟨g,j,none⟩ (.int k v)) k g 0 n (put f j v) := by
  have := h.set j hj v
  rwa [Nat.zero_add] at this
set_option maxRecDepth 100000 in
set_option maxHeartbeats 8000000 in
theorem parents_at (v : Value) (n : Nat) (t : Nat → Nd) (L : Nat) (w : World) (hv : TRow w v n t L) (hN : Named t n) (hn : n ≤ 255) :
    Calls Tryz.prog 137 #[v] w fun e w' => ∃ r,e = .returned r ∧ Nums .i64 w' r n (fun x => (par t x n : Int)) ∧ Below w.heap.size w w' := by
  obtain ⟨ao,c,rfl,hnc,hc63⟩ := hv.open
  obtain ⟨i0,hi,hz0,hz1,hz2⟩ := info_parts info_int
  have BB : Below w.heap.size w w := Below.refl _ _
  go_enter Tryz.func137,Tryz.ntmps137
  go_wp2_with (at_make; refine wpList_make_full _ rfl _ _ 35 rfl _ 3 i0 (.int .i64 0) 1 Tryz.underlying35 hi hz0 hz1 _ _ _ _ n rfl rfl (by omega) (by omega) (by rw [hz2]; omega) (by unfold maxLen; omega) (Nat.le_refl _) ?_; intro w1 hown hgrow)
  obtain ⟨hC,hSf⟩ := mine_made (k := .i64) (w := w) hown (fun _ => 0) (fun i hi => made_zero .i64 n i hi)
  have hG := (World.ownsRow.lt hown w.heap.size rfl).2
  have hb1 := below_grown hgrow
  clear hown hgrow hi hz0 hz1 hz2 BB
  go_wp2
  have HN : Hid (Named t n) := hN
  clear hN
  go_loopw [11] (fun vi wr => ∃ i : Nat,i ≤ n ∧ vi = .int .i64 (i : Int) ∧ Cells wr .i64 w.heap.size 0 n (fun x => (par t x i : Int)) ∧ Soft wr w.heap.size 0 n ∧ w.heap.size < wr.heap.size ∧ Below w.heap.size w wr) (fun vi _ => n - (intOf vi).toNat)
  case atStart => exact ⟨0,by omega,rfl,hC,hSf,hG,hb1⟩
  case round =>
    clear hC hSf hG hb1
    obtain ⟨i,hi,rfl,hC,hSf,hG,BB⟩ := hrel
    by_cases hlt : i < n
    · have g1 : (i : Int) < (n : Int) := by omega
      have g0 : (0 : Int) ≤ (i : Int) := by omega
      have hv1 := hv.below BB
      obtain ⟨b,off,cc,p1,a1,n1,c1,b1,m1,d1,p2,a2,n2,c2,b2,m2,d2,p3,a3,n3,c3,b3,m3,d3,hvv,hcc,hc6,NN,r1,r2,r3,i1,i2,i3⟩ := hv1.at hlt
      cases hvv
      clear hv1 r1 r2 r3 i1 i2 i3
      have HNI := HN.out i hlt
      have HK : Hid (∀ x,kc t x i = (if (t i).leaf = false ∧ (t i).left = (x : Int) then 1 else 0) + (if (t i).leaf = false ∧ (t i).right = (x : Int) then 1 else 0)) := fun x => rfl
      obtain ⟨lf,hlf⟩ : ∃ z,(t i).leaf = z := ⟨_,rfl⟩
      obtain ⟨ll,hll⟩ : ∃ z,(t i).left = z := ⟨_,rfl⟩
      obtain ⟨rr,hrr⟩ : ∃ z,(t i).right = z := ⟨_,rfl⟩
      rw [hlf,hll,hrr] at HNI HK
      rw [hlf,hll,hrr] at NN
      clear hlf hll hrr
      generalize (t i).miss = ms at NN
      generalize (t i).feat = ft at NN
      cases lf
      · obtain ⟨n1_,n2_,n3_,n4_⟩ := HNI rfl
        obtain ⟨l,rfl⟩ : ∃ l : Nat,ll = (l : Int) := ⟨ll.toNat,by omega⟩
        obtain ⟨m,rfl⟩ : ∃ m : Nat,rr = (m : Int) := ⟨rr.toNat,by omega⟩
        have hl1 : l < n := by omega
        have hm1 : m < n := by omega
        have e1 : (0 : Int) ≤ (l : Int) := by omega
        have e3 : (0 : Int) ≤ (m : Int) := by omega
        clear HNI
        have XN := NN
        obtain ⟨N_0,N_1,N_2,N_3,N_4,N_5,N_6,N_7,N_8,N_9,N_10,N_11,N_12,N_13⟩ := id NN
        obtain ⟨W1,hW1,hS1,hL1,VN,FN⟩ := V14.lay wr 48 (.bool false) (.int .i64 ft) (.bool p1) (.slice a1 n1 c1) (.slice b1 m1 d1) (.int .i64 (l : Int)) (.int .i64 (m : Int)) (.bool ms) (.bool p2) (.slice a2 n2 c2) (.slice b2 m2 d2) (.bool p3) (.slice a3 n3 c3) (.slice b3 m3 d3)
        have hC1 := hC.below hL1 hG
        have hSf1 := hSf.below hL1 hG
        have hne : wr.heap.size ≠ w.heap.size := by omega
        subst hW1
        obtain ⟨V_0,V_1,V_2,V_3,V_4,V_5,V_6,V_7,V_8,V_9,V_10,V_11,V_12,V_13⟩ := id VN
        have XL := zero_off hC1 hl1
        have YL := zero_soft hSf1 hl1
        have bl := par_le t l i
        obtain ⟨pl,hpl⟩ : ∃ z,par t l i = z := ⟨_,rfl⟩
        rw [hpl] at XL bl
        have HPL : Hid (par t l i = pl) := hpl
        clear hpl
        have wl : IntKind.i64.wrap ((pl : Int) + 1) = (pl : Int) + 1 := by rw [IntKind.wrap_i64]; omega
        have hC2 := zero_set hC hl1 ((pl : Int) + 1)
        have hSf2 : Soft _ w.heap.size 0 n := hSf.set ⟨w.heap.size,l,none⟩ (.int .i64 ((pl : Int) + 1))
        have hGs : w.heap.size < (wr.setCell ⟨w.heap.size,l,none⟩ (.int .i64 ((pl : Int) + 1))).heap.size := by simpa using hG
        have hLs : Below (wr.setCell ⟨w.heap.size,l,none⟩ (.int .i64 ((pl : Int) + 1))).heap.size _ ((wr.setCell ⟨w.heap.size,l,none⟩ (.int .i64 ((pl : Int) + 1))).alloc (.cells #[.bool false,.int .i64 ft,.bool p1,.slice a1 n1 c1,.slice b1 m1 d1,.int .i64 (l : Int),.int .i64 (m : Int),.bool ms,.bool p2,.slice a2 n2 c2,.slice b2 m2 d2,.bool p3,.slice a3 n3 c3,.slice b3 m3 d3] 48)) := (Below.refl _ _).alloc (Nat.le_refl _) _
        have hC2a := hC2.below hLs hGs
        have hSf2a := hSf2.below hLs hGs
        by_cases hlm : m = l
        · subst hlm
          have wl2 : IntKind.i64.wrap ((pl : Int) + 1 + 1) = (pl : Int) + 1 + 1 := by rw [IntKind.wrap_i64]; omega
          have XM := zero_off hC2a hm1
          have YM := zero_soft hSf2a hm1
          rw [put_same] at XM
          have hC3 := zero_set hC2 hm1 ((pl : Int) + 1 + 1)
          have hSf3 : Soft _ w.heap.size 0 n := hSf2.set ⟨w.heap.size,m,none⟩ (.int .i64 ((pl : Int) + 1 + 1))
          have BB3 : Below w.heap.size w _ := (BB.setCell (p := ⟨w.heap.size,m,none⟩) (Nat.le_refl _) (.int .i64 ((pl : Int) + 1))).setCell (p := ⟨w.heap.size,m,none⟩) (Nat.le_refl _) (.int .i64 ((pl : Int) + 1 + 1))
          have HCG : Hid (∀ x,x < n → put (put (fun x => (par t x i : Int)) m ((pl : Int) + 1)) m ((pl : Int) + 1 + 1) x = ((par t x (i + 1) : Nat) : Int)) := fun x hx => by
            show _ = ((par t x i + kc t x i : Nat) : Int)
            rw [HK.out x]
            by_cases hx1 : x = m
            · subst hx1
              rw [put_same,HPL.out,if_pos ⟨rfl,rfl⟩]
              omega
            · rw [put_other _ _ _ _ hx1,put_other _ _ _ _ hx1,if_neg (fun h => hx1 (by omega))]
              show (par t x i : Int) = _
              omega
          clear HK HPL
          go_wp2
          go_roundw
          case rel => exact ⟨i + 1,by omega,by go_num,(hC3.congr (HCG.out)).below ((Below.refl _ _).alloc (Nat.le_refl _) _) (by simpa using hG),hSf3.below ((Below.refl _ _).alloc (Nat.le_refl _) _) (by simpa using hG),by simp; omega,BB3.alloc BB3.size _⟩
          case measure => simp [intOf]; omega
        · have hml : ¬ l = m := fun e => hlm e.symm
          have bm := par_le t m i
          have XM0 := zero_off hC1 hm1
          have YM0 := zero_soft hSf1 hm1
          obtain ⟨pm,hpm⟩ : ∃ z,par t m i = z := ⟨_,rfl⟩
          rw [hpm] at XM0 bm
          have HPM : Hid (par t m i = pm) := hpm
          clear hpm
          have wm : IntKind.i64.wrap ((pm : Int) + 1) = (pm : Int) + 1 := by rw [IntKind.wrap_i64]; omega
          have XM := zero_off hC2a hm1
          have YM := zero_soft hSf2a hm1
          rw [put_other _ _ _ _ hlm,HPM.out] at XM
          have hC3 := zero_set hC2 hm1 ((pm : Int) + 1)
          have hSf3 : Soft _ w.heap.size 0 n := hSf2.set ⟨w.heap.size,m,none⟩ (.int .i64 ((pm : Int) + 1))
          have BB3 : Below w.heap.size w _ := (BB.setCell (p := ⟨w.heap.size,l,none⟩) (Nat.le_refl _) (.int .i64 ((pl : Int) + 1))).setCell (p := ⟨w.heap.size,m,none⟩) (Nat.le_refl _) (.int .i64 ((pm : Int) + 1))
          have HCG : Hid (∀ x,x < n → put (put (fun x => (par t x i : Int)) l ((pl : Int) + 1)) m ((pm : Int) + 1) x = ((par t x (i + 1) : Nat) : Int)) := fun x hx => by
            show _ = ((par t x i + kc t x i : Nat) : Int)
            rw [HK.out x]
            by_cases hx1 : x = m
            · subst hx1
              rw [put_same,HPM.out,if_neg (fun h => hml (by omega)),if_pos ⟨rfl,rfl⟩]
              omega
            · rw [put_other _ _ _ _ hx1]
              by_cases hx2 : x = l
              · subst hx2
                rw [put_same,HPL.out,if_pos ⟨rfl,rfl⟩,if_neg (fun h => hx1 (by omega))]
                omega
              · rw [put_other _ _ _ _ hx2,if_neg (fun h => hx2 (by omega)),if_neg (fun h => hx1 (by omega))]
                show (par t x i : Int) = _
                omega
          clear HK HPL HPM
          go_wp2
          go_roundw
          case rel => exact ⟨i + 1,by omega,by go_num,(hC3.congr (HCG.out)).below ((Below.refl _ _).alloc (Nat.le_refl _) _) (by simpa using hG),hSf3.below ((Below.refl _ _).alloc (Nat.le_refl _) _) (by simpa using hG),by simp; omega,BB3.alloc BB3.size _⟩
          case measure => simp [intOf]; omega
      · have HCG : Hid (∀ x,x < n → (par t x i : Int) = ((par t x (i + 1) : Nat) : Int)) := fun x hx => by
          show _ = ((par t x i + kc t x i : Nat) : Int)
          rw [HK.out x,if_neg (fun h => absurd h.1 (by decide)),if_neg (fun h => absurd h.1 (by decide))]
          omega
        clear HK HNI
        obtain ⟨N_0,N_1,N_2,N_3,N_4,N_5,N_6,N_7,N_8,N_9,N_10,N_11,N_12,N_13⟩ := id NN
        obtain ⟨W1,hW1,hS1,hL1,VN,FN⟩ := V14.lay wr 48 (.bool true) (.int .i64 ft) (.bool p1) (.slice a1 n1 c1) (.slice b1 m1 d1) (.int .i64 ll) (.int .i64 rr) (.bool ms) (.bool p2) (.slice a2 n2 c2) (.slice b2 m2 d2) (.bool p3) (.slice a3 n3 c3) (.slice b3 m3 d3)
        replace BB := BB.xm hL1
        have hC1 := hC.below hL1 hG
        have hSf1 := hSf.below hL1 hG
        have hG1 : w.heap.size < W1.heap.size := by omega
        subst hW1
        obtain ⟨V_0,V_1,V_2,V_3,V_4,V_5,V_6,V_7,V_8,V_9,V_10,V_11,V_12,V_13⟩ := id VN
        go_wp2
        go_roundw
        case rel => exact ⟨i + 1,by omega,by go_num,hC1.congr HCG.out,hSf1,hG1,BB⟩
        case measure => simp [intOf]; omega
    · obtain rfl : i = n := by omega
      have g1 : ¬ (i : Int) < (i : Int) := by omega
      go_wp2
      go_ret
      exact ⟨_,rfl,⟨_,_,rfl,Nat.le_refl _,by unfold LIM; omega,fun _ => ⟨_,_,rfl,hC⟩⟩,BB⟩
set_option maxRecDepth 100000 in
set_option maxHeartbeats 8000000 in
theorem reached_at (v : Value) (n : Nat) (t : Nat → Nd) (L : Nat) (w : World) (hv : TRow w v n t L) (hN : Named t n) (hO : Once t n) (hn0 : 0 < n) (hn : n ≤ 255) :
    Calls Tryz.prog 53 #[v] w fun e w' => ∃ r outs,e = .returned r ∧ IntOwn w.heap.size w' r outs ∧ DInv t n outs [] ∧ Below w.heap.size w w' := by
  obtain ⟨ao,c,rfl,hnc,hc63⟩ := hv.open
  have BB : Below w.heap.size w w := Below.refl _ _
  go_enter Tryz.func53,Tryz.ntmps53
  have HI0 : Hid (DInv t n [] [0]) := DInv.start hn0
  have hA0 := int_first w 0 w.heap.size (Nat.le_refl _)
  have hB0 : Below w.heap.size w (w.alloc (.cells #[.int .i64 0] 3)) := BB.alloc (Nat.le_refl _) _
  have HN : Hid (Named t n) := hN
  have HO : Hid (Once t n) := hO
  clear hN hO BB
  go_wp2
  go_loopw [3,4] (fun vo vw wr => ∃ outs waits : List Nat,IntOwn w.heap.size wr vo outs ∧ IntOwn w.heap.size wr vw waits ∧ AsideI vo vw ∧ Hid (DInv t n outs waits) ∧ Below w.heap.size w wr) (fun vo _ _ => n - lenV vo)
  case atStart => exact ⟨[],[0],World.ownsRow_nil _ _ _ _,hA0,(by intro g h; simp [Value.ownBlock] at h),HI0,hB0⟩
  case round =>
    clear hA0 hB0 HI0
    obtain ⟨outs,waits,hO1,hW1,hAs,HI,BB⟩ := hrel
    have hlen := HI.out.len
    obtain ⟨oo,co_,rfl,hoc⟩ := hO1.form
    rcases List.eq_nil_or_concat waits with rfl | ⟨ws,i,rfl⟩
    · obtain ⟨ow,cw,rfl,hwc⟩ := hW1.form
      go_wp2
      go_ret
      exact ⟨_,outs,rfl,hO1,HI.out,BB⟩
    · rw [List.concat_eq_append] at hW1 HI hlen
      have hil : i < n := HI.out.small i (by simp)
      obtain ⟨gw,cw,rfl,hwc⟩ := hW1.open (by simp)
      obtain ⟨k,hk⟩ : ∃ k,ws.length = k := ⟨_,rfl⟩
      have hk1 : (ws ++ [i]).length = k + 1 := by simp [hk]
      have XW := hW1.cell rfl (j := k) (x := i) (by rw [← hk]; simp)
      have hWp := hW1.pop
      rw [hk] at hWp
      obtain ⟨k1,hk2⟩ : ∃ k1,k1 = k + 1 := ⟨_,rfl⟩
      rw [hk1,← hk2] at hwc ⊢
      have hk255 : k ≤ 255 := by rw [List.length_append,hk] at hlen; omega
      have f0 : IntKind.i64.wrap (k : Int) = (k : Int) := by rw [IntKind.wrap_i64]; omega
      have f1 : (k1 : Int) > 0 := by omega
      have f2 : (k1 : Int) - 1 = (k : Int) := by omega
      have f3 : (0 : Int) ≤ (k : Int) := by omega
      have f4 : (k : Int) < (k1 : Int) := by omega
      have f5 : (k : Int) ≤ (cw : Int) := by omega
      have f6 : (0 : Int) ≤ (i : Int) := by omega
      have f7 : (i : Int) < (n : Int) := by omega
      have hol : outs.length ≤ 255 := by omega
      have hAs2 : AsideI (.slice oo outs.length co_) (.slice (some ⟨gw,0,none⟩) k cw) := fun g h1 h2 => hAs g h1 h2
      have HKK : Hid (k1 = k + 1) := hk2
      have HWK : Hid (ws.length = k) := hk
      clear hAs hW1 hk1 hk2 hk
      obtain ⟨b,off,cc,p1,a1,n1,c1,b1,m1,d1,p2,a2,n2,c2,b2,m2,d2,p3,a3,n3,c3,b3,m3,d3,hvv,hcc,hc6,NN,r1,r2,r3,i1,i2,i3⟩ := hv.at hil
      cases hvv
      clear r1 r2 r3 i1 i2 i3
      have g1 : (i : Int) < (n : Int) := by omega
      have g0 : (0 : Int) ≤ (i : Int) := by omega
      have HNI := HN.out i hil
      obtain ⟨lf,hlf⟩ : ∃ z,(t i).leaf = z := ⟨_,rfl⟩
      obtain ⟨ll,hll⟩ : ∃ z,(t i).left = z := ⟨_,rfl⟩
      obtain ⟨rr,hrr⟩ : ∃ z,(t i).right = z := ⟨_,rfl⟩
      have HLF : Hid ((t i).leaf = lf) := hlf
      have HLL : Hid ((t i).left = ll) := hll
      have HRR : Hid ((t i).right = rr) := hrr
      rw [hlf,hll,hrr] at HNI
      rw [hlf,hll,hrr] at NN
      clear hlf hll hrr
      generalize (t i).miss = ms at NN
      generalize (t i).feat = ft at NN
      have hO2 : IntOwn w.heap.size (wr.alloc (.cells #[.int .i64 (i : Int)] 3)) (.slice oo outs.length co_) outs := hO1.later ((Below.refl _ _).alloc (Nat.le_refl _) _)
      have hW2 : IntOwn w.heap.size (wr.alloc (.cells #[.int .i64 (i : Int)] 3)) (.slice (some ⟨gw,0,none⟩) k cw) ws := hWp.later ((Below.refl _ _).alloc (Nat.le_refl _) _)
      have BB2 : Below w.heap.size w (wr.alloc (.cells #[.int .i64 (i : Int)] 3)) := BB.alloc BB.size _
      have hsz2 : w.heap.size ≤ (wr.alloc (.cells #[.int .i64 (i : Int)] 3)).heap.size := BB2.size
      cases lf
      · obtain ⟨n1_,n2_,n3_,n4_⟩ := HNI rfl
        obtain ⟨l,rfl⟩ : ∃ l : Nat,ll = (l : Int) := ⟨ll.toNat,by omega⟩
        obtain ⟨m,rfl⟩ : ∃ m : Nat,rr = (m : Int) := ⟨rr.toNat,by omega⟩
        have HI2 : Hid (DInv t n (outs ++ [i]) (ws ++ [m,l])) := HI.out.split HO.out HLF.out HLL.out HRR.out (by omega) (by omega) (by omega) (by omega)
        have hl2 := HI2.out.len
        rw [List.length_append,List.length_append] at hl2
        clear HI HNI HLF HLL HRR
        go_wp2_with (first
          | (at_builtin
             refine wpList_append_pureM (Q' := fun _ => False) rfl _ _ _ rfl w.heap.size 3 (.int .i64 0) 1 8 Tryz.underlying35 info_int rfl (by omega) (.slice oo outs.length co_) rfl outs.length (outs.map (fun x : Nat => Value.int .i64 (x : Int))) hO2 (fun _ _ _ _ _ h => h) ⟨wr.heap.size,0,none⟩ 1 1 (by omega) (by omega) rfl [.int .i64 (i : Int)] rfl (news_block (heap_alloc_new _ _)) (by simp [Value.oneCell']) (by simp) (by simp) (by omega) (by omega) hsz2 ?_
             intro go co2 w2 hO3 hg3 hat3 _ _
             have hW3 := hW2.stay hg3 hAs2.symm
             have hAs3 := (asideI_new hW2 hAs2.symm hat3 (m := outs.length + 1) (c := co2)).symm
             have hO4 := int_more hO3
             have hB3 : Below w.heap.size w w2 := below_grownB BB2 hg3 BB2.size (fun g h => (hO2.both g h).1)
             clear hO3 hg3 hat3 BB2 hO2 hW2 hWp hO1 hAs2 BB XW
             obtain ⟨N_0,N_1,N_2,N_3,N_4,N_5,N_6,N_7,N_8,N_9,N_10,N_11,N_12,N_13⟩ := NN.low hB3
             obtain ⟨W1,hW1,hS1,hL1,VN,FN⟩ := V14.lay w2 48 (.bool false) (.int .i64 ft) (.bool p1) (.slice a1 n1 c1) (.slice b1 m1 d1) (.int .i64 (l : Int)) (.int .i64 (m : Int)) (.bool ms) (.bool p2) (.slice a2 n2 c2) (.slice b2 m2 d2) (.bool p3) (.slice a3 n3 c3) (.slice b3 m3 d3)
             replace hB3 := hB3.trans (hL1.mono hB3.size)
             have hO5 := hO4.later hL1
             have hW5 := hW3.later hL1
             obtain ⟨V_0,V_1,V_2,V_3,V_4,V_5,V_6,V_7,V_8,V_9,V_10,V_11,V_12,V_13⟩ := id VN
             have hA6 : Below W1.heap.size W1 (W1.alloc (.cells #[.int .i64 (m : Int),.int .i64 (l : Int)] 3)) := (Below.refl _ _).alloc (Nat.le_refl _) _
             have hO6 := hO5.later hA6
             have hW6 := hW5.later hA6
             have BB6 : Below w.heap.size w (W1.alloc (.cells #[.int .i64 (m : Int),.int .i64 (l : Int)] 3)) := hB3.alloc hB3.size _
             have hsz6 := BB6.size
             have hnb6 := news_block (heap_alloc_new W1 (.cells #[.int .i64 (m : Int),.int .i64 (l : Int)] 3))
             rw [hS1] at hnb6
             have hW7 := int_len HWK.out hW6
             subst hW1)
          | (at_builtin
             refine wpList_append_pureM (Q' := fun _ => False) rfl _ _ _ rfl w.heap.size 3 (.int .i64 0) 1 8 Tryz.underlying35 info_int rfl (by omega) (.slice (some ⟨gw,0,none⟩) k cw) rfl k (ws.map (fun x : Nat => Value.int .i64 (x : Int))) hW7 (fun _ _ _ _ _ h => h) ⟨w2.heap.size + 1,0,none⟩ 2 2 (by omega) (by omega) ?g12 [.int .i64 (m : Int),.int .i64 (l : Int)] rfl hnb6 ?g15 ?g16 ?g17 (by omega) (by omega) hsz6 ?_
             case g12 => (first | (simp; done) | rfl)
             case g15 => simp [Value.oneCell']
             case g16 => simp
             case g17 => simp
             intro gn cn w3 hW8 hg8 hat8 _ _
             have hO9 := hO6.stay hg8 hAs3
             have hAs9 := asideI_new hO6 hAs3 hat8 (m := k + 2) (c := cn)
             have hB9 : Below w.heap.size w w3 := below_grownB BB6 hg8 BB6.size (fun g h => (hW6.both g h).1)
             have hW9 := int_more2 HWK.out hW8
             clear hW8 hg8 hat8 hW7 hO6 hW6 BB6 hA6 hnb6 hsz6 V_0 V_1 V_2 V_3 V_4 V_5 V_6 V_7 V_8 V_9 V_10 V_11 V_12 V_13))
        go_roundw
        case rel => exact ⟨outs ++ [i],ws ++ [m,l],hO9,hW9,hAs9,HI2,hB9⟩
        case measure => simp [lenV]; simp at hl2; omega
      · have HI2 : Hid (DInv t n (outs ++ [i]) ws) := HI.out.leaf HLF.out
        have hl2 := HI2.out.len
        rw [List.length_append] at hl2
        clear HI HNI HLF HLL HRR
        go_wp2_with (first
          | (at_builtin
             refine wpList_append_pureM (Q' := fun _ => False) rfl _ _ _ rfl w.heap.size 3 (.int .i64 0) 1 8 Tryz.underlying35 info_int rfl (by omega) (.slice oo outs.length co_) rfl outs.length (outs.map (fun x : Nat => Value.int .i64 (x : Int))) hO2 (fun _ _ _ _ _ h => h) ⟨wr.heap.size,0,none⟩ 1 1 (by omega) (by omega) rfl [.int .i64 (i : Int)] rfl (news_block (heap_alloc_new _ _)) (by simp [Value.oneCell']) (by simp) (by simp) (by omega) (by omega) hsz2 ?_
             intro go co2 w2 hO3 hg3 hat3 _ _
             have hW3 := hW2.stay hg3 hAs2.symm
             have hAs3 := (asideI_new hW2 hAs2.symm hat3 (m := outs.length + 1) (c := co2)).symm
             have hO4 := int_more hO3
             have hB3 : Below w.heap.size w w2 := below_grownB BB2 hg3 BB2.size (fun g h => (hO2.both g h).1)
             clear hO3 hg3 hat3 BB2 hO2 hW2 hWp hO1 hAs2 BB XW
             obtain ⟨N_0,N_1,N_2,N_3,N_4,N_5,N_6,N_7,N_8,N_9,N_10,N_11,N_12,N_13⟩ := NN.low hB3
             obtain ⟨W1,hW1,hS1,hL1,VN,FN⟩ := V14.lay w2 48 (.bool true) (.int .i64 ft) (.bool p1) (.slice a1 n1 c1) (.slice b1 m1 d1) (.int .i64 ll) (.int .i64 rr) (.bool ms) (.bool p2) (.slice a2 n2 c2) (.slice b2 m2 d2) (.bool p3) (.slice a3 n3 c3) (.slice b3 m3 d3)
             replace hB3 := hB3.trans (hL1.mono hB3.size)
             have hO5 := hO4.later hL1
             have hW5 := hW3.later hL1
             obtain ⟨V_0,V_1,V_2,V_3,V_4,V_5,V_6,V_7,V_8,V_9,V_10,V_11,V_12,V_13⟩ := id VN
             subst hW1))
        go_roundw
        case rel => exact ⟨outs ++ [i],ws,hO5,by have := HWK.out; unfold IntOwn at hW5 ⊢; rw [this] at hW5 ⊢; exact hW5,hAs3,HI2,hB3⟩
        case measure => simp [lenV]; simp at hl2; omega

theorem once_bad1 (t : Nat → Nd) (n j : Nat) : bad5 1 (fun x => (par t x n : Int)) j = bad1 t n j := by
 unfold bad5 bad1
 congr 1
 by_cases h : par t j n = 1
 ·rw [decide_eq_false (by simp [h]),decide_eq_false (by simp [h])]
 ·rw [decide_eq_true (show (par t j n : Int) ≠ 1 by omega),decide_eq_true h]
theorem once_bad2 {t : Nat → Nd} {n : Nat} {outs : List Nat} (h : DInv t n outs []) (ho : Once t n) (j : Nat) (hj : j < n) : bad5 0 (fun x => (outs.count x : Int)) j = bad2 t n j := by
 unfold bad5 bad2
 rw [decide_eq_true (Nat.zero_le _),Bool.true_and]
 have hd : outs.Nodup := by have := h.nodup; simpa using this
 have hm := h.all ho j hj
 by_cases e : j ∈ outs
 ·rw [hm.2 e]
  refine decide_eq_false ?_
  show ¬ ((outs.count j : Nat) : Int) ≠ 1
  rw [hd.count,if_pos e]
  simp
 ·have : lawUp t n (n + 1) j = false := by
   cases g : lawUp t n (n + 1) j with
   | false => rfl
   | true => exact absurd (hm.1 g) e
  rw [this]
  refine decide_eq_true ?_
  show ((outs.count j : Nat) : Int) ≠ 1
  rw [hd.count,if_neg e]
  simp
theorem rlV1_some {F : Int} {t : Nat → Nd} {n j : Nat} (h : fb (bad1 t n) n = some j) : rlV F t n 1 = .agg #[.int .i64 11,.int .i64 0,.int .i64 0,.int .i64 (j : Int)] := by
 rw [rlV1,h]
 show nfV (bad1 t n) n 11 = _
 unfold nfV
 rw [h]
 rfl
theorem rlV1_none {F : Int} {t : Nat → Nd} {n : Nat} (h : fb (bad1 t n) n = none) : rlV F t n 1 = nfV (bad2 t n) n 11 := by rw [rlV1,h]
theorem nfV_agg (p : Nat → Bool) (n : Nat) (e : Int) : ∃ a d : Int,nfV p n e = .agg #[.int .i64 a,.int .i64 0,.int .i64 0,.int .i64 d] := by
 unfold nfV
 cases fb p n with
 | none => exact ⟨0,0,rfl⟩
 | some j => exact ⟨e,(j : Int),rfl⟩
theorem count_take {outs : List Nat} {k x : Nat} (h : outs[k]? = some x) (y : Nat) : (outs.take (k + 1)).count y = (outs.take k).count y + (if y = x then 1 else 0) := by
 rw [List.take_add_one,h]
 simp only [Option.toList,List.count_append,List.count_singleton]
 by_cases e : y = x
 ·subst e; simp
 ·rw [if_neg e]; simp; exact fun h => e h.symm
set_option maxRecDepth 100000 in
set_option maxHeartbeats 8000000 in
theorem isTree_at (v : Value) (n : Nat) (t : Nat → Nd) (F : Int) (L : Nat) (w : World) (hv : TRow w v n t L) (hN : Named t n) (hn0 : 0 < n) (hn : n ≤ 255) :
  Calls Tryz.prog 119 #[v,.int .i64 F] w fun e w' => e = .returned (rlV F t n 1) ∧ Below w.heap.size w w' := by
 obtain ⟨ao,c,rfl,hnc,hc63⟩ := hv.open
 obtain ⟨i0,hi,hz0,hz1,hz2⟩ := info_parts info_int
 have BB : Below w.heap.size w w := Below.refl _ _
 obtain ⟨Wb0,hW0,hS0,hL0,VR⟩ := V4.lay w 102 (.int .i64 0) (.int .i64 0) (.int .i64 0) (.int .i64 0)
 replace hv := hv.below hL0
 replace BB := BB.xm hL0
 clear hL0
 go_enter Tryz.func119,Tryz.ntmps119
 go_wp2_with fail
 rw [← hW0]
 clear hW0 hS0
 refine (parents_at _ n t L _ hv hN hn).mono ?_
 rintro e w1 ⟨rp,rfl,NP,b1⟩
 replace hv := hv.below b1
 replace VR := VR.below b1
 replace BB := BB.xm b1
 clear b1
 go_wp2_with fail
 refine (notOnce_at _ n 1 (fun x => (par t x n : Int)) _ NP).mono ?_
 rintro e w2 ⟨rfl,b2⟩
 replace hv := hv.below b2
 replace NP := NP.below b2
 replace VR := VR.below b2
 replace BB := BB.xm b2
 clear b2
 rw [nfV_congr (fun j _ => once_bad1 t n j)]
 have HFB : Hid (nfV (bad1 t n) n 11 = fltV ((fb (bad1 t n) n).map (fun i => (11,0,i)))) := rfl
 rw [HFB.out]
 cases hfb : fb (bad1 t n) n
 clear NP
 ·have HF1 : Hid (fb (bad1 t n) n = none) := hfb
  have HO : Hid (Once t n) := bad1_once hfb
  clear hfb HFB
  rw [show fltV (Option.map (fun i => ((11 : Int),0,i)) none) = .agg #[.int .i64 0,.int .i64 0,.int .i64 0,.int .i64 0] from rfl]
  obtain ⟨W1,hW1,hS1,hL1,VF⟩ := V4.lay w2 102 (.int .i64 0) (.int .i64 0) (.int .i64 0) (.int .i64 0)
  replace hv := hv.below hL1
  replace VR := VR.below hL1
  replace BB := BB.xm hL1
  obtain ⟨⟨y1,y2,y3,y4,y5,y6⟩,y7,y8⟩ := id VF
  rw [hW1] at y1 y2 y3 y4 y5 y6 y7 y8
  clear VF hS1
  go_wp2_with (at_make; rw [← hW1]; refine wpList_make_full _ rfl _ _ 35 rfl _ 3 i0 (.int .i64 0) 1 Tryz.underlying35 hi hz0 hz1 _ _ _ _ n rfl rfl (by omega) (by omega) (by rw [hz2]; omega) (by unfold maxLen; omega) (Nat.le_refl _) ?_; intro w3 hown hgrow; clear hW1 y1 y2 y3 y4 y5 y6 y7 y8)
  obtain ⟨hC,hSf⟩ := mine_made (k := .i64) (w := W1) hown (fun _ => 0) (fun i hi => made_zero .i64 n i hi)
  have hG := (World.ownsRow.lt hown W1.heap.size rfl).2
  have hb3 := below_grown hgrow
  clear hown hgrow hi hz0 hz1 hz2 hL1
  have hv3 := hv.below hb3
  refine (reached_at _ n t L _ hv3 hN HO.out hn0 hn).mono ?_
  rintro e w4 ⟨r2,outs,rfl,hO,hD,b4⟩
  have HD : Hid (DInv t n outs []) := hD
  have hol := hD.len
  have hsm := hD.small
  clear hD hv3
  have hC4 := hC.below b4 hG
  have hSf4 := hSf.below b4 hG
  have hb4 := hb3.trans (b4.mono hb3.size)
  have hG4 : W1.heap.size < w4.heap.size := Nat.lt_of_lt_of_le hG b4.size
  have HG3 : Hid (W1.heap.size < w3.heap.size) := hG
  simp only [List.append_nil] at hsm
  have HSM : Hid (∀ x,x ∈ outs → x < n) := hsm
  clear hsm hC hSf hb3 b4 hG
  obtain ⟨ro,rc,rfl,hrc⟩ := hO.form
  go_wp2
  go_loopw [22] (fun vi wr => ∃ k : Nat,k ≤ outs.length ∧ vi = .int .i64 (k : Int) ∧ Cells wr .i64 W1.heap.size 0 n (fun x => ((outs.take k).count x : Int)) ∧ Soft wr W1.heap.size 0 n ∧ IntOwn w3.heap.size wr (.slice ro outs.length rc) outs ∧ W1.heap.size < wr.heap.size ∧ Below W1.heap.size W1 wr) (fun vi _ => outs.length - (intOf vi).toNat)
  case atStart => exact ⟨0,by omega,rfl,hC4,hSf4,hO,hG4,hb4⟩
  case round =>
   clear hC4 hSf4 hO hG4 hb4
   obtain ⟨k,hk,rfl,hC,hSf,hO,hG,BL⟩ := hrel
   simp only [List.length_nil,Nat.add_zero] at hol
   by_cases hlt : k < outs.length
   ·obtain ⟨i,hi⟩ : ∃ i,outs[k]? = some i := ⟨outs[k],List.getElem?_eq_getElem hlt⟩
    have hin : i < n := HSM.out i (List.mem_of_getElem? hi)
    obtain ⟨gw,cw,hvv,hwc⟩ := hO.open (by omega)
    cases hvv
    have XO := hO.cell rfl hi
    have XC := zero_off hC hin
    have YC := zero_soft hSf hin
    have g1 : (k : Int) < (outs.length : Int) := by omega
    have g0 : (0 : Int) ≤ (k : Int) := by omega
    have e0 : (0 : Int) ≤ (i : Int) := by omega
    have e1 : (i : Int) < (n : Int) := by omega
    have hcb : (outs.take k).count i ≤ 255 := Nat.le_trans List.count_le_length (by rw [List.length_take]; omega)
    obtain ⟨pc,hpc⟩ : ∃ z,(outs.take k).count i = z := ⟨_,rfl⟩
    rw [hpc] at XC hcb
    have HPC : Hid ((outs.take k).count i = pc) := hpc
    have HI : Hid (outs[k]? = some i) := hi
    clear hpc hi
    have wl : IntKind.i64.wrap ((pc : Int) + 1) = (pc : Int) + 1 := by rw [IntKind.wrap_i64]; omega
    have hC2 := zero_set hC hin ((pc : Int) + 1)
    have hSf2 : Soft _ W1.heap.size 0 n := hSf.set ⟨W1.heap.size,i,none⟩ (.int .i64 ((pc : Int) + 1))
    have hO2 : IntOwn w3.heap.size (wr.setCell ⟨W1.heap.size,i,none⟩ (.int .i64 ((pc : Int) + 1))) _ outs := ownsRow_setCell_below hO HG3.out _
    have BL2 : Below W1.heap.size W1 (wr.setCell ⟨W1.heap.size,i,none⟩ (.int .i64 ((pc : Int) + 1))) := BL.setCell (Nat.le_refl _) _
    have HCG : Hid (∀ x,x < n → put (fun x => ((outs.take k).count x : Int)) i ((pc : Int) + 1) x = ((outs.take (k + 1)).count x : Int)) := fun x hx => by
     rw [count_take HI.out x]
     by_cases e : x = i
     ·subst e; rw [put_same,if_pos rfl,HPC.out]; omega
     ·rw [put_other _ _ _ _ e,if_neg e]; simp
    clear HPC HI
    go_wp2
    go_roundw
    case rel => exact ⟨k + 1,by omega,by go_num,hC2.congr HCG.out,hSf2,hO2,by simpa using hG,BL2⟩
    case measure => simp [intOf]; omega
   ·obtain rfl : k = outs.length := by omega
    have g1 : ¬ (outs.length : Int) < (outs.length : Int) := by omega
    rw [List.take_length] at hC
    have VR2 := VR.below BL
    have BB2 := BB.trans (BL.mono BB.size)
    have NT : Nums .i64 wr (.slice (some ⟨W1.heap.size,0,none⟩) n n) n (fun x => (outs.count x : Int)) := ⟨_,_,rfl,Nat.le_refl _,by unfold LIM; omega,fun _ => ⟨_,_,rfl,hC⟩⟩
    go_wp2_with fail
    refine (notOnce_at _ n 0 (fun x => (outs.count x : Int)) _ NT).mono ?_
    rintro e w6 ⟨rfl,b6⟩
    replace VR := VR2.below b6
    replace BB := BB2.trans (b6.mono BB2.size)
    rw [nfV_congr (fun j hj => once_bad2 HD.out HO.out j hj),← rlV1_none (F := F) HF1.out]
    obtain ⟨fa,fd,hfa⟩ := nfV_agg (bad2 t n) n 11
    rw [← rlV1_none (F := F) HF1.out] at hfa
    have HFA : Hid (rlV F t n 1 = .agg #[.int .i64 fa,.int .i64 0,.int .i64 0,.int .i64 fd]) := hfa
    rw [hfa]
    clear hfa
    obtain ⟨⟨q1,q2,q3,q4,q5,q6⟩,q7,q8⟩ := id VR
    go_wp2
    (try simp only [Exit.inBlock,Exit.then])
    refine bodyPost_ret (v := .agg #[.int .i64 fa,.int .i64 0,.int .i64 0,.int .i64 fd]) (by simp [results,go_sem,q1,q2,q3,q7]) rfl ?_
    exact ⟨congrArg Ending.returned (HFA.out).symm,below_store4 BB (by omega) _ _ _ _⟩
 ·rename_i j
  have HF1 : Hid (fb (bad1 t n) n = some j) := hfb
  clear hfb HFB
  rw [show fltV (Option.map (fun i => ((11 : Int),0,i)) (some j)) = .agg #[.int .i64 11,.int .i64 0,.int .i64 0,.int .i64 (j : Int)] from rfl]
  obtain ⟨W1,rfl,hS1,hL1,VF⟩ := V4.lay w2 102 (.int .i64 11) (.int .i64 0) (.int .i64 0) (.int .i64 (j : Int))
  replace VR := VR.below hL1
  replace BB := BB.xm hL1
  obtain ⟨⟨y1,y2,y3,y4,y5,y6⟩,y7,y8⟩ := id VF
  obtain ⟨⟨q1,q2,q3,q4,q5,q6⟩,q7,q8⟩ := id VR
  go_wp2
  (try simp only [Exit.inBlock,Exit.then])
  refine bodyPost_ret (v := .agg #[.int .i64 11,.int .i64 0,.int .i64 0,.int .i64 (j : Int)]) (by simp [results,go_sem,q1,q2,q3,q7]) rfl ?_
  exact ⟨congrArg Ending.returned (rlV1_some HF1.out).symm,below_store4 BB (by omega) _ _ _ _⟩

theorem N14.below {w w' : World} {b o : Nat} {x0 x1 x2 x3 x4 x5 x6 x7 x8 x9 x10 x11 x12 x13 : Value} (h : N14 w b o x0 x1 x2 x3 x4 x5 x6 x7 x8 x9 x10 x11 x12 x13) (hb : Below w.heap.size w w') : N14 w' b o x0 x1 x2 x3 x4 x5 x6 x7 x8 x9 x10 x11 x12 x13 := h.low hb
theorem bad4_leaf {t : Nat → Nd} {i : Nat} (h : (t i).leaf = true) : bad4 t i = false := by unfold bad4; rw [h]; rfl
theorem bad4_split {t : Nat → Nd} {i l m : Nat} (h : (t i).leaf = false) (hl : (t i).left = (l : Int)) (hm : (t i).right = (m : Int)) : bad4 t i = !decide ((t i).cov = (t l).cov + (t m).cov) := by
 unfold bad4
 rw [h,hl,hm]
 rfl
set_option maxRecDepth 100000 in
set_option maxHeartbeats 8000000 in
theorem addsUp_at (v : Value) (n : Nat) (t : Nat → Nd) (F : Int) (L : Nat) (w : World) (hv : TRow w v n t L) (ht : Tab w) (hN : Named t n) (hL : 1 ≤ L) (hLM : L ≤ 30000) :
  Calls Tryz.prog 121 #[v,.int .i64 F] w fun e w' => e = .returned (rlV F t n 3) ∧ Below w.heap.size w w' := by
 obtain ⟨ao,c,rfl,hnc,hc63⟩ := hv.open
 have BB : Below w.heap.size w w := Below.refl _ _
 obtain ⟨Wb0,hW0,hS0,hL0,VR⟩ := V4.lay w 102 (.int .i64 0) (.int .i64 0) (.int .i64 0) (.int .i64 0)
 replace hv := hv.below hL0
 replace BB := BB.xm hL0
 clear hL0
 go_enter Tryz.func121,Tryz.ntmps121
 go_wp2
 rw [← hW0]
 clear hW0 hS0
 have ht0 := ht
 have hv0 := hv
 have VR0 := VR
 have BB0 : Hid (Below w.heap.size w Wb0) := BB
 clear hv ht VR BB
 have HN : Hid (Named t n) := hN
 clear hN
 go_loopw [9] (fun vi wr => ∃ i : Nat,i ≤ n ∧ vi = .int .i64 (i : Int) ∧ Hid (∀ j,j < i → bad4 t j = false) ∧ Below Wb0.heap.size Wb0 wr) (fun vi _ => n - (intOf vi).toNat)
 case atStart => exact ⟨0,by omega,rfl,fun j hj => by omega,Below.refl _ _⟩
 case round =>
  obtain ⟨i,hi,rfl,HB,BL⟩ := hrel
  have VR := VR0.below BL
  have BB := BB0.out.trans (BL.mono BB0.out.size)
  by_cases hlt : i < n
  ·have g1 : (i : Int) < (n : Int) := by omega
   have g0 : (0 : Int) ≤ (i : Int) := by omega
   have hv1 := hv0.below BL
   obtain ⟨b,off,cc,p1,a1,n1,c1,b1,m1,d1,p2,a2,n2,c2,b2,m2,d2,p3,a3,n3,c3,b3,m3,d3,hvv,hcc,hc6,NN,r1,r2,r3,i1,i2,i3⟩ := hv1.at hlt
   cases hvv
   clear r1 r2 i1 i2 i3
   have BLR := BL
   clear BL
   have HNI := HN.out i hlt
   obtain ⟨lf,hlf⟩ : ∃ z,(t i).leaf = z := ⟨_,rfl⟩
   obtain ⟨ll,hll⟩ : ∃ z,(t i).left = z := ⟨_,rfl⟩
   obtain ⟨rr,hrr⟩ : ∃ z,(t i).right = z := ⟨_,rfl⟩
   have HLF : Hid ((t i).leaf = lf) := hlf
   have HLL : Hid ((t i).left = ll) := hll
   have HRR : Hid ((t i).right = rr) := hrr
   rw [hlf,hll,hrr] at HNI
   rw [hlf,hll,hrr] at NN
   clear hlf hll hrr
   generalize (t i).miss = ms at NN
   generalize (t i).feat = ft at NN
   cases lf
   ·obtain ⟨n1_,n2_,n3_,n4_⟩ := HNI rfl
    obtain ⟨l,rfl⟩ : ∃ l : Nat,ll = (l : Int) := ⟨ll.toNat,by omega⟩
    obtain ⟨m,rfl⟩ : ∃ m : Nat,rr = (m : Int) := ⟨rr.toNat,by omega⟩
    have hl1 : l < n := by omega
    have hm1 : m < n := by omega
    have e1 : (0 : Int) ≤ (l : Int) := by omega
    have e2 : (l : Int) < (n : Int) := by omega
    have e3 : (0 : Int) ≤ (m : Int) := by omega
    have e4 : (m : Int) < (n : Int) := by omega
    clear HNI
    obtain ⟨bL,offL,ccL,p1L,a1L,n1L,c1L,b1L,m1L,d1L,p2L,a2L,n2L,c2L,b2L,m2L,d2L,p3L,a3L,n3L,c3L,b3L,m3L,d3L,hvvL,hccL,hc6L,NNL,r1L,r2L,r3L,i1L,i2L,i3L⟩ := hv1.at hl1
    cases hvvL
    obtain ⟨bM,offM,ccM,p1M,a1M,n1M,c1M,b1M,m1M,d1M,p2M,a2M,n2M,c2M,b2M,m2M,d2M,p3M,a3M,n3M,c3M,b3M,m3M,d3M,hvvM,hccM,hc6M,NNM,r1M,r2M,r3M,i1M,i2M,i3M⟩ := hv1.at hm1
    cases hvvM
    clear hv1 r1L r2L r1M r2M i1L i2L i3L i1M i2M i3M
    have HP : Hid (bad4 t i = !decide ((t i).cov = (t l).cov + (t m).cov)) := bad4_split HLF.out HLL.out HRR.out
    have sl := r3L.qsz hL
    have sm := r3M.qsz hL
    have sS : qsz ((t l).cov + (t m).cov) ≤ L + L + 1 := qsz_add _ _ sl sm
    clear HLF HLL HRR
    have ht1 := ht0.below BB
    obtain ⟨N_0,N_1,N_2,N_3,N_4,N_5,N_6,N_7,N_8,N_9,N_10,N_11,N_12,N_13⟩ := id NN
    obtain ⟨W21,hW21,hS21,hL21,VN,FN⟩ := V14.lay wr 48 (.bool false) (.int .i64 ft) (.bool p1) (.slice a1 n1 c1) (.slice b1 m1 d1) (.int .i64 (l : Int)) (.int .i64 (m : Int)) (.bool ms) (.bool p2) (.slice a2 n2 c2) (.slice b2 m2 d2) (.bool p3) (.slice a3 n3 c3) (.slice b3 m3 d3)
    replace VR := VR.below hL21
    replace NNL := NNL.below hL21
    replace NNM := NNM.below hL21
    replace r3 := r3.below hL21
    replace r3L := r3L.below hL21
    replace r3M := r3M.below hL21
    replace ht1 := ht1.below hL21
    replace BLR := BLR.trans (hL21.mono BLR.size)
    replace BB := BB.xm hL21
    clear hL21
    obtain ⟨V_0,V_1,V_2,V_3,V_4,V_5,V_6,V_7,V_8,V_9,V_10,V_11,V_12,V_13⟩ := id VN
    rw [hW21] at V_0 V_1 V_2 V_3 V_4 V_5 V_6 V_7 V_8 V_9 V_10 V_11 V_12 V_13
    go_wp2
    clear V_0 V_1 V_2 V_3 V_4 V_5 V_6 V_7 V_8 V_9 V_10 V_11 V_12 V_13
    clear N_0 N_1 N_2 N_3 N_4 N_5 N_6 N_7 N_8 N_9 N_10 N_11 N_12 N_13
    rw [← hW21]
    generalize wr.heap.size = R21 at *
    clear hW21 hS21
    by_cases hq : (t i).cov = (t l).cov + (t m).cov
    ·have hDr : Below W21.heap.size W21 W21.drew := (Below.refl _ _).drew
     replace VR := VR.below hDr
     replace NNL := NNL.below hDr
     replace NNM := NNM.below hDr
     replace r3 := r3.below hDr
     replace r3L := r3L.below hDr
     replace r3M := r3M.below hDr
     replace ht1 := ht1.below hDr
     replace VN := VN.below hDr
     replace BB := BB.xm hDr
     replace BLR := BLR.trans (hDr.mono BLR.size)
     clear hDr
     refine wp_region_held_drew (S := (fun w' => w'.cell? ⟨R21,0,none⟩ = some (.bool false) ∧ w'.cell? ⟨R21,5,none⟩ = some (.int .i64 (l : Int)) ∧ w'.cell? ⟨R21,6,none⟩ = some (.int .i64 (m : Int)) ∧ w'.cell? ⟨R21,11,none⟩ = some (.bool p3) ∧ w'.cell? ⟨R21,12,none⟩ = some (.slice a3 n3 c3) ∧ w'.cell? ⟨R21,13,none⟩ = some (.slice b3 m3 d3) ∧ w'.cell? ⟨b,off + l * 14 + 11,none⟩ = some (.bool p3L) ∧ w'.cell? ⟨b,off + l * 14 + 12,none⟩ = some (.slice a3L n3L c3L) ∧ w'.cell? ⟨b,off + l * 14 + 13,none⟩ = some (.slice b3L m3L d3L) ∧ w'.cell? ⟨b,off + m * 14 + 11,none⟩ = some (.bool p3M) ∧ w'.cell? ⟨b,off + m * 14 + 12,none⟩ = some (.slice a3M n3M c3M) ∧ w'.cell? ⟨b,off + m * 14 + 13,none⟩ = some (.slice b3M m3M d3M))) (by kernel_rfl) ?_ (fun hHeld => ?_)
     ·exact ⟨VN.c0,VN.c5,VN.c6,VN.c11,VN.c12,VN.c13,NNL.c11,NNL.c12,NNL.c13,NNM.c11,NNM.c12,NNM.c13⟩
     generalize W21.drew = W22 at *
     refine xV 0 (h := ?_)
     refine xV 1 (h := ?_)
     refine xV 2 (h := ?_)
     refine xV 3 (h := ?_)
     refine xV 4 (h := ?_)
     refine xV 5 (h := ?_)
     refine xV 6 (h := ?_)
     refine xV 7 (h := ?_)
     refine xV 8 (h := ?_)
     refine xV 9 (h := ?_)
     refine xV 10 (h := ?_)
     refine xV 11 (h := ?_)
     refine xV 12 (h := ?_)
     refine xV 13 (h := ?_)
     refine xV 14 (h := ?_)
     refine xV 15 (h := ?_)
     refine xV 16 (h := ?_)
     refine xV 17 (h := ?_)
     refine xR [18] (h := ?_)
     refine xN (h := fun K hK => ?_)
     go_simp
     refine (qadd_at _ _ (t l).cov (t m).cov L _ r3L r3M hL (by omega) ht1).mono ?_
     rintro e w21 ⟨x18,rfl,h18,b21⟩
     go_wp2_with fail
     replace VR := VR.below b21
     replace NNL := NNL.below b21
     replace NNM := NNM.below b21
     replace r3 := r3.below b21
     replace r3L := r3L.below b21
     replace r3M := r3M.below b21
     replace ht1 := ht1.below b21
     replace VN := VN.below b21
     replace BB := BB.xm b21
     replace BLR := BLR.trans (b21.mono BLR.size)
     clear b21
     refine hK.out _ _ ?_ (fun hH1 => ?_)
     ·exact ⟨VN.c0,VN.c5,VN.c6,VN.c11,VN.c12,VN.c13,NNL.c11,NNL.c12,NNL.c13,NNM.c11,NNM.c12,NNM.c13⟩
     clear hK K hHeld
     (try simp only [Act.put,xL4,xL5,xL6])
     refine xR [19] (h := ?_)
     refine xN (h := fun K hK => ?_)
     go_simp
     refine (qsame_at _ _ (t i).cov ((t l).cov + (t m).cov) (L + L + 1) _ (r3.le (by omega)) (h18.at (L + L + 1) sS) (by omega) (by omega)).mono ?_
     rintro e w22 ⟨rfl,b22⟩
     rw [decide_eq_true hq]
     go_wp2_with fail
     replace VR := VR.below b22
     replace NNL := NNL.below b22
     replace NNM := NNM.below b22
     replace r3 := r3.below b22
     replace r3L := r3L.below b22
     replace r3M := r3M.below b22
     replace ht1 := ht1.below b22
     replace VN := VN.below b22
     replace h18 := h18.below b22
     replace BB := BB.xm b22
     replace BLR := BLR.trans (b22.mono BLR.size)
     clear b22
     refine hK.out _ _ ?_ (fun hH2 => ?_)
     ·exact ⟨VN.c0,VN.c5,VN.c6,VN.c11,VN.c12,VN.c13,NNL.c11,NNL.c12,NNL.c13,NNM.c11,NNM.c12,NNM.c13⟩
     clear hK K hH1
     (try simp only [Act.put,xL4,xL5,xL6])
     refine xV 20 (h := ?_)
     refine xV 21 (h := ?_)
     refine wpAnyH_done (by kernel_rfl) ?_ _
     clear hH2
     have HB2 : Hid (∀ j,j < i + 1 → bad4 t j = false) := fun j hj => by
      by_cases e : j = i
      ·subst e; rw [HP.out,decide_eq_true hq]; rfl
      ·exact HB.out j (by omega)
     clear HB
     go_wp2
     go_roundw
     case rel => exact ⟨i + 1,by omega,by go_num,HB2,BLR⟩
     case measure => simp [intOf]; omega
    ·have hDr : Below W21.heap.size W21 W21.drew := (Below.refl _ _).drew
     replace VR := VR.below hDr
     replace NNL := NNL.below hDr
     replace NNM := NNM.below hDr
     replace r3 := r3.below hDr
     replace r3L := r3L.below hDr
     replace r3M := r3M.below hDr
     replace ht1 := ht1.below hDr
     replace VN := VN.below hDr
     replace BB := BB.xm hDr
     replace BLR := BLR.trans (hDr.mono BLR.size)
     clear hDr
     refine wp_region_held_drew (S := (fun w' => w'.cell? ⟨R21,0,none⟩ = some (.bool false) ∧ w'.cell? ⟨R21,5,none⟩ = some (.int .i64 (l : Int)) ∧ w'.cell? ⟨R21,6,none⟩ = some (.int .i64 (m : Int)) ∧ w'.cell? ⟨R21,11,none⟩ = some (.bool p3) ∧ w'.cell? ⟨R21,12,none⟩ = some (.slice a3 n3 c3) ∧ w'.cell? ⟨R21,13,none⟩ = some (.slice b3 m3 d3) ∧ w'.cell? ⟨b,off + l * 14 + 11,none⟩ = some (.bool p3L) ∧ w'.cell? ⟨b,off + l * 14 + 12,none⟩ = some (.slice a3L n3L c3L) ∧ w'.cell? ⟨b,off + l * 14 + 13,none⟩ = some (.slice b3L m3L d3L) ∧ w'.cell? ⟨b,off + m * 14 + 11,none⟩ = some (.bool p3M) ∧ w'.cell? ⟨b,off + m * 14 + 12,none⟩ = some (.slice a3M n3M c3M) ∧ w'.cell? ⟨b,off + m * 14 + 13,none⟩ = some (.slice b3M m3M d3M))) (by kernel_rfl) ?_ (fun hHeld => ?_)
     ·exact ⟨VN.c0,VN.c5,VN.c6,VN.c11,VN.c12,VN.c13,NNL.c11,NNL.c12,NNL.c13,NNM.c11,NNM.c12,NNM.c13⟩
     generalize W21.drew = W22 at *
     refine xV 0 (h := ?_)
     refine xV 1 (h := ?_)
     refine xV 2 (h := ?_)
     refine xV 3 (h := ?_)
     refine xV 4 (h := ?_)
     refine xV 5 (h := ?_)
     refine xV 6 (h := ?_)
     refine xV 7 (h := ?_)
     refine xV 8 (h := ?_)
     refine xV 9 (h := ?_)
     refine xV 10 (h := ?_)
     refine xV 11 (h := ?_)
     refine xV 12 (h := ?_)
     refine xV 13 (h := ?_)
     refine xV 14 (h := ?_)
     refine xV 15 (h := ?_)
     refine xV 16 (h := ?_)
     refine xV 17 (h := ?_)
     refine xR [18] (h := ?_)
     refine xN (h := fun K hK => ?_)
     go_simp
     refine (qadd_at _ _ (t l).cov (t m).cov L _ r3L r3M hL (by omega) ht1).mono ?_
     rintro e w21 ⟨x18,rfl,h18,b21⟩
     go_wp2_with fail
     replace VR := VR.below b21
     replace NNL := NNL.below b21
     replace NNM := NNM.below b21
     replace r3 := r3.below b21
     replace r3L := r3L.below b21
     replace r3M := r3M.below b21
     replace ht1 := ht1.below b21
     replace VN := VN.below b21
     replace BB := BB.xm b21
     replace BLR := BLR.trans (b21.mono BLR.size)
     clear b21
     refine hK.out _ _ ?_ (fun hH1 => ?_)
     ·exact ⟨VN.c0,VN.c5,VN.c6,VN.c11,VN.c12,VN.c13,NNL.c11,NNL.c12,NNL.c13,NNM.c11,NNM.c12,NNM.c13⟩
     clear hK K hHeld
     (try simp only [Act.put,xL4,xL5,xL6])
     refine xR [19] (h := ?_)
     refine xN (h := fun K hK => ?_)
     go_simp
     refine (qsame_at _ _ (t i).cov ((t l).cov + (t m).cov) (L + L + 1) _ (r3.le (by omega)) (h18.at (L + L + 1) sS) (by omega) (by omega)).mono ?_
     rintro e w22 ⟨rfl,b22⟩
     rw [decide_eq_false hq]
     go_wp2_with fail
     replace VR := VR.below b22
     replace NNL := NNL.below b22
     replace NNM := NNM.below b22
     replace r3 := r3.below b22
     replace r3L := r3L.below b22
     replace r3M := r3M.below b22
     replace ht1 := ht1.below b22
     replace VN := VN.below b22
     replace h18 := h18.below b22
     replace BB := BB.xm b22
     replace BLR := BLR.trans (b22.mono BLR.size)
     clear b22
     refine hK.out _ _ ?_ (fun hH2 => ?_)
     ·exact ⟨VN.c0,VN.c5,VN.c6,VN.c11,VN.c12,VN.c13,NNL.c11,NNL.c12,NNL.c13,NNM.c11,NNM.c12,NNM.c13⟩
     clear hK K hH1
     (try simp only [Act.put,xL4,xL5,xL6])
     refine xV 20 (h := ?_)
     refine xV 21 (h := ?_)
     refine wpAnyH_done (by kernel_rfl) ?_ _
     clear hH2
     obtain ⟨⟨q1,q2,q3,q4,q5,q6⟩,q7,q8⟩ := id VR
     go_wp2
     (try simp only [Exit.inBlock,Exit.then])
     refine bodyPost_ret (v := .agg #[.int .i64 13,.int .i64 0,.int .i64 0,.int .i64 (i : Int)]) (by simp [results,go_sem,q1,q2,q3,q7]) rfl ?_
     exact ⟨congrArg Ending.returned ((rlV3 F t n).trans (nfV_some hlt HB.out (by rw [HP.out,decide_eq_false hq]; rfl))).symm,below_store4 BB (by omega) _ _ _ _⟩
   ·obtain ⟨N_0,N_1,N_2,N_3,N_4,N_5,N_6,N_7,N_8,N_9,N_10,N_11,N_12,N_13⟩ := id NN
    obtain ⟨W1,hW1,hS1,hL1,VN,FN⟩ := V14.lay wr 48 (.bool true) (.int .i64 ft) (.bool p1) (.slice a1 n1 c1) (.slice b1 m1 d1) (.int .i64 ll) (.int .i64 rr) (.bool ms) (.bool p2) (.slice a2 n2 c2) (.slice b2 m2 d2) (.bool p3) (.slice a3 n3 c3) (.slice b3 m3 d3)
    replace VR := VR.below hL1
    replace BLR := BLR.trans (hL1.mono BLR.size)
    replace BB := BB.xm hL1
    clear hL1
    obtain ⟨V_0,V_1,V_2,V_3,V_4,V_5,V_6,V_7,V_8,V_9,V_10,V_11,V_12,V_13⟩ := id VN
    rw [hW1] at V_0 V_1 V_2 V_3 V_4 V_5 V_6 V_7 V_8 V_9 V_10 V_11 V_12 V_13
    go_wp2
    clear V_0 V_1 V_2 V_3 V_4 V_5 V_6 V_7 V_8 V_9 V_10 V_11 V_12 V_13
    clear N_0 N_1 N_2 N_3 N_4 N_5 N_6 N_7 N_8 N_9 N_10 N_11 N_12 N_13
    rw [← hW1]
    generalize wr.heap.size = R1 at *
    clear hW1 hS1
    have hDr : Below W1.heap.size W1 W1.drew := (Below.refl _ _).drew
    replace VR := VR.below hDr
    replace VN := VN.below hDr
    replace BB := BB.xm hDr
    replace BLR := BLR.trans (hDr.mono BLR.size)
    clear hDr
    refine wp_region_held_drew (S := (fun w' => w'.cell? ⟨R1,0,none⟩ = some (.bool true))) (by kernel_rfl) ?_ (fun hHeld => ?_)
    ·exact VN.c0
    generalize W1.drew = W2 at *
    refine xV 0 (h := ?_)
    refine xV 1 (h := ?_)
    refine xV 2 (h := ?_)
    refine xV 3 (h := ?_)
    refine xT 4 (v := undef) (hy := Or.inr ⟨by rfl,rfl⟩) (h := ?_)
    (try simp only [Act.put,xL4,xL5,xL6])
    refine xT 5 (v := undef) (hy := Or.inr ⟨by rfl,rfl⟩) (h := ?_)
    (try simp only [Act.put,xL4,xL5,xL6])
    refine xT 6 (v := undef) (hy := Or.inr ⟨by rfl,rfl⟩) (h := ?_)
    (try simp only [Act.put,xL4,xL5,xL6])
    refine xT 7 (v := undef) (hy := Or.inr ⟨by rfl,rfl⟩) (h := ?_)
    (try simp only [Act.put,xL4,xL5,xL6])
    refine xT 8 (v := undef) (hy := Or.inr ⟨by rfl,rfl⟩) (h := ?_)
    (try simp only [Act.put,xL4,xL5,xL6])
    refine xT 9 (v := undef) (hy := Or.inr ⟨by rfl,rfl⟩) (h := ?_)
    (try simp only [Act.put,xL4,xL5,xL6])
    refine xT 10 (v := undef) (hy := Or.inr ⟨by rfl,rfl⟩) (h := ?_)
    (try simp only [Act.put,xL4,xL5,xL6])
    refine xT 11 (v := undef) (hy := Or.inr ⟨by rfl,rfl⟩) (h := ?_)
    (try simp only [Act.put,xL4,xL5,xL6])
    refine xT 12 (v := undef) (hy := Or.inr ⟨by rfl,rfl⟩) (h := ?_)
    (try simp only [Act.put,xL4,xL5,xL6])
    refine xT 13 (v := undef) (hy := Or.inr ⟨by rfl,rfl⟩) (h := ?_)
    (try simp only [Act.put,xL4,xL5,xL6])
    refine xT 14 (v := undef) (hy := Or.inr ⟨by rfl,rfl⟩) (h := ?_)
    (try simp only [Act.put,xL4,xL5,xL6])
    refine xT 15 (v := undef) (hy := Or.inr ⟨by rfl,rfl⟩) (h := ?_)
    (try simp only [Act.put,xL4,xL5,xL6])
    refine xT 16 (v := undef) (hy := Or.inr ⟨by rfl,rfl⟩) (h := ?_)
    (try simp only [Act.put,xL4,xL5,xL6])
    refine xT 17 (v := undef) (hy := Or.inr ⟨by rfl,rfl⟩) (h := ?_)
    (try simp only [Act.put,xL4,xL5,xL6])
    refine xT 18 (v := undef) (hy := Or.inr ⟨by rfl,rfl⟩) (h := ?_)
    (try simp only [Act.put,xL4,xL5,xL6])
    refine xT 19 (v := undef) (hy := Or.inr ⟨by rfl,rfl⟩) (h := ?_)
    (try simp only [Act.put,xL4,xL5,xL6])
    refine xT 20 (v := undef) (hy := Or.inr ⟨by rfl,rfl⟩) (h := ?_)
    (try simp only [Act.put,xL4,xL5,xL6])
    refine xV 21 (h := ?_)
    refine wpAnyH_done (by kernel_rfl) ?_ _
    clear hHeld
    have HB2 : Hid (∀ j,j < i + 1 → bad4 t j = false) := fun j hj => by
     by_cases e : j = i
     ·subst e; exact bad4_leaf HLF.out
     ·exact HB.out j (by omega)
    clear HB
    go_wp2
    go_roundw
    case rel => exact ⟨i + 1,by omega,by go_num,HB2,BLR⟩
    case measure => simp [intOf]; omega
  ·obtain rfl : i = n := by omega
   have g1 : ¬ (i : Int) < (i : Int) := by omega
   obtain ⟨⟨q1,q2,q3,q4,q5,q6⟩,q7,q8⟩ := id VR
   go_wp2
   (try simp only [Exit.inBlock,Exit.then])
   refine bodyPost_ret (v := .agg #[.int .i64 0,.int .i64 0,.int .i64 0,.int .i64 0]) (by simp [results,go_sem,q1,q2,q3,q7]) rfl ?_
   exact ⟨congrArg Ending.returned ((rlV3 F t i).trans (nfV_none HB.out)).symm,below_store4 BB (by omega) _ _ _ _⟩

theorem enters_own8 {P : Program} {f : FuncId} {fn : Func} {c : Code} (hf : P.funcs[f]? = some fn) (hname : (fn.name == "runtime.NumGoroutine") = false) (hb : fn.body = some c) (args : Array Value) (w : World) : Sem.run P (callFunc f args) w = .ok (.enter f args) w := by
 have h1 : fn.name ≠ "runtime.NumGoroutine" := by simpa using hname
 simp [callFunc,hf,h1,hb,mark]
def Kf : Nat → FuncId
 | 0 => 118
 | 1 => 119
 | 2 => 120
 | _ => 121
theorem Kf_enters (r : Nat) (args : Array Value) (w : World) : Sem.run Tryz.prog (callFunc (Kf r) args) w = .ok (.enter (Kf r) args) w := by
 match r with
 | 0 => exact enters_own8 Tryz.func118 (by kernel_rfl) rfl args w
 | 1 => exact enters_own8 Tryz.func119 (by kernel_rfl) rfl args w
 | 2 => exact enters_own8 Tryz.func120 (by kernel_rfl) rfl args w
 | n + 3 => exact enters_own8 Tryz.func121 (by kernel_rfl) rfl args w
theorem rule_any (r : Nat) (hr : r < 4) (v : Value) (n : Nat) (t : Nat → Nd) (F : Int) (L : Nat) (w : World) (hv : TRow w v n t L) (ht : Tab w) (hn0 : 0 < n) (hn : n ≤ 255) (hN : 0 < r → Named t n) (hL : 1 ≤ L) (hLM : L ≤ 30000) :
  Calls Tryz.prog (Kf r) #[v,.int .i64 F] w fun e w' => e = .returned (rlV F t n r) ∧ Below w.heap.size w w' := by
 rcases (by omega : r = 0 ∨ r = 1 ∨ r = 2 ∨ r = 3) with rfl | rfl | rfl | rfl
 ·exact namesPlaces_at v n t F L w hv
 ·exact isTree_at v n t F L w hv (hN (by omega)) hn0 hn
 ·exact hasCovers_at v n t F L w hv hL (by omega)
 ·exact addsUp_at v n t F L w hv ht (hN (by omega)) hL hLM
theorem rl_err {F : Int} {t : Nat → Nd} {n r : Nat} {e : Int} {nd : Nat} (h : rl F t n r = some (e,nd)) : e = 8 ∨ e = 11 ∨ e = 12 ∨ e = 13 := by
 match r with
 | 0 =>
  simp only [rl,Option.map_eq_some_iff] at h
  obtain ⟨i,_,e⟩ := h
  cases e; omega
 | 1 =>
  simp only [rl,Option.map_eq_some_iff] at h
  obtain ⟨i,_,e⟩ := h
  cases e; omega
 | 2 =>
  simp only [rl,Option.map_eq_some_iff] at h
  obtain ⟨i,_,e⟩ := h
  cases e; omega
 | r + 3 =>
  simp only [rl,Option.map_eq_some_iff] at h
  obtain ⟨i,_,e⟩ := h
  cases e; omega
def ChkOut (F : Int) (k : Nat) (N : Nat → Nat) (T : Nat → Nat → Nd) (v : Value) : Prop :=
 (mfit F k N T = false ∧ v = .agg #[.int .i64 1,.int .i64 0,.int .i64 0,.int .i64 0]) ∨ (mfit F k N T = true ∧ ∃ x,IsFirst F k N T x ∧ v = fltV x)
theorem ChkOut.one {F : Int} {k : Nat} {N : Nat → Nat} {T : Nat → Nat → Nd} {v v' : Value} (h : ChkOut F k N T v) (h' : ChkOut F k N T v') : v = v' := by
 rcases h with ⟨h1,rfl⟩ | ⟨h1,x,h2,rfl⟩ <;> rcases h' with ⟨h1',rfl⟩ | ⟨h1',x',h2',rfl⟩
 ·rfl
 ·rw [h1] at h1'; cases h1'
 ·rw [h1] at h1'; cases h1'
 ·rw [h2.one h2']
set_option maxRecDepth 100000 in
set_option maxHeartbeats 4000000 in
theorem rules_at (w : World) : Calls Tryz.prog 86 #[] w fun e w' => ∃ g,e = .returned (.slice (some ⟨g,0,none⟩) 4 4) ∧ (∀ r,r < 4 → w'.cell? ⟨g,r,none⟩ = some (.func (.func (Kf r)) #[] #[])) ∧ Below w.heap.size w w' := by
 have hb := heap_alloc_new w (.cells #[.func (.func (Kf 0)) #[] #[],.func (.func (Kf 1)) #[] #[],.func (.func (Kf 2)) #[] #[],.func (.func (Kf 3)) #[] #[]] 134)
 have hB : Below w.heap.size w (w.alloc (.cells #[.func (.func (Kf 0)) #[] #[],.func (.func (Kf 1)) #[] #[],.func (.func (Kf 2)) #[] #[],.func (.func (Kf 3)) #[] #[]] 134)) := (Below.refl _ _).alloc (Nat.le_refl _) _
 have hc : ∀ r,r < 4 → (w.alloc (.cells #[.func (.func (Kf 0)) #[] #[],.func (.func (Kf 1)) #[] #[],.func (.func (Kf 2)) #[] #[],.func (.func (Kf 3)) #[] #[]] 134)).cell? ⟨w.heap.size,r,none⟩ = some (.func (.func (Kf r)) #[] #[]) := fun r hr => by
  rw [cell_of_row _ _ _ _ _ _ hb]
  rcases (by omega : r = 0 ∨ r = 1 ∨ r = 2 ∨ r = 3) with rfl | rfl | rfl | rfl <;> rfl
 have HC : Hid (∀ r,r < 4 → (w.alloc (.cells #[.func (.func (Kf 0)) #[] #[],.func (.func (Kf 1)) #[] #[],.func (.func (Kf 2)) #[] #[],.func (.func (Kf 3)) #[] #[]] 134)).cell? ⟨w.heap.size,r,none⟩ = some (.func (.func (Kf r)) #[] #[])) := hc
 clear hc hb
 go_enter Tryz.func86,Tryz.ntmps86
 go_wp2
 go_ret
 exact ⟨_,rfl,HC.out,hB⟩
set_option maxRecDepth 100000 in
set_option maxHeartbeats 8000000 in
theorem check_at (F : Int) (v : Value) (k : Nat) (N : Nat → Nat) (T : Nat → Nat → Nd) (L : Nat) (w : World) (hv : MRow w v k N T L) (ht : Tab w) (hL : 1 ≤ L) (hLM : L ≤ 30000) :
  Calls Tryz.prog 55 #[.agg #[.int .i64 F,v]] w fun e w' => ∃ u,e = .returned u ∧ ChkOut F k N T u ∧ Below w.heap.size w w' := by
 obtain ⟨ao,c,rfl,hnc,hc63⟩ := hv.open
 have BB : Below w.heap.size w w := Below.refl _ _
 obtain ⟨Wb0,hW0,hS0,hL0,VM⟩ := V2.lay w 27 (.int .i64 F) (.slice ao k c)
 replace hv := hv.below hL0
 replace ht := ht.below hL0
 replace BB := BB.xm hL0
 clear hL0
 obtain ⟨Wb1,hW1,hS1,hL1,VR⟩ := V4.lay Wb0 102 (.int .i64 0) (.int .i64 0) (.int .i64 0) (.int .i64 0)
 rw [hS0] at VR hS1
 replace hv := hv.below hL1
 replace ht := ht.below hL1
 replace VM := VM.below hL1
 replace BB := BB.xm hL1
 clear hL1
 go_enter Tryz.func55,Tryz.ntmps55
 obtain ⟨VM_0,VM_1,VM_2,VM_3⟩ := id VM
 rw [hW1,hW0] at VM_0 VM_1 VM_2 VM_3
 go_wp2_with fail
 clear VM_0 VM_1 VM_2 VM_3
 rw [← hW0]
 rw [← hW1]
 clear hW0 hW1 hS0 hS1
 refine (fits_at F _ k N T L _ hv).mono ?_
 rintro e w1 ⟨rfl,b1⟩
 replace hv := hv.below b1
 replace ht := ht.below b1
 replace VM := VM.below b1
 replace VR := VR.below b1
 replace BB := BB.xm b1
 clear b1
 cases hmf : mfit F k N T
 ·have HM : Hid (mfit F k N T = false) := hmf
  clear hmf
  obtain ⟨⟨q1,q2,q3,q4,q5,q6⟩,q7,q8⟩ := id VR
  go_wp2
  (try simp only [Exit.inBlock,Exit.then])
  refine bodyPost_ret (v := .agg #[.int .i64 1,.int .i64 0,.int .i64 0,.int .i64 0]) (by simp [results,go_sem,q1,q2,q3,q7]) rfl ?_
  exact ⟨_,rfl,.inl ⟨HM.out,rfl⟩,below_store4 BB (by omega) _ _ _ _⟩
 ·have HM : Hid (mfit F k N T = true) := hmf
  obtain ⟨hF0,hF1,hk64,hlens⟩ := mfit_is hmf
  have HLN : Hid (∀ i,i < k → 1 ≤ N i ∧ N i ≤ 255) := hlens
  clear hmf hlens hF0 hF1
  go_wp2_with fail
  refine (rules_at _).mono ?_
  rintro e w2 ⟨gr,rfl,hRc,b2⟩
  replace hv := hv.below b2
  replace ht := ht.below b2
  replace VM := VM.below b2
  replace VR := VR.below b2
  replace BB := BB.xm b2
  clear b2
  have HRC : Hid (∀ r,r < 4 → w2.cell? ⟨gr,r,none⟩ = some (.func (.func (Kf r)) #[] #[])) := hRc
  clear hRc
  have hv0 := hv
  have ht0 := ht
  have VM0 := VM
  have VR0 := VR
  have BB0 : Hid (Below w.heap.size w w2) := BB
  clear hv ht VM VR BB
  go_wp2
  go_loopw [14] (fun vi wr => ∃ r : Nat,r ≤ 4 ∧ vi = .int .i64 (r : Int) ∧ Hid (∀ r',r' < r → ∀ i,i < k → rl F (T i) (N i) r' = none) ∧ Below w2.heap.size w2 wr) (fun vi _ => 4 - (intOf vi).toNat)
  case atStart => exact ⟨0,by omega,rfl,fun r' h => by omega,Below.refl _ _⟩
  case round =>
   obtain ⟨r,hr,rfl,HB,BL⟩ := hrel
   by_cases hlt : r < 4
   ·have g1 : (r : Int) < 4 := by omega
    have g0 : (0 : Int) ≤ (r : Int) := by omega
    have XK0 := HRC.out r hlt
    have XK : wr.cell? ⟨gr,r,none⟩ = some (.func (.func (Kf r)) #[] #[]) := (BL.cell (World.block_lt_of_cell? _ _ XK0)).trans XK0
    clear XK0
    obtain ⟨VM_0,VM_1,VM_2,VM_3⟩ := VM0.below BL
    go_wp2
    clear VM_0 VM_1 VM_2 VM_3 XK
    obtain ⟨wo,rfl⟩ : ∃ wo,wo = wr := ⟨_,rfl⟩
    have hEn := Kf_enters r
    have HEN : Hid (∀ (args : Array Value) (w : World),Sem.run Tryz.prog (callFunc (Kf r) args) w = .ok (.enter (Kf r) args) w) := hEn
    clear hEn
    go_loopw [21] (fun vi wr => ∃ i : Nat,i ≤ k ∧ vi = .int .i64 (i : Int) ∧ Hid (∀ i',i' < i → rl F (T i') (N i') r = none) ∧ Below w2.heap.size w2 wr) (fun vi _ => k - (intOf vi).toNat)
    case atStart => exact ⟨0,by omega,rfl,fun i' h => by omega,BL⟩
    case round =>
     clear BL
     obtain ⟨i,hi,rfl,HI,BL⟩ := hrel
     by_cases hlt2 : i < k
     ·have g2 : (i : Int) < (k : Int) := by omega
      have g3 : (0 : Int) ≤ (i : Int) := by omega
      obtain ⟨b,off,cc,a,d,hvv,hcc,XC,TR⟩ := (hv0.below BL).at hlt2
      cases hvv
      have ht := ht0.below BL
      have VM := VM0.below BL
      have VR := VR0.below BL
      have BB := BB0.out.trans (BL.mono BB0.out.size)
      obtain ⟨VM_0,VM_1,VM_2,VM_3⟩ := id VM
      obtain ⟨hn1,hn2⟩ := HLN.out i hlt2
      have HNM : Hid (0 < r → Named (T i) (N i)) := fun h0 => rl0_named (HB.out 0 h0 i hlt2)
      have hEn := HEN.out
      obtain ⟨K,hK⟩ : ∃ K,K = Kf r := ⟨_,rfl⟩
      rw [← hK] at hEn
      rw [← hK]
      have HK : Hid (K = Kf r) := hK
      clear hK
      have hcall := rule_any r hlt (.slice a (N i) d) (N i) (T i) F L wr TR ht hn1 hn2 HNM.out hL hLM
      rw [← HK.out] at hcall
      have HCL : Hid (Calls Tryz.prog K #[.slice a (N i) d,.int .i64 F] wr fun e w' => e = .returned (rlV F (T i) (N i) r) ∧ Below wr.heap.size wr w') := hcall
      clear hcall
      go_wp2_with fail
      refine HCL.out.mono ?_
      rintro e w40 ⟨rfl,b40⟩
      replace VR := VR.below b40
      replace BB := BB.xm b40
      replace BL := BL.trans (b40.mono BL.size)
      clear HCL b40 XC TR ht VM VM_0 VM_1 VM_2 VM_3 hEn HNM
      have HRV : Hid (rlV F (T i) (N i) r = fltV ((rl F (T i) (N i) r).map (fun x => (x.1,0,x.2)))) := rfl
      rw [HRV.out]
      clear HRV
      cases hrl : rl F (T i) (N i) r
      ·have HI2 : Hid (∀ i',i' < i + 1 → rl F (T i') (N i') r = none) := fun i' h => by
        by_cases e : i' = i
        ·subst e; exact hrl
        ·exact HI.out i' (by omega)
       clear hrl HI
       rw [show fltV (Option.map (fun x : Int × Nat => (x.1,0,x.2)) none) = .agg #[.int .i64 0,.int .i64 0,.int .i64 0,.int .i64 0] from rfl]
       obtain ⟨W1,rfl,hS1,hL1,VF⟩ := V4.lay w40 102 (.int .i64 0) (.int .i64 0) (.int .i64 0) (.int .i64 0)
       replace BL := BL.trans (hL1.mono BL.size)
       obtain ⟨⟨y1,y2,y3,y4,y5,y6⟩,y7,y8⟩ := id VF
       go_wp2
       go_roundw
       case rel => exact ⟨i + 1,by omega,by go_num,HI2,BL⟩
       case measure => simp [intOf]; omega
      ·rename_i en
       obtain ⟨er,nd⟩ := en
       have hee := rl_err hrl
       have HRL : Hid (rl F (T i) (N i) r = some (er,nd)) := hrl
       clear hrl
       rw [show fltV (Option.map (fun x : Int × Nat => (x.1,0,x.2)) (some (er,nd))) = .agg #[.int .i64 er,.int .i64 0,.int .i64 0,.int .i64 (nd : Int)] from rfl]
       have HX : Hid (IsFirst F k N T (some (er,i,nd))) := .inr ⟨r,i,er,nd,hlt,hlt2,rfl,HRL.out,HB.out,HI.out⟩
       clear HRL HB HI
       obtain ⟨W1,rfl,hS1,hL1,VF⟩ := V4.lay w40 102 (.int .i64 er) (.int .i64 0) (.int .i64 0) (.int .i64 (nd : Int))
       obtain ⟨⟨y1,y2,y3,y4,y5,y6⟩,y7,y8⟩ := id VF
       have VS := (VR.same (.int .i64 er) (.int .i64 0) (.int .i64 (i : Int)) (.int .i64 (nd : Int))).below ((Below.refl _ _).alloc (Nat.le_refl _) (.cells #[.int .i64 er,.int .i64 0,.int .i64 (i : Int),.int .i64 (nd : Int)] 102))
       have BS := below_store4 BB (Nat.le_add_right _ 1) (.int .i64 er) (.int .i64 0) (.int .i64 (i : Int)) (.int .i64 (nd : Int))
       have BS2 := BS.alloc BS.size (.cells #[.int .i64 er,.int .i64 0,.int .i64 (i : Int),.int .i64 (nd : Int)] 102)
       have hne := VR.lt
       have HVS : Hid (V4 _ _ _ _ _ _) := VS
       clear VF VS
       obtain ⟨⟨z1,z2,z3,z4,z5,z6⟩,z7,z8⟩ := id VR
       rcases hee with rfl | rfl | rfl | rfl
       ·go_wp2
        (try simp only [Exit.inBlock,Exit.then])
        obtain ⟨⟨q1,q2,q3,q4,q5,q6⟩,q7,q8⟩ := HVS.out
        refine bodyPost_ret (v := .agg #[.int .i64 8,.int .i64 0,.int .i64 (i : Int),.int .i64 (nd : Int)]) (by simp [results,go_sem,q1,q2,q3,q7]) rfl ?_
        refine ⟨_,rfl,.inr ⟨HM.out,_,HX.out,rfl⟩,?_⟩
        exact BS2
       ·go_wp2
        (try simp only [Exit.inBlock,Exit.then])
        obtain ⟨⟨q1,q2,q3,q4,q5,q6⟩,q7,q8⟩ := HVS.out
        refine bodyPost_ret (v := .agg #[.int .i64 11,.int .i64 0,.int .i64 (i : Int),.int .i64 (nd : Int)]) (by simp [results,go_sem,q1,q2,q3,q7]) rfl ?_
        refine ⟨_,rfl,.inr ⟨HM.out,_,HX.out,rfl⟩,?_⟩
        exact BS2
       ·go_wp2
        (try simp only [Exit.inBlock,Exit.then])
        obtain ⟨⟨q1,q2,q3,q4,q5,q6⟩,q7,q8⟩ := HVS.out
        refine bodyPost_ret (v := .agg #[.int .i64 12,.int .i64 0,.int .i64 (i : Int),.int .i64 (nd : Int)]) (by simp [results,go_sem,q1,q2,q3,q7]) rfl ?_
        refine ⟨_,rfl,.inr ⟨HM.out,_,HX.out,rfl⟩,?_⟩
        exact BS2
       ·go_wp2
        (try simp only [Exit.inBlock,Exit.then])
        obtain ⟨⟨q1,q2,q3,q4,q5,q6⟩,q7,q8⟩ := HVS.out
        refine bodyPost_ret (v := .agg #[.int .i64 13,.int .i64 0,.int .i64 (i : Int),.int .i64 (nd : Int)]) (by simp [results,go_sem,q1,q2,q3,q7]) rfl ?_
        refine ⟨_,rfl,.inr ⟨HM.out,_,HX.out,rfl⟩,?_⟩
        exact BS2
     ·have HB2 : Hid (∀ r',r' < r + 1 → ∀ i,i < k → rl F (T i) (N i) r' = none) := fun r' h i' hi' => by
       by_cases e : r' = r
       ·subst e; exact HI.out i' (by omega)
       ·exact HB.out r' (by omega) i' hi'
      clear HB HI
      obtain rfl : i = k := by omega
      have g2 : ¬ (i : Int) < (i : Int) := by omega
      go_wp2
      go_roundw
      case rel => exact ⟨r + 1,by omega,by go_num,HB2,BL⟩
      case measure => simp [intOf]; omega
   ·obtain rfl : r = 4 := by omega
    have VR := VR0.below BL
    have BB := BB0.out.trans (BL.mono BB0.out.size)
    obtain ⟨⟨q1,q2,q3,q4,q5,q6⟩,q7,q8⟩ := id VR
    go_wp2
    (try simp only [Exit.inBlock,Exit.then])
    refine bodyPost_ret (v := .agg #[.int .i64 0,.int .i64 0,.int .i64 0,.int .i64 0]) (by simp [results,go_sem,q1,q2,q3,q7]) rfl ?_
    exact ⟨_,rfl,.inr ⟨HM.out,none,.inl ⟨rfl,HB.out⟩,rfl⟩,below_store4 BB (by omega) _ _ _ _⟩
end Go.Proofs.YtbbliiafkjipbaaGreatDoor

namespace Go.Proofs.YtbbliiafkjipbaaGreatDoor
set_option linter.unusedVariables false
set_option linter.unusedSimpArgs false
structure MayT (F : Int) (t : Nat → Nd) (n : Nat) : Prop where
 pos : 1 ≤ n
 few : n ≤ 255
 feat : ∀ i,i < n → (t i).leaf = false → 0 ≤ (t i).feat ∧ (t i).feat < F
 named : Named t n
 once : Once t n
 up : ∀ i,i < n → lawUp t n (n + 1) i = true
 cov : ∀ i,i < n → 0 < (t i).cov
 parts : ∀ i,i < n → (t i).leaf = false → (t i).cov = (t (t i).left.toNat).cov + (t (t i).right.toNat).cov
theorem rl_none1 {F : Int} {t : Nat → Nd} {n : Nat} (h : rl F t n 1 = none) : fb (bad1 t n) n = none ∧ fb (bad2 t n) n = none := by
 simp only [rl,Option.map_eq_none_iff] at h
 cases e : fb (bad1 t n) n with
 | none => rw [e] at h; exact ⟨rfl,by simpa using h⟩
 | some i => rw [e] at h; simp at h
theorem mayT_of {F : Int} {t : Nat → Nd} {n : Nat} (hf : tfit t n = true) (h : ∀ r,r < 4 → rl F t n r = none) : MayT F t n := by
 unfold tfit at hf
 simp only [Bool.and_eq_true,decide_eq_true_eq,Option.isNone_iff_eq_none] at hf
 have h0 := h 0 (by omega)
 have h1 := rl_none1 (h 1 (by omega))
 have h2 := h 2 (by omega)
 have h3 := h 3 (by omega)
 simp only [rl,Option.map_eq_none_iff] at h0 h2 h3
 refine ⟨hf.1.1,hf.1.2,fun i hi hl => ?_,rl0_named (h 0 (by omega)),bad1_once h1.1,fun i hi => ?_,fun i hi => ?_,fun i hi hl => ?_⟩
 ·have a := fb_is hf.2 i hi
  have b := fb_is h0 i hi
  unfold badF at a
  unfold bad0 at b
  rw [hl] at b
  simp only [Bool.not_false,Bool.true_and,Bool.or_eq_false_iff,decide_eq_false_iff_not] at b
  simp only [Bool.not_eq_false',Bool.and_eq_true,decide_eq_true_eq] at a
  omega
 ·have := fb_is h1.2 i hi
  unfold bad2 at this
  simpa using this
 ·have := fb_is h2 i hi
  unfold bad3 at this
  rw [decide_eq_false_iff_not] at this
  grind
 ·have := fb_is h3 i hi
  unfold bad4 at this
  rw [hl] at this
  simpa using this
theorem ChkOut.may {F : Int} {k : Nat} {N : Nat → Nat} {T : Nat → Nat → Nd} {s d : Int} (h : ChkOut F k N T (.agg #[.int .i64 0,.int .i64 0,.int .i64 s,.int .i64 d])) : 0 ≤ F ∧ F ≤ 64 ∧ k ≤ 64 ∧ ∀ i,i < k → MayT F (T i) (N i) := by
 rcases h with ⟨_,e⟩ | ⟨hf,x,hx,e⟩
 ·simp at e
 ·rcases hx with ⟨rfl,hx⟩ | ⟨r,i,er,nd,hr,hi,rfl,h1,_⟩
  ·have a := mfit_is hf
   refine ⟨a.1,a.2.1,a.2.2.1,fun i hi => mayT_of ?_ (fun r hr => hx r hr i hi)⟩
   unfold mfit at hf
   simp only [Bool.and_eq_true,decide_eq_true_eq,Option.isNone_iff_eq_none] at hf
   have := fb_is hf.2 i hi
   simpa using this
  ·have := rl_err h1
   simp [fltV] at e
   omega
def lv (t : Nat → Nd) (n : Nat) : Nat → Nat → Nat
 | 0,_ => 0
 | k + 1,x => if x = 0 then 0 else match upOf t x n with
  | none => 0
  | some p => lv t n k p + 1
theorem lv_more {t : Nat → Nd} {n : Nat} : ∀ k x,lawUp t n k x = true → lv t n (k + 1) x = lv t n k x
 | 0,x,h => by simp [lawUp] at h
 | k + 1,x,h => by
  show (if x = 0 then 0 else match upOf t x n with | none => 0 | some p => lv t n (k + 1) p + 1) = (if x = 0 then 0 else match upOf t x n with | none => 0 | some p => lv t n k p + 1)
  unfold lawUp at h
  by_cases e : x = 0
  ·rw [if_pos e,if_pos e]
  ·rw [if_neg e] at h
   rw [if_neg e,if_neg e]
   cases u : upOf t x n with
   | none => rfl
   | some p =>
    rw [u] at h
    show lv t n (k + 1) p + 1 = lv t n k p + 1
    rw [lv_more k p h]
theorem lv_lt {t : Nat → Nd} {n : Nat} : ∀ k x,lawUp t n k x = true → lv t n k x < k
 | 0,x,h => by simp [lawUp] at h
 | k + 1,x,h => by
  rw [lv]
  unfold lawUp at h
  by_cases e : x = 0
  ·rw [if_pos e]; exact Nat.succ_pos k
  ·rw [if_neg e] at h
   rw [if_neg e]
   cases u : upOf t x n with
   | none => rw [u] at h; cases h
   | some p =>
    rw [u] at h
    have := lv_lt k p h
    show lv t n k p + 1 < k + 1
    omega
def lvl (t : Nat → Nd) (n x : Nat) : Nat := lv t n (n + 1) x
theorem MayT.lvl_le {F : Int} {t : Nat → Nd} {n : Nat} (h : MayT F t n) {x : Nat} (hx : x < n) : lvl t n x ≤ n := by
 have := lv_lt (n + 1) x (h.up x hx)
 unfold lvl
 omega
theorem MayT.lvl_kid {F : Int} {t : Nat → Nd} {n : Nat} (h : MayT F t n) {y x : Nat} (hy : y < n) (hx : x < n) (h1 : 1 ≤ x) (hk : kid t y x) : lvl t n x = lvl t n y + 1 := by
 have hu := h.up x hx
 unfold lvl
 unfold lawUp at hu
 rw [if_neg (by omega)] at hu
 cases u : upOf t x n with
 | none => rw [u] at hu; cases hu
 | some p =>
  rw [u] at hu
  obtain ⟨p1,p2⟩ := upOf_some u
  have : p = y := h.once.one h1 hx p1 hy p2 hk
  subst this
  rw [lv,if_neg (by omega),u]
  show lv t n n p + 1 = lv t n (n + 1) p + 1
  rw [lv_more n p hu]
def goL (a : Nd) (c : Cl) : Bool := if a.leaf = true then false else if c.miss = true then a.miss else decide (c.val < a.cut)
def nxt (a : Nd) (r : Nat → Cl) : Nat := if goL a (r a.feat.toNat) = true then a.left.toNat else a.right.toNat
def wayN (t : Nat → Nd) (r : Nat → Cl) : Nat → Nat → List Nat
 | 0,x => [x]
 | k + 1,x => if (t x).leaf = true then [x] else x :: wayN t r k (nxt (t x) r)
theorem nxt_kid {t : Nat → Nd} {n x : Nat} (hN : Named t n) (hx : x < n) (hl : (t x).leaf = false) (r : Nat → Cl) : 1 ≤ nxt (t x) r ∧ nxt (t x) r < n ∧ kid t x (nxt (t x) r) := by
 have := hN x hx hl
 unfold nxt
 by_cases g : goL (t x) (r (t x).feat.toNat) = true
 ·rw [if_pos g]
  exact ⟨by omega,by omega,hl,.inl (by omega)⟩
 ·rw [if_neg g]
  exact ⟨by omega,by omega,hl,.inr (by omega)⟩
theorem MayT.nxt {F : Int} {t : Nat → Nd} {n : Nat} (h : MayT F t n) {x : Nat} (hx : x < n) (hl : (t x).leaf = false) (r : Nat → Cl) : Go.Proofs.YtbbliiafkjipbaaGreatDoor.nxt (t x) r < n ∧ lvl t n (Go.Proofs.YtbbliiafkjipbaaGreatDoor.nxt (t x) r) = lvl t n x + 1 := by
 obtain ⟨h1,h2,h3⟩ := nxt_kid h.named hx hl r
 exact ⟨h2,h.lvl_kid hx h2 h1 h3⟩
theorem MayT.way_more {F : Int} {t : Nat → Nd} {n : Nat} (h : MayT F t n) (r : Nat → Cl) : ∀ k x,x < n → n + 1 ≤ lvl t n x + k → wayN t r (k + 1) x = wayN t r k x
 | 0,x,hx,hk => by have := h.lvl_le hx; omega
 | k + 1,x,hx,hk => by
  show (if (t x).leaf = true then [x] else x :: wayN t r (k + 1) (Go.Proofs.YtbbliiafkjipbaaGreatDoor.nxt (t x) r)) = (if (t x).leaf = true then [x] else x :: wayN t r k (Go.Proofs.YtbbliiafkjipbaaGreatDoor.nxt (t x) r))
  cases hl : (t x).leaf with
  | true => rfl
  | false =>
   obtain ⟨a,b⟩ := h.nxt hx hl r
   rw [if_neg (by simp),if_neg (by simp),h.way_more r k _ a (by omega)]
def way (t : Nat → Nd) (n : Nat) (r : Nat → Cl) (x : Nat) : List Nat := wayN t r (n + 1) x
theorem way_leaf {t : Nat → Nd} {n x : Nat} {r : Nat → Cl} (hl : (t x).leaf = true) : way t n r x = [x] := by unfold way; rw [wayN,if_pos hl]
theorem MayT.way_split {F : Int} {t : Nat → Nd} {n : Nat} (h : MayT F t n) (r : Nat → Cl) {x : Nat} (hx : x < n) (hl : (t x).leaf = false) : way t n r x = x :: way t n r (Go.Proofs.YtbbliiafkjipbaaGreatDoor.nxt (t x) r) := by
 obtain ⟨a,b⟩ := h.nxt hx hl r
 unfold way
 rw [wayN,if_neg (by simp [hl]),h.way_more r n _ a (by omega)]
theorem MayT.way_ind {F : Int} {t : Nat → Nd} {n : Nat} (h : MayT F t n) (r : Nat → Cl) {P : Nat → Prop} (h0 : ∀ x,x < n → (t x).leaf = true → P x) (h1 : ∀ x,x < n → (t x).leaf = false → P (Go.Proofs.YtbbliiafkjipbaaGreatDoor.nxt (t x) r) → P x) : ∀ k x,x < n → n + 1 ≤ lvl t n x + k → P x
 | 0,x,hx,hk => by have := h.lvl_le hx; omega
 | k + 1,x,hx,hk => by
  cases hl : (t x).leaf with
  | true => exact h0 x hx hl
  | false =>
   obtain ⟨a,b⟩ := h.nxt hx hl r
   exact h1 x hx hl (h.way_ind r h0 h1 k _ a (by omega))
theorem MayT.by_way {F : Int} {t : Nat → Nd} {n : Nat} (h : MayT F t n) (r : Nat → Cl) {P : Nat → Prop} (h0 : ∀ x,x < n → (t x).leaf = true → P x) (h1 : ∀ x,x < n → (t x).leaf = false → P (Go.Proofs.YtbbliiafkjipbaaGreatDoor.nxt (t x) r) → P x) {x : Nat} (hx : x < n) : P x := h.way_ind r h0 h1 (n + 1) x hx (by omega)
theorem way_ne (t : Nat → Nd) (n : Nat) (r : Nat → Cl) (x : Nat) : way t n r x ≠ [] := by
 unfold way
 rw [wayN]
 by_cases e : (t x).leaf = true
 ·rw [if_pos e]; simp
 ·rw [if_neg e]; simp
theorem MayT.way_len {F : Int} {t : Nat → Nd} {n : Nat} (h : MayT F t n) (r : Nat → Cl) {x : Nat} (hx : x < n) : (way t n r x).length + lvl t n x ≤ n + 1 :=
 h.by_way r (P := fun x => (way t n r x).length + lvl t n x ≤ n + 1) (fun x hx hl => by have := h.lvl_le hx; rw [way_leaf hl]; simp; omega) (fun x hx hl ih => by
  have := (h.nxt hx hl r).2
  rw [h.way_split r hx hl]
  simp only [List.length_cons]
  omega) hx

def kl (t : Nat → Nd) (x : Nat) : Nat := (t x).left.toNat
def kr (t : Nat → Nd) (x : Nat) : Nat := (t x).right.toNat
theorem MayT.kids {F : Int} {t : Nat → Nd} {n : Nat} (h : MayT F t n) {x : Nat} (hx : x < n) (hl : (t x).leaf = false) : (t x).left = (kl t x : Int) ∧ (t x).right = (kr t x : Int) ∧ 1 ≤ kl t x ∧ kl t x < n ∧ 1 ≤ kr t x ∧ kr t x < n ∧ lvl t n (kl t x) = lvl t n x + 1 ∧ lvl t n (kr t x) = lvl t n x + 1 := by
 have hN := h.named x hx hl
 have e1 : (t x).left = (kl t x : Int) := by unfold kl; omega
 have e2 : (t x).right = (kr t x : Int) := by unfold kr; omega
 have a1 : 1 ≤ kl t x := by omega
 have a2 : kl t x < n := by omega
 have a3 : 1 ≤ kr t x := by omega
 have a4 : kr t x < n := by omega
 exact ⟨e1,e2,a1,a2,a3,a4,h.lvl_kid hx a2 a1 ⟨hl,.inl e1⟩,h.lvl_kid hx a4 a3 ⟨hl,.inr e2⟩⟩
theorem MayT.tree_ind {F : Int} {t : Nat → Nd} {n : Nat} (h : MayT F t n) {P : Nat → Prop} (h0 : ∀ x,x < n → (t x).leaf = true → P x) (h1 : ∀ x,x < n → (t x).leaf = false → P (kl t x) → P (kr t x) → P x) : ∀ k x,x < n → n + 1 ≤ lvl t n x + k → P x
 | 0,x,hx,hk => by have := h.lvl_le hx; omega
 | k + 1,x,hx,hk => by
  cases hl : (t x).leaf with
  | true => exact h0 x hx hl
  | false =>
   obtain ⟨_,_,_,a2,_,a4,b1,b2⟩ := h.kids hx hl
   exact h1 x hx hl (h.tree_ind h0 h1 k _ a2 (by omega)) (h.tree_ind h0 h1 k _ a4 (by omega))
theorem MayT.by_tree {F : Int} {t : Nat → Nd} {n : Nat} (h : MayT F t n) {P : Nat → Prop} (h0 : ∀ x,x < n → (t x).leaf = true → P x) (h1 : ∀ x,x < n → (t x).leaf = false → P (kl t x) → P (kr t x) → P x) {x : Nat} (hx : x < n) : P x := h.tree_ind h0 h1 (n + 1) x hx (by omega)
def preN (t : Nat → Nd) : Nat → Nat → List Nat
 | 0,x => [x]
 | k + 1,x => if (t x).leaf = true then [x] else x :: (preN t k (kl t x) ++ preN t k (kr t x))
theorem MayT.pre_more {F : Int} {t : Nat → Nd} {n : Nat} (h : MayT F t n) : ∀ k x,x < n → n + 1 ≤ lvl t n x + k → preN t (k + 1) x = preN t k x
 | 0,x,hx,hk => by have := h.lvl_le hx; omega
 | k + 1,x,hx,hk => by
  show (if (t x).leaf = true then [x] else x :: (preN t (k + 1) (kl t x) ++ preN t (k + 1) (kr t x))) = (if (t x).leaf = true then [x] else x :: (preN t k (kl t x) ++ preN t k (kr t x)))
  cases hl : (t x).leaf with
  | true => rfl
  | false =>
   obtain ⟨_,_,_,a2,_,a4,b1,b2⟩ := h.kids hx hl
   rw [if_neg (by simp),if_neg (by simp),h.pre_more k _ a2 (by omega),h.pre_more k _ a4 (by omega)]
def pre (t : Nat → Nd) (n x : Nat) : List Nat := preN t (n + 1) x
theorem pre_leaf {t : Nat → Nd} {n x : Nat} (hl : (t x).leaf = true) : pre t n x = [x] := by unfold pre; rw [preN,if_pos hl]
theorem MayT.pre_split {F : Int} {t : Nat → Nd} {n : Nat} (h : MayT F t n) {x : Nat} (hx : x < n) (hl : (t x).leaf = false) : pre t n x = x :: (pre t n (kl t x) ++ pre t n (kr t x)) := by
 obtain ⟨_,_,_,a2,_,a4,b1,b2⟩ := h.kids hx hl
 unfold pre
 rw [preN,if_neg (by simp [hl]),h.pre_more n _ a2 (by omega),h.pre_more n _ a4 (by omega)]
def lvs (t : Nat → Nd) (n x : Nat) : List Nat := (pre t n x).filter (fun y => (t y).leaf)
theorem lvs_leaf {t : Nat → Nd} {n x : Nat} (hl : (t x).leaf = true) : lvs t n x = [x] := by unfold lvs; rw [pre_leaf hl]; simp [hl]
theorem MayT.lvs_split {F : Int} {t : Nat → Nd} {n : Nat} (h : MayT F t n) {x : Nat} (hx : x < n) (hl : (t x).leaf = false) : lvs t n x = lvs t n (kl t x) ++ lvs t n (kr t x) := by
 unfold lvs
 rw [h.pre_split hx hl]
 simp [hl]
theorem MayT.count {F : Int} {t : Nat → Nd} {n : Nat} (h : MayT F t n) {x : Nat} (hx : x < n) : 2 * (lvs t n x).length = (pre t n x).length + 1 :=
 h.by_tree (P := fun x => 2 * (lvs t n x).length = (pre t n x).length + 1) (fun x hx hl => by rw [lvs_leaf hl,pre_leaf hl]; rfl) (fun x hx hl a b => by
  rw [h.lvs_split hx hl,h.pre_split hx hl]
  simp only [List.length_append,List.length_cons]
  omega) hx
def dpN (t : Nat → Nd) : Nat → Nat → Nat
 | 0,_ => 0
 | k + 1,x => if (t x).leaf = true then 0 else max (dpN t k (kl t x)) (dpN t k (kr t x)) + 1
def dp (t : Nat → Nd) (n x : Nat) : Nat := dpN t (n + 1) x

def inS (s f : Nat) : Bool := decide (s / 2 ^ f % 2 = 1)
theorem inS_none (f : Nat) : inS 0 f = false := by
 unfold inS
 rw [Nat.zero_div]
 rfl
def sayN (t : Nat → Nd) (r : Nat → Cl) (s : Nat) : Nat → Nat → Rat
 | 0,_ => 0
 | k + 1,x => if (t x).leaf = true then (t x).val else if inS s (t x).feat.toNat = true then sayN t r s k (nxt (t x) r) else ((t (kl t x)).cov * sayN t r s k (kl t x) + (t (kr t x)).cov * sayN t r s k (kr t x)) / (t x).cov
def say (t : Nat → Nd) (n : Nat) (r : Nat → Cl) (s x : Nat) : Rat := sayN t r s (n + 1) x
def wsL (t : Nat → Nd) : List Nat → Rat
 | [] => 0
 | x :: l => (t x).val * (t x).cov + wsL t l
theorem wsL_app (t : Nat → Nd) : ∀ l l',wsL t (l ++ l') = wsL t l + wsL t l'
 | [],l' => by show wsL t l' = 0 + wsL t l'; rw [Rat.zero_add]
 | x :: l,l' => by
  show (t x).val * (t x).cov + wsL t (l ++ l') = (t x).val * (t x).cov + wsL t l + wsL t l'
  rw [wsL_app t l l',Rat.add_assoc]
def ws (t : Nat → Nd) (n x : Nat) : Rat := wsL t (lvs t n x)
theorem ws_leaf {t : Nat → Nd} {n x : Nat} (hl : (t x).leaf = true) : ws t n x = (t x).val * (t x).cov := by
 unfold ws
 rw [lvs_leaf hl]
 show _ + (0 : Rat) = _
 rw [Rat.add_zero]
theorem MayT.ws_split {F : Int} {t : Nat → Nd} {n : Nat} (h : MayT F t n) {x : Nat} (hx : x < n) (hl : (t x).leaf = false) : ws t n x = ws t n (kl t x) + ws t n (kr t x) := by
 unfold ws
 rw [h.lvs_split hx hl,wsL_app]
def kidS (t : Nat → Nd) (r : Nat → Cl) (s x : Nat) : List Nat := if (t x).leaf = true then [] else if inS s (t x).feat.toNat = true then [nxt (t x) r] else [kl t x,kr t x]
theorem MayT.kl_ne_kr {F : Int} {t : Nat → Nd} {n : Nat} (h : MayT F t n) {x : Nat} (hx : x < n) (hl : (t x).leaf = false) : kl t x ≠ kr t x := fun e => by
 obtain ⟨e1,e2,l1,l2,_,_,_,_⟩ := h.kids hx hl
 rw [← e] at e2
 have a := kc_two hl e1 e2
 have b := par_ge (t := t) (x := kl t x) (y := x) n hx
 have c := h.once _ l1 l2
 omega
theorem MayT.kidS_is {F : Int} {t : Nat → Nd} {n : Nat} (h : MayT F t n) (r : Nat → Cl) (s : Nat) {x : Nat} (hx : x < n) : (kidS t r s x).Nodup ∧ ∀ c ∈ kidS t r s x,1 ≤ c ∧ c < n ∧ kid t x c := by
 unfold kidS
 cases hl : (t x).leaf with
 | true => exact ⟨by simp,by simp⟩
 | false =>
  rw [if_neg (by simp)]
  obtain ⟨e1,e2,l1,l2,l3,l4,_,_⟩ := h.kids hx hl
  by_cases hi : inS s (t x).feat.toNat = true
  ·rw [if_pos hi]
   have := nxt_kid h.named hx hl r
   exact ⟨by simp,by simpa using this⟩
  ·rw [if_neg hi]
   refine ⟨by simp [h.kl_ne_kr hx hl],fun c hc => ?_⟩
   simp only [List.mem_cons,List.not_mem_nil,or_false] at hc
   rcases hc with rfl | rfl
   ·exact ⟨l1,l2,hl,.inl e1⟩
   ·exact ⟨l3,l4,hl,.inr e2⟩
structure QInv (t : Nat → Nd) (n : Nat) (r : Nat → Cl) (s : Nat) (out : List Nat) (k : Nat) : Prop where
 le : k ≤ out.length
 root : out[0]? = some 0
 small : ∀ x ∈ out,x < n
 nodup : out.Nodup
 up : ∀ x ∈ out,x ≠ 0 → ∃ j y : Nat,j < k ∧ out[j]? = some y ∧ kid t y x
 kids : ∀ j y : Nat,j < k → out[j]? = some y → ∀ c ∈ kidS t r s y,∃ m : Nat,j < m ∧ out[m]? = some c
theorem QInv.start {t : Nat → Nd} {n : Nat} {r : Nat → Cl} {s : Nat} (hn : 0 < n) : QInv t n r s [0] 0 :=
 ⟨by simp,rfl,by simp; exact hn,by simp,fun x hx h0 => by simp at hx; exact absurd hx h0,fun j y hj => by omega⟩
theorem QInv.len {t : Nat → Nd} {n : Nat} {r : Nat → Cl} {s : Nat} {out : List Nat} {k : Nat} (h : QInv t n r s out k) : out.length ≤ n := nodup_len n _ h.nodup h.small
theorem QInv.step {F : Int} {t : Nat → Nd} {n : Nat} {r : Nat → Cl} {s : Nat} {out : List Nat} {k x : Nat} (hm : MayT F t n) (h : QInv t n r s out k) (hx : out[k]? = some x) : QInv t n r s (out ++ kidS t r s x) (k + 1) := by
 have hk : k < out.length := (List.getElem?_eq_some_iff.1 hx).1
 have hxn : x < n := h.small x (List.mem_of_getElem? hx)
 obtain ⟨kn,kk⟩ := hm.kidS_is r s hxn
 have fresh : ∀ c ∈ kidS t r s x,c ∉ out := fun c hc hco => by
  obtain ⟨c1,c2,c3⟩ := kk c hc
  obtain ⟨j,y,hj,hy,ky⟩ := h.up c hco (by omega)
  have hyn : y < n := h.small y (List.mem_of_getElem? hy)
  have e := hm.once.one c1 c2 hyn hxn ky c3
  subst e
  have := (List.getElem?_inj (i := j) (j := k) (l := out) (by omega) h.nodup).1 (hy.trans hx.symm)
  omega
 refine ⟨by simp; omega,?_,fun y hy => ?_,?_,fun y hy h0 => ?_,fun j y hj hy c hc => ?_⟩
 ·rw [List.getElem?_append_left (by omega)]; exact h.root
 ·rcases List.mem_append.1 hy with g | g
  ·exact h.small y g
  ·exact (kk y g).2.1
 ·rw [List.nodup_append]
  exact ⟨h.nodup,kn,fun a ha b hb e => fresh b hb (e ▸ ha)⟩
 ·rcases List.mem_append.1 hy with g | g
  ·obtain ⟨j,z,a,b,c⟩ := h.up y g h0
   exact ⟨j,z,by omega,by rw [List.getElem?_append_left (by omega)]; exact b,c⟩
  ·exact ⟨k,x,by omega,by rw [List.getElem?_append_left hk]; exact hx,(kk y g).2.2⟩
 ·by_cases e : j < k
  ·rw [List.getElem?_append_left (by omega)] at hy
   obtain ⟨m,a,b⟩ := h.kids j y e hy c hc
   have hml := (List.getElem?_eq_some_iff.1 b).1
   exact ⟨m,a,by rw [List.getElem?_append_left hml]; exact b⟩
  ·obtain rfl : j = k := by omega
   rw [List.getElem?_append_left hk,hx] at hy
   cases hy
   obtain ⟨m,hm2⟩ := List.getElem?_of_mem hc
   exact ⟨out.length + m,by omega,by rw [List.getElem?_append_right (by omega),Nat.add_sub_cancel_left]; exact hm2⟩
def Beh (K : Nat → List Nat) : List Nat → Prop
 | [] => True
 | y :: l => (∀ c ∈ K y,c ∈ l) ∧ y ∉ l ∧ Beh K l
theorem QInv.beh {t : Nat → Nd} {n : Nat} {r : Nat → Cl} {s : Nat} {out : List Nat} (h : QInv t n r s out out.length) : Beh (kidS t r s) out := by
 have key : ∀ d k,k + d = out.length → Beh (kidS t r s) (out.drop k) := by
  intro d
  induction d with
  | zero => intro k hk; rw [List.drop_of_length_le (by omega)]; trivial
  | succ d ih =>
   intro k hk
   have hkl : k < out.length := by omega
   rw [List.drop_eq_getElem_cons hkl]
   refine ⟨fun c hc => ?_,fun hm => ?_,ih (k + 1) (by omega)⟩
   ·obtain ⟨m,a,b⟩ := h.kids k _ hkl (List.getElem?_eq_getElem hkl) c hc
    rw [List.mem_iff_getElem?]
    exact ⟨m - (k + 1),by rw [List.getElem?_drop,show k + 1 + (m - (k + 1)) = m by omega]; exact b⟩
   ·obtain ⟨m,hm2⟩ := List.mem_iff_getElem?.1 hm
    rw [List.getElem?_drop] at hm2
    have hl2 := (List.getElem?_eq_some_iff.1 hm2).1
    have := (List.getElem?_inj (i := k + 1 + m) (j := k) (l := out) hl2 h.nodup).1 (hm2.trans (List.getElem?_eq_getElem hkl).symm)
    omega
 have := key out.length 0 (by omega)
 simpa using this
theorem QInv.all {F : Int} {t : Nat → Nd} {n : Nat} {r : Nat → Cl} {out : List Nat} (hm : MayT F t n) (h : QInv t n r 0 out out.length) : ∀ x,x < n → x ∈ out := by
 suffices ∀ k x,x < n → lvl t n x ≤ k → x ∈ out from fun x hx => this _ x hx (Nat.le_refl _)
 intro k
 induction k with
 | zero =>
  intro x hx hk
  by_cases e : x = 0
  ·subst e; exact List.mem_of_getElem? h.root
  ·have hu := hm.up x hx
   unfold lawUp at hu
   rw [if_neg e] at hu
   cases u : upOf t x n with
   | none => rw [u] at hu; cases hu
   | some p =>
    obtain ⟨p1,p2⟩ := upOf_some u
    have := hm.lvl_kid p1 hx (by omega) p2
    omega
 | succ k ih =>
  intro x hx hk
  by_cases e : x = 0
  ·subst e; exact List.mem_of_getElem? h.root
  ·have hu := hm.up x hx
   unfold lawUp at hu
   rw [if_neg e] at hu
   cases u : upOf t x n with
   | none => rw [u] at hu; cases hu
   | some p =>
    obtain ⟨p1,p2⟩ := upOf_some u
    have hl := hm.lvl_kid p1 hx (by omega) p2
    obtain ⟨j,hj⟩ := List.getElem?_of_mem (ih p p1 (by omega))
    have hjl := (List.getElem?_eq_some_iff.1 hj).1
    obtain ⟨m,_,b⟩ := h.kids j p hjl hj x (by
     unfold kidS
     rw [if_neg (by simp [p2.1]),if_neg (by simp [inS_none])]
     unfold kl kr
     rcases p2.2 with g | g
     ·simp; omega
     ·simp; omega)
    exact List.mem_of_getElem? b
theorem QInv.full {F : Int} {t : Nat → Nd} {n : Nat} {r : Nat → Cl} {out : List Nat} (hm : MayT F t n) (h : QInv t n r 0 out out.length) : out.length = n := by
 have h1 := h.len
 have hp : out.Perm (List.range n) := by
  rw [List.perm_iff_count]
  intro a
  by_cases ha : a < n
  ·rw [h.nodup.count,if_pos (h.all hm a ha),List.nodup_range.count,if_pos (List.mem_range.2 ha)]
  ·have : a ∉ out := fun hh => ha (h.small a hh)
   rw [List.count_eq_zero_of_not_mem this,List.count_eq_zero_of_not_mem (by simpa using ha)]
 have h2 := hp.length_eq
 simp at h2
 omega
def stp (f : (Nat → Rat) → Nat → Rat) (q : Nat → Rat) (i : Nat) : Nat → Rat := fun j => if j = i then f q i else q j
def runB (f : (Nat → Rat) → Nat → Rat) (l : List Nat) : Nat → Rat := l.foldl (stp f) (fun _ => 0)
theorem runB_more (f : (Nat → Rat) → Nat → Rat) (l : List Nat) (i : Nat) : runB f (l ++ [i]) = stp f (runB f l) i := by
 unfold runB
 rw [List.foldl_append]
 rfl
theorem runB_is {f : (Nat → Rat) → Nat → Rat} {g : Nat → Rat} {K : Nat → List Nat} {n : Nat} (hf : ∀ q i,i < n → (∀ c ∈ K i,q c = g c) → f q i = g i) : ∀ l,(∀ x ∈ l,x < n) → Beh K l → ∀ y ∈ l,runB f l.reverse y = g y
 | [],_,_,y,hy => by cases hy
 | a :: l,hs,⟨h1,h2,h3⟩,y,hy => by
  have ih := runB_is hf l (fun x hx => hs x (List.mem_cons_of_mem _ hx)) h3
  rw [List.reverse_cons,runB_more]
  unfold stp
  by_cases e : y = a
  ·subst e
   rw [if_pos rfl]
   exact hf _ _ (hs _ (by simp)) (fun c hc => ih c (h1 c hc))
  ·rw [if_neg e]
   exact ih y (by simpa [e] using hy)
theorem runB_sz {f : (Nat → Rat) → Nat → Rat} {b : Nat → Nat} {n : Nat} (h0 : ∀ i,1 ≤ b i) (hf : ∀ q i,i < n → (∀ j,j < n → qsz (q j) ≤ b j) → qsz (f q i) ≤ b i) (l : List Nat) (hl : ∀ x ∈ l,x < n) : ∀ j,j < n → qsz (runB f l j) ≤ b j := by
 suffices ∀ (l : List Nat) (q : Nat → Rat),(∀ x ∈ l,x < n) → (∀ j,j < n → qsz (q j) ≤ b j) → ∀ j,j < n → qsz (l.foldl (stp f) q j) ≤ b j from this l _ hl (fun j hj => Nat.le_trans (qsz_int 0 (L := 1) (by decide) (by omega)) (h0 j))
 intro l
 induction l with
 | nil => intro q _ hq; exact hq
 | cons a l ih =>
  intro q hs hq
  refine ih _ (fun x hx => hs x (List.mem_cons_of_mem _ hx)) (fun j hj => ?_)
  unfold stp
  by_cases e : j = a
  ·rw [if_pos e,e]
   exact hf q a (hs a (by simp)) hq
  ·rw [if_neg e]
   exact hq j hj
def fSum (t : Nat → Nd) (q : Nat → Rat) (i : Nat) : Rat := if (t i).leaf = true then (t i).val * (t i).cov else q (kl t i) + q (kr t i)
theorem MayT.run_sum {F : Int} {t : Nat → Nd} {n : Nat} {r : Nat → Cl} {out : List Nat} (hm : MayT F t n) (h : QInv t n r 0 out out.length) {x : Nat} (hx : x < n) : runB (fSum t) out.reverse x = ws t n x := by
 refine runB_is (K := kidS t r 0) (n := n) (fun q i hi hq => ?_) out h.small h.beh x (h.all hm x hx)
 unfold fSum
 unfold kidS at hq
 cases hl : (t i).leaf with
 | true => rw [if_pos rfl,ws_leaf hl]
 | false =>
  rw [hl,inS_none] at hq
  rw [if_neg (by simp),hm.ws_split hi hl,hq _ (by simp),hq _ (by simp)]
def bnd (t : Nat → Nd) (n C x : Nat) : Nat := (pre t n x).length * C
theorem pre_pos (t : Nat → Nd) (n x : Nat) : 1 ≤ (pre t n x).length := by
 unfold pre
 rw [preN]
 by_cases e : (t x).leaf = true
 ·rw [if_pos e]; simp
 ·rw [if_neg e]; simp
theorem bnd_pos {t : Nat → Nd} {n C : Nat} (hC : 1 ≤ C) (x : Nat) : C ≤ bnd t n C x := by
 have := Nat.mul_le_mul_right C (pre_pos t n x)
 unfold bnd
 omega
theorem MayT.bnd_split {F : Int} {t : Nat → Nd} {n : Nat} (h : MayT F t n) (C : Nat) {x : Nat} (hx : x < n) (hl : (t x).leaf = false) : bnd t n C x = bnd t n C (kl t x) + bnd t n C (kr t x) + C := by
 unfold bnd
 rw [h.pre_split hx hl]
 simp only [List.length_cons,List.length_append,Nat.add_mul]
 omega
theorem MayT.pre_sub {F : Int} {t : Nat → Nd} {n : Nat} (h : MayT F t n) {x : Nat} (hx : x < n) : ∀ y ∈ pre t n x,y < n ∧ (pre t n y).length ≤ (pre t n x).length ∧ ((t y).leaf = false → kl t y ∈ pre t n x ∧ kr t y ∈ pre t n x) :=
 h.by_tree (P := fun x => ∀ y ∈ pre t n x,y < n ∧ (pre t n y).length ≤ (pre t n x).length ∧ ((t y).leaf = false → kl t y ∈ pre t n x ∧ kr t y ∈ pre t n x)) (fun x hx hl y hy => by
  rw [pre_leaf hl] at hy
  simp at hy
  subst hy
  exact ⟨hx,Nat.le_refl _,fun g => by rw [hl] at g; cases g⟩) (fun x hx hl a b y hy => by
  have self : ∀ z,z ∈ pre t n z := fun z => by
   unfold pre
   rw [preN]
   by_cases e : (t z).leaf = true
   ·rw [if_pos e]; simp
   ·rw [if_neg e]; simp
  have s1 := self (kl t x)
  have s2 := self (kr t x)
  rw [h.pre_split hx hl] at hy ⊢
  simp only [List.mem_cons,List.mem_append,List.length_cons,List.length_append] at hy ⊢
  rcases hy with rfl | hy | hy
  ·refine ⟨hx,?_,fun _ => ⟨.inr (.inl s1),.inr (.inr s2)⟩⟩
   rw [h.pre_split hx hl]
   simp
  ·obtain ⟨a1,a2,a3⟩ := a y hy
   exact ⟨a1,by omega,fun g => ⟨.inr (.inl (a3 g).1),.inr (.inl (a3 g).2)⟩⟩
  ·obtain ⟨a1,a2,a3⟩ := b y hy
   exact ⟨a1,by omega,fun g => ⟨.inr (.inr (a3 g).1),.inr (.inr (a3 g).2)⟩⟩) hx
theorem MayT.pre_all {F : Int} {t : Nat → Nd} {n : Nat} (h : MayT F t n) : ∀ x,x < n → x ∈ pre t n 0 := by
 have h0 : 0 < n := h.pos
 suffices ∀ k x,x < n → lvl t n x ≤ k → x ∈ pre t n 0 from fun x hx => this _ x hx (Nat.le_refl _)
 have self : 0 ∈ pre t n 0 := by
  unfold pre
  rw [preN]
  by_cases e : (t 0).leaf = true
  ·rw [if_pos e]; simp
  ·rw [if_neg e]; simp
 intro k
 induction k with
 | zero =>
  intro x hx hk
  by_cases e : x = 0
  ·subst e; exact self
  ·have hu := h.up x hx
   unfold lawUp at hu
   rw [if_neg e] at hu
   cases u : upOf t x n with
   | none => rw [u] at hu; cases hu
   | some p =>
    obtain ⟨p1,p2⟩ := upOf_some u
    have := h.lvl_kid p1 hx (by omega) p2
    omega
 | succ k ih =>
  intro x hx hk
  by_cases e : x = 0
  ·subst e; exact self
  ·have hu := h.up x hx
   unfold lawUp at hu
   rw [if_neg e] at hu
   cases u : upOf t x n with
   | none => rw [u] at hu; cases hu
   | some p =>
    obtain ⟨p1,p2⟩ := upOf_some u
    have hl := h.lvl_kid p1 hx (by omega) p2
    have := ((h.pre_sub h0) p (ih p p1 (by omega))).2.2 p2.1
    rcases p2.2 with g | g
    ·have e2 : kl t p = x := by unfold kl; omega
     rw [← e2]; exact this.1
    ·have e2 : kr t p = x := by unfold kr; omega
     rw [← e2]; exact this.2
end Go.Proofs.YtbbliiafkjipbaaGreatDoor

namespace Go.Proofs.YtbbliiafkjipbaaGreatDoor
open Go.RowKit
set_option linter.unusedVariables false
set_option linter.unusedSimpArgs false
set_option maxRecDepth 20000 in
set_option maxHeartbeats 400000 in
theorem xin_at (s f : Nat) (hs : s < 18446744073709551616) (hf : f < 64) (w : World) :
  Calls Tryz.prog 47 #[.int .u64 (s : Int),.int .i64 (f : Int)] w fun e w' => e = .returned (.bool (inS s f)) ∧ w' = w := by
 have g0 : (0 : Int) ≤ (f : Int) := by omega
 have g1 : (f : Int) < 64 := by omega
 have hq : ((s : Int) / 2 ^ f) = ((s / 2 ^ f : Nat) : Int) := by rw [Int.natCast_ediv]; simp
 have hle : s / 2 ^ f ≤ s := Nat.div_le_self _ _
 have HI : Hid (inS s f = decide (s / 2 ^ f % 2 = 1)) := rfl
 generalize s / 2 ^ f = m at *
 have hand := and_one_u64 (m : Int) (by omega) (by omega)
 have HI2 : Hid (inS s f = decide ((m : Int) % 2 = 1)) := by
  show inS s f = _
  rw [HI.out,decide_eq_decide]
  omega
 have hm : (m : Int) % 2 = 0 ∨ (m : Int) % 2 = 1 := by omega
 clear hle HI
 generalize hM : (m : Int) % 2 = M at *
 rcases hm with rfl | rfl <;> (go_enter Tryz.func47,Tryz.ntmps47; go_wp2; go_ret; exact ⟨by rw [HI2.out]; rfl,rfl⟩)

structure RInv (t : Nat → Nd) (n : Nat) (out wait : List Nat) : Prop where
  d : DInv t n out wait
  e : out ++ wait.reverse.flatMap (pre t n) = pre t n 0
  m : ∃ F,MayT F t n
theorem RInv.start {t : Nat → Nd} {n : Nat} (hn : 0 < n) (hm : ∃ F,MayT F t n) : RInv t n [] [0] := ⟨DInv.start hn,by simp,hm⟩
theorem RInv.len {t : Nat → Nd} {n : Nat} {out wait : List Nat} (h : RInv t n out wait) : out.length + wait.length ≤ n := h.d.len
theorem RInv.small {t : Nat → Nd} {n : Nat} {out wait : List Nat} (h : RInv t n out wait) : ∀ x,x ∈ out ++ wait → x < n := h.d.small
theorem RInv.leaf {t : Nat → Nd} {n : Nat} {out ws : List Nat} {i : Nat} (h : RInv t n out (ws ++ [i])) (hl : (t i).leaf = true) : RInv t n (out ++ [i]) ws := by
  refine ⟨h.d.leaf hl,?_,h.m⟩
  rw [← h.e]
  simp [pre_leaf hl]
theorem RInv.split {t : Nat → Nd} {n : Nat} {out ws : List Nat} {i l r : Nat} (h : RInv t n out (ws ++ [i])) (ho : Once t n) (hl : (t i).leaf = false) (el : (t i).left = (l : Int)) (er : (t i).right = (r : Int)) (l1 : 1 ≤ l) (l2 : l < n) (r1 : 1 ≤ r) (r2 : r < n) : RInv t n (out ++ [i]) (ws ++ [r,l]) := by
  refine ⟨h.d.split ho hl el er l1 l2 r1 r2,?_,h.m⟩
  obtain ⟨F,hm⟩ := h.m
  have hi : i < n := h.d.small i (by simp)
  rw [← h.e]
  have e1 : kl t i = l := by unfold kl; omega
  have e2 : kr t i = r := by unfold kr; omega
  simp [hm.pre_split hi hl,e1,e2]
theorem RInv.all {t : Nat → Nd} {n : Nat} {out : List Nat} (h : RInv t n out []) : out = pre t n 0 := by
  have := h.e
  simpa using this
theorem RInv.count {t : Nat → Nd} {n : Nat} {out : List Nat} (h : RInv t n out []) : out.length = n := by
  obtain ⟨F,hm⟩ := h.m
  have h1 := h.d.len
  have hp : out.Perm (List.range n) := by
    rw [List.perm_iff_count]
    intro a
    by_cases ha : a < n
    · have : a ∈ out := (h.d.all hm.once a ha).1 (hm.up a ha)
      have hn := h.d.nodup
      simp only [List.append_nil] at hn
      rw [hn.count,if_pos this,List.nodup_range.count,if_pos (List.mem_range.2 ha)]
    · have : a ∉ out := fun hh => ha (h.d.small a (by simpa using hh))
      rw [List.count_eq_zero_of_not_mem this,List.count_eq_zero_of_not_mem (by simpa using ha)]
  have := hp.length_eq
  simpa using this
set_option maxRecDepth 100000 in
set_option maxHeartbeats 8000000 in
theorem reached2_at (v : Value) (n : Nat) (t : Nat → Nd) (L : Nat) (w : World) (hv : TRow w v n t L) (hN : Named t n) (hO : Once t n) (hn0 : 0 < n) (hn : n ≤ 255) (hm : ∃ F,MayT F t n) :
    Calls Tryz.prog 53 #[v] w fun e w' => ∃ r outs,e = .returned r ∧ IntOwn w.heap.size w' r outs ∧ RInv t n outs [] ∧ Below w.heap.size w w' := by
  obtain ⟨ao,c,rfl,hnc,hc63⟩ := hv.open
  have BB : Below w.heap.size w w := Below.refl _ _
  go_enter Tryz.func53,Tryz.ntmps53
  have HI0 : Hid (RInv t n [] [0]) := RInv.start hn0 hm
  have hA0 := int_first w 0 w.heap.size (Nat.le_refl _)
  have hB0 : Below w.heap.size w (w.alloc (.cells #[.int .i64 0] 3)) := BB.alloc (Nat.le_refl _) _
  have HN : Hid (Named t n) := hN
  have HO : Hid (Once t n) := hO
  clear hN hO BB hm
  go_wp2
  go_loopw [3,4] (fun vo vw wr => ∃ outs waits : List Nat,IntOwn w.heap.size wr vo outs ∧ IntOwn w.heap.size wr vw waits ∧ AsideI vo vw ∧ Hid (RInv t n outs waits) ∧ Below w.heap.size w wr) (fun vo _ _ => n - lenV vo)
  case atStart => exact ⟨[],[0],World.ownsRow_nil _ _ _ _,hA0,(by intro g h; simp [Value.ownBlock] at h),HI0,hB0⟩
  case round =>
    clear hA0 hB0 HI0
    obtain ⟨outs,waits,hO1,hW1,hAs,HI,BB⟩ := hrel
    have hlen := HI.out.len
    obtain ⟨oo,co_,rfl,hoc⟩ := hO1.form
    rcases List.eq_nil_or_concat waits with rfl | ⟨ws,i,rfl⟩
    · obtain ⟨ow,cw,rfl,hwc⟩ := hW1.form
      go_wp2
      go_ret
      exact ⟨_,outs,rfl,hO1,HI.out,BB⟩
    · rw [List.concat_eq_append] at hW1 HI hlen
      have hil : i < n := HI.out.small i (by simp)
      obtain ⟨gw,cw,rfl,hwc⟩ := hW1.open (by simp)
      obtain ⟨k,hk⟩ : ∃ k,ws.length = k := ⟨_,rfl⟩
      have hk1 : (ws ++ [i]).length = k + 1 := by simp [hk]
      have XW := hW1.cell rfl (j := k) (x := i) (by rw [← hk]; simp)
      have hWp := hW1.pop
      rw [hk] at hWp
      obtain ⟨k1,hk2⟩ : ∃ k1,k1 = k + 1 := ⟨_,rfl⟩
      rw [hk1,← hk2] at hwc ⊢
      have hk255 : k ≤ 255 := by rw [List.length_append,hk] at hlen; omega
      have f0 : IntKind.i64.wrap (k : Int) = (k : Int) := by rw [IntKind.wrap_i64]; omega
      have f1 : (k1 : Int) > 0 := by omega
      have f2 : (k1 : Int) - 1 = (k : Int) := by omega
      have f3 : (0 : Int) ≤ (k : Int) := by omega
      have f4 : (k : Int) < (k1 : Int) := by omega
      have f5 : (k : Int) ≤ (cw : Int) := by omega
      have f6 : (0 : Int) ≤ (i : Int) := by omega
      have f7 : (i : Int) < (n : Int) := by omega
      have hol : outs.length ≤ 255 := by omega
      have hAs2 : AsideI (.slice oo outs.length co_) (.slice (some ⟨gw,0,none⟩) k cw) := fun g h1 h2 => hAs g h1 h2
      have HKK : Hid (k1 = k + 1) := hk2
      have HWK : Hid (ws.length = k) := hk
      clear hAs hW1 hk1 hk2 hk
      obtain ⟨b,off,cc,p1,a1,n1,c1,b1,m1,d1,p2,a2,n2,c2,b2,m2,d2,p3,a3,n3,c3,b3,m3,d3,hvv,hcc,hc6,NN,r1,r2,r3,i1,i2,i3⟩ := hv.at hil
      cases hvv
      clear r1 r2 r3 i1 i2 i3
      have g1 : (i : Int) < (n : Int) := by omega
      have g0 : (0 : Int) ≤ (i : Int) := by omega
      have HNI := HN.out i hil
      obtain ⟨lf,hlf⟩ : ∃ z,(t i).leaf = z := ⟨_,rfl⟩
      obtain ⟨ll,hll⟩ : ∃ z,(t i).left = z := ⟨_,rfl⟩
      obtain ⟨rr,hrr⟩ : ∃ z,(t i).right = z := ⟨_,rfl⟩
      have HLF : Hid ((t i).leaf = lf) := hlf
      have HLL : Hid ((t i).left = ll) := hll
      have HRR : Hid ((t i).right = rr) := hrr
      rw [hlf,hll,hrr] at HNI
      rw [hlf,hll,hrr] at NN
      clear hlf hll hrr
      generalize (t i).miss = ms at NN
      generalize (t i).feat = ft at NN
      have hO2 : IntOwn w.heap.size (wr.alloc (.cells #[.int .i64 (i : Int)] 3)) (.slice oo outs.length co_) outs := hO1.later ((Below.refl _ _).alloc (Nat.le_refl _) _)
      have hW2 : IntOwn w.heap.size (wr.alloc (.cells #[.int .i64 (i : Int)] 3)) (.slice (some ⟨gw,0,none⟩) k cw) ws := hWp.later ((Below.refl _ _).alloc (Nat.le_refl _) _)
      have BB2 : Below w.heap.size w (wr.alloc (.cells #[.int .i64 (i : Int)] 3)) := BB.alloc BB.size _
      have hsz2 : w.heap.size ≤ (wr.alloc (.cells #[.int .i64 (i : Int)] 3)).heap.size := BB2.size
      cases lf
      · obtain ⟨n1_,n2_,n3_,n4_⟩ := HNI rfl
        obtain ⟨l,rfl⟩ : ∃ l : Nat,ll = (l : Int) := ⟨ll.toNat,by omega⟩
        obtain ⟨m,rfl⟩ : ∃ m : Nat,rr = (m : Int) := ⟨rr.toNat,by omega⟩
        have HI2 : Hid (RInv t n (outs ++ [i]) (ws ++ [m,l])) := HI.out.split HO.out HLF.out HLL.out HRR.out (by omega) (by omega) (by omega) (by omega)
        have hl2 := HI2.out.len
        rw [List.length_append,List.length_append] at hl2
        clear HI HNI HLF HLL HRR
        go_wp2_with (first
          | (at_builtin
             refine wpList_append_pureM (Q' := fun _ => False) rfl _ _ _ rfl w.heap.size 3 (.int .i64 0) 1 8 Tryz.underlying35 info_int rfl (by omega) (.slice oo outs.length co_) rfl outs.length (outs.map (fun x : Nat => Value.int .i64 (x : Int))) hO2 (fun _ _ _ _ _ h => h) ⟨wr.heap.size,0,none⟩ 1 1 (by omega) (by omega) rfl [.int .i64 (i : Int)] rfl (news_block (heap_alloc_new _ _)) (by simp [Value.oneCell']) (by simp) (by simp) (by omega) (by omega) hsz2 ?_
             intro go co2 w2 hO3 hg3 hat3 _ _
             have hW3 := hW2.stay hg3 hAs2.symm
             have hAs3 := (asideI_new hW2 hAs2.symm hat3 (m := outs.length + 1) (c := co2)).symm
             have hO4 := int_more hO3
             have hB3 : Below w.heap.size w w2 := below_grownB BB2 hg3 BB2.size (fun g h => (hO2.both g h).1)
             clear hO3 hg3 hat3 BB2 hO2 hW2 hWp hO1 hAs2 BB XW
             obtain ⟨N_0,N_1,N_2,N_3,N_4,N_5,N_6,N_7,N_8,N_9,N_10,N_11,N_12,N_13⟩ := NN.low hB3
             obtain ⟨W1,hW1,hS1,hL1,VN,FN⟩ := V14.lay w2 48 (.bool false) (.int .i64 ft) (.bool p1) (.slice a1 n1 c1) (.slice b1 m1 d1) (.int .i64 (l : Int)) (.int .i64 (m : Int)) (.bool ms) (.bool p2) (.slice a2 n2 c2) (.slice b2 m2 d2) (.bool p3) (.slice a3 n3 c3) (.slice b3 m3 d3)
             replace hB3 := hB3.trans (hL1.mono hB3.size)
             have hO5 := hO4.later hL1
             have hW5 := hW3.later hL1
             obtain ⟨V_0,V_1,V_2,V_3,V_4,V_5,V_6,V_7,V_8,V_9,V_10,V_11,V_12,V_13⟩ := id VN
             have hA6 : Below W1.heap.size W1 (W1.alloc (.cells #[.int .i64 (m : Int),.int .i64 (l : Int)] 3)) := (Below.refl _ _).alloc (Nat.le_refl _) _
             have hO6 := hO5.later hA6
             have hW6 := hW5.later hA6
             have BB6 : Below w.heap.size w (W1.alloc (.cells #[.int .i64 (m : Int),.int .i64 (l : Int)] 3)) := hB3.alloc hB3.size _
             have hsz6 := BB6.size
             have hnb6 := news_block (heap_alloc_new W1 (.cells #[.int .i64 (m : Int),.int .i64 (l : Int)] 3))
             rw [hS1] at hnb6
             have hW7 := int_len HWK.out hW6
             subst hW1)
          | (at_builtin
             refine wpList_append_pureM (Q' := fun _ => False) rfl _ _ _ rfl w.heap.size 3 (.int .i64 0) 1 8 Tryz.underlying35 info_int rfl (by omega) (.slice (some ⟨gw,0,none⟩) k cw) rfl k (ws.map (fun x : Nat => Value.int .i64 (x : Int))) hW7 (fun _ _ _ _ _ h => h) ⟨w2.heap.size + 1,0,none⟩ 2 2 (by omega) (by omega) ?g12 [.int .i64 (m : Int),.int .i64 (l : Int)] rfl hnb6 ?g15 ?g16 ?g17 (by omega) (by omega) hsz6 ?_
             case g12 => (first | (simp; done) | rfl)
             case g15 => simp [Value.oneCell']
             case g16 => simp
             case g17 => simp
             intro gn cn w3 hW8 hg8 hat8 _ _
             have hO9 := hO6.stay hg8 hAs3
             have hAs9 := asideI_new hO6 hAs3 hat8 (m := k + 2) (c := cn)
             have hB9 : Below w.heap.size w w3 := below_grownB BB6 hg8 BB6.size (fun g h => (hW6.both g h).1)
             have hW9 := int_more2 HWK.out hW8
             clear hW8 hg8 hat8 hW7 hO6 hW6 BB6 hA6 hnb6 hsz6 V_0 V_1 V_2 V_3 V_4 V_5 V_6 V_7 V_8 V_9 V_10 V_11 V_12 V_13))
        go_roundw
        case rel => exact ⟨outs ++ [i],ws ++ [m,l],hO9,hW9,hAs9,HI2,hB9⟩
        case measure => simp [lenV]; simp at hl2; omega
      · have HI2 : Hid (RInv t n (outs ++ [i]) ws) := HI.out.leaf HLF.out
        have hl2 := HI2.out.len
        rw [List.length_append] at hl2
        clear HI HNI HLF HLL HRR
        go_wp2_with (first
          | (at_builtin
             refine wpList_append_pureM (Q' := fun _ => False) rfl _ _ _ rfl w.heap.size 3 (.int .i64 0) 1 8 Tryz.underlying35 info_int rfl (by omega) (.slice oo outs.length co_) rfl outs.length (outs.map (fun x : Nat => Value.int .i64 (x : Int))) hO2 (fun _ _ _ _ _ h => h) ⟨wr.heap.size,0,none⟩ 1 1 (by omega) (by omega) rfl [.int .i64 (i : Int)] rfl (news_block (heap_alloc_new _ _)) (by simp [Value.oneCell']) (by simp) (by simp) (by omega) (by omega) hsz2 ?_
             intro go co2 w2 hO3 hg3 hat3 _ _
             have hW3 := hW2.stay hg3 hAs2.symm
             have hAs3 := (asideI_new hW2 hAs2.symm hat3 (m := outs.length + 1) (c := co2)).symm
             have hO4 := int_more hO3
             have hB3 : Below w.heap.size w w2 := below_grownB BB2 hg3 BB2.size (fun g h => (hO2.both g h).1)
             clear hO3 hg3 hat3 BB2 hO2 hW2 hWp hO1 hAs2 BB XW
             obtain ⟨N_0,N_1,N_2,N_3,N_4,N_5,N_6,N_7,N_8,N_9,N_10,N_11,N_12,N_13⟩ := NN.low hB3
             obtain ⟨W1,hW1,hS1,hL1,VN,FN⟩ := V14.lay w2 48 (.bool true) (.int .i64 ft) (.bool p1) (.slice a1 n1 c1) (.slice b1 m1 d1) (.int .i64 ll) (.int .i64 rr) (.bool ms) (.bool p2) (.slice a2 n2 c2) (.slice b2 m2 d2) (.bool p3) (.slice a3 n3 c3) (.slice b3 m3 d3)
             replace hB3 := hB3.trans (hL1.mono hB3.size)
             have hO5 := hO4.later hL1
             have hW5 := hW3.later hL1
             obtain ⟨V_0,V_1,V_2,V_3,V_4,V_5,V_6,V_7,V_8,V_9,V_10,V_11,V_12,V_13⟩ := id VN
             subst hW1))
        go_roundw
        case rel => exact ⟨outs ++ [i],ws,hO5,by have := HWK.out; unfold IntOwn at hW5 ⊢; rw [this] at hW5 ⊢; exact hW5,hAs3,HI2,hB3⟩
        case measure => simp [lenV]; simp at hl2; omega

theorem cmpQ_lt10 (q r : Rat) : decide (cmpQ q r < 0) = decide (q < r) := by
 unfold cmpQ
 by_cases h : q < r
 ·simp [h]
 ·by_cases h2 : r < q
  ·simp [h,h2]
  ·simp [h,h2]
set_option maxRecDepth 100000 in
set_option maxHeartbeats 4000000 in
theorem rleft_at (d : Nd) (c : Cl) (p1 p2 p3 p4 : Bool) (a1 b1 a2 b2 a3 b3 a4 b4 : Option Addr) (n1 c1 m1 d1 n2 c2 m2 d2 n3 c3 m3 d3 n4 c4 m4 d4 : Nat) (L : Nat) (w : World) (hu : RatAt w (.agg #[.bool p1,.slice a1 n1 c1,.slice b1 m1 d1]) d.cut L) (hv : RatAt w (.agg #[.bool p4,.slice a4 n4 c4,.slice b4 m4 d4]) c.val L) (hL : 1 ≤ L) (hM : L ≤ 100000) :
  Calls Tryz.prog 36 #[.agg #[.bool d.leaf,.int .i64 d.feat,.bool p1,.slice a1 n1 c1,.slice b1 m1 d1,.int .i64 d.left,.int .i64 d.right,.bool d.miss,.bool p2,.slice a2 n2 c2,.slice b2 m2 d2,.bool p3,.slice a3 n3 c3,.slice b3 m3 d3],.agg #[.bool c.miss,.bool p4,.slice a4 n4 c4,.slice b4 m4 d4]] w fun e w' => e = .returned (.bool (goL d c)) ∧ Below w.heap.size w w' := by
 have hAB : ∀ o o',Below w.heap.size w ((w.alloc o).alloc o') := fun o o' => ((Below.refl _ _).alloc (Nat.le_refl _) _).alloc (by simp) _
 rcases d with ⟨lf,ft,q,ll,rr,ms,vl,cv⟩
 rcases c with ⟨cm,r⟩
 dsimp only at hu hv ⊢
 cases lf
 ·cases cm
  ·have HO : Hid (goL ⟨false,ft,q,ll,rr,ms,vl,cv⟩ ⟨false,r⟩ = decide (r < q)) := rfl
   have h1 := hu.below (hAB (.cells #[.bool false,.int .i64 ft,.bool p1,.slice a1 n1 c1,.slice b1 m1 d1,.int .i64 ll,.int .i64 rr,.bool ms,.bool p2,.slice a2 n2 c2,.slice b2 m2 d2,.bool p3,.slice a3 n3 c3,.slice b3 m3 d3] 48) (.cells #[.bool false,.bool p4,.slice a4 n4 c4,.slice b4 m4 d4] 65))
   have h2 := hv.below (hAB (.cells #[.bool false,.int .i64 ft,.bool p1,.slice a1 n1 c1,.slice b1 m1 d1,.int .i64 ll,.int .i64 rr,.bool ms,.bool p2,.slice a2 n2 c2,.slice b2 m2 d2,.bool p3,.slice a3 n3 c3,.slice b3 m3 d3] 48) (.cells #[.bool false,.bool p4,.slice a4 n4 c4,.slice b4 m4 d4] 65))
   have BB := hAB (.cells #[.bool false,.int .i64 ft,.bool p1,.slice a1 n1 c1,.slice b1 m1 d1,.int .i64 ll,.int .i64 rr,.bool ms,.bool p2,.slice a2 n2 c2,.slice b2 m2 d2,.bool p3,.slice a3 n3 c3,.slice b3 m3 d3] 48) (.cells #[.bool false,.bool p4,.slice a4 n4 c4,.slice b4 m4 d4] 65)
   go_enter Tryz.func36,Tryz.ntmps36
   go_wp2_with fail
   refine (qcmp_at _ _ r q L _ h2 h1 hL hM).mono ?_
   rintro e w1 ⟨rfl,b1⟩
   replace BB := BB.xm b1
   clear b1 h1 h2
   have HC : Hid (decide (cmpQ r q < 0) = decide (r < q)) := cmpQ_lt10 r q
   generalize cmpQ r q = cq at *
   go_wp2
   go_ret
   exact ⟨by rw [HO.out,← HC.out]; rfl,BB⟩
  ·cases ms <;> (go_enter Tryz.func36,Tryz.ntmps36; go_wp2; go_ret; exact ⟨rfl,hAB _ _⟩)
 ·go_enter Tryz.func36,Tryz.ntmps36
  go_wp2
  go_ret
  exact ⟨rfl,hAB _ _⟩
def Quad10 (w : World) (b o : Nat) (x y z u : Value) : Prop := w.cell? ⟨b,o,none⟩ = some x ∧ w.cell? ⟨b,o + 1,none⟩ = some y ∧ w.cell? ⟨b,o + 2,none⟩ = some z ∧ w.cell? ⟨b,o + 3,none⟩ = some u
theorem Quad10.out {w : World} {b o : Nat} {x y z u : Value} (h : Quad10 w b o x y z u) : w.cell? ⟨b,o,none⟩ = some x ∧ w.cell? ⟨b,o + 1,none⟩ = some y ∧ w.cell? ⟨b,o + 2,none⟩ = some z ∧ w.cell? ⟨b,o + 3,none⟩ = some u := h
theorem Quad10.below {w w' : World} {b o : Nat} {x y z u : Value} (h : Quad10 w b o x y z u) (hb : Below w.heap.size w w') : Quad10 w' b o x y z u := by
 have hl := World.block_lt_of_cell? w _ h.1
 exact ⟨(hb.cell (p := ⟨b,o,none⟩) hl).trans h.1,(hb.cell (p := ⟨b,o + 1,none⟩) hl).trans h.2.1,(hb.cell (p := ⟨b,o + 2,none⟩) hl).trans h.2.2.1,(hb.cell (p := ⟨b,o + 3,none⟩) hl).trans h.2.2.2⟩

theorem ChkOut.open {F : Int} {k : Nat} {N : Nat → Nat} {T : Nat → Nat → Nd} {u : Value} (h : ChkOut F k N T u) : ∃ a s d : Int,u = .agg #[.int .i64 a,.int .i64 0,.int .i64 s,.int .i64 d] ∧ (a = 0 → s = 0 ∧ d = 0) := by
 rcases h with ⟨_,rfl⟩ | ⟨_,x,h,rfl⟩
 ·exact ⟨1,0,0,rfl,fun h => by omega⟩
 ·rcases h with ⟨rfl,_⟩ | ⟨r,i,e,nd,hr,hi,rfl,h1,_,_⟩
  ·exact ⟨0,0,0,rfl,fun _ => ⟨rfl,rfl⟩⟩
  ·have := rl_err h1
   exact ⟨e,(i : Int),(nd : Int),rfl,fun h => by omega⟩
set_option maxRecDepth 100000 in
set_option maxHeartbeats 4000000 in
theorem ok_at (F : Int) (v : Value) (k : Nat) (N : Nat → Nat) (T : Nat → Nat → Nd) (L : Nat) (w : World) (hv : MRow w v k N T L) (ht : Tab w) (hL : 1 ≤ L) (hLM : L ≤ 30000) :
  Calls Tryz.prog 28 #[.agg #[.int .i64 F,v]] w fun e w' => ∃ a s d : Int,e = .returned (.bool (decide (a = 0))) ∧ ChkOut F k N T (.agg #[.int .i64 a,.int .i64 0,.int .i64 s,.int .i64 d]) ∧ Below w.heap.size w w' := by
 obtain ⟨ao,c,rfl,hnc,hc63⟩ := hv.open
 have BB : Below w.heap.size w w := Below.refl _ _
 obtain ⟨Wb0,hW0,hS0,hL0,VM⟩ := V2.lay w 27 (.int .i64 F) (.slice ao k c)
 replace hv := hv.below hL0
 replace ht := ht.below hL0
 replace BB := BB.xm hL0
 clear hL0
 go_enter Tryz.func28,Tryz.ntmps28
 obtain ⟨VM_0,VM_1,VM_2,VM_3⟩ := id VM
 rw [hW0] at VM_0 VM_1 VM_2 VM_3
 go_wp2_with fail
 clear VM_0 VM_1 VM_2 VM_3
 rw [← hW0]
 clear hW0 hS0
 refine (check_at F _ k N T L _ hv ht hL hLM).mono ?_
 rintro e w1 ⟨u,rfl,HC,b1⟩
 replace hv := hv.below b1
 replace ht := ht.below b1
 replace VM := VM.below b1
 replace BB := BB.xm b1
 clear b1
 have HCC : Hid (ChkOut F k N T u) := HC
 obtain ⟨a,s,d,rfl,hz⟩ := HC.open
 clear HC
 by_cases ha : a = 0
 ·obtain ⟨rfl,rfl⟩ := hz ha
  subst ha
  go_wp2
  go_ret
  exact ⟨0,0,0,rfl,HCC.out,BB⟩
 ·have hab : (a == 0) = false := by simp [ha]
  have HR : Hid (decide (a = 0) = false) := decide_eq_false ha
  clear hz
  go_wp2
  go_ret
  exact ⟨a,s,d,ret_bool (a := false) HR.out.symm,HCC.out,BB⟩

theorem one_cell (w : World) (u : Value) (t : TypeId) : RowAt 1 (w.alloc (.cells #[u] t)) (.slice (some ⟨w.heap.size,0,none⟩) 1 1) 1 (fun _ _ => u) := by
 refine ⟨_,_,rfl,Nat.le_refl _,by omega,fun _ => ⟨_,_,rfl,fun i hi j hj => ?_⟩⟩
 obtain rfl : i = 0 := by omega
 obtain rfl : j = 0 := by omega
 rw [cell_of_row _ _ _ _ _ _ (heap_alloc_new w (.cells #[u] t))]
 rfl
theorem one_tree {w : World} {v : Value} {n : Nat} {t : Nat → Nd} {L : Nat} (hv : TRow w v n t L) (ty : TypeId) : MRow (w.alloc (.cells #[v] ty)) (.slice (some ⟨w.heap.size,0,none⟩) 1 1) 1 (fun _ => n) (fun _ => t) L :=
 ⟨_,one_cell w v ty,fun _ _ => hv.below ((Below.refl _ _).alloc (Nat.le_refl _) _)⟩
theorem one_raw {w : World} {v : Value} {n : Nat} {t : Nat → Nd} {L : Nat} (hv : TRaw w v n t L) (ty : TypeId) : MRaw (w.alloc (.cells #[v] ty)) (.slice (some ⟨w.heap.size,0,none⟩) 1 1) 1 (fun _ => n) (fun _ => t) L :=
 ⟨_,one_cell w v ty,fun _ _ => hv.below ((Below.refl _ _).alloc (Nat.le_refl _) _)⟩
set_option maxRecDepth 100000 in
set_option maxHeartbeats 4000000 in
theorem tree_at (F : Int) (v : Value) (n : Nat) (t : Nat → Nd) (L : Nat) (w : World) (hv : TRow w v n t L) (ht : Tab w) (hL : 1 ≤ L) (hLM : L ≤ 30000) :
  Calls Tryz.prog 8 #[v,.int .i64 F] w fun e w' => ∃ a s d : Int,e = .returned (.bool (decide (a = 0))) ∧ ChkOut F 1 (fun _ => n) (fun _ => t) (.agg #[.int .i64 a,.int .i64 0,.int .i64 s,.int .i64 d]) ∧ Below w.heap.size w w' := by
 obtain ⟨ao,c,rfl,hnc,hc63⟩ := hv.open
 have BB : Below w.heap.size w w := Below.refl _ _
 have M1 := one_tree hv 22
 have hA : Below w.heap.size w (w.alloc (.cells #[.slice ao n c] 22)) := (Below.refl _ _).alloc (Nat.le_refl _) _
 have ht1 := ht.below hA
 go_enter Tryz.func8,Tryz.ntmps8
 go_wp2_with fail
 refine (ok_at F _ 1 (fun _ => n) (fun _ => t) L _ M1 ht1 hL hLM).mono ?_
 rintro e w1 ⟨a,s,d,rfl,HC,b1⟩
 have HCC : Hid (ChkOut F 1 (fun _ => n) (fun _ => t) (.agg #[.int .i64 a,.int .i64 0,.int .i64 s,.int .i64 d])) := HC
 have BB1 := hA.trans (b1.mono hA.size)
 clear HC b1 M1 ht1 hA
 generalize hd : decide (a = 0) = dd
 have HD : Hid (decide (a = 0) = dd) := hd
 clear hd
 go_wp2
 go_ret
 exact ⟨a,s,d,by rw [HD.out]; rfl,HCC.out,BB1⟩

noncomputable def mayB (F : Int) (k : Nat) (N : Nat → Nat) (T : Nat → Nat → Nd) : Bool := @decide (ChkOut F k N T (.agg #[.int .i64 0,.int .i64 0,.int .i64 0,.int .i64 0])) (Classical.propDecidable _)
theorem mayB_of {F : Int} {k : Nat} {N : Nat → Nat} {T : Nat → Nat → Nd} {a s d : Int} (h : ChkOut F k N T (.agg #[.int .i64 a,.int .i64 0,.int .i64 s,.int .i64 d])) : decide (a = 0) = mayB F k N T := by
 unfold mayB
 by_cases e : a = 0
 ·subst e
  obtain ⟨a2,s2,d2,e2,hz⟩ := h.open
  injection e2 with e2
  simp only [Array.mk.injEq,List.cons.injEq,Value.int.injEq,true_and,and_true] at e2
  obtain ⟨e0,es,ed⟩ := e2
  obtain ⟨rfl,rfl⟩ := hz e0.symm
  subst es ed
  rw [decide_eq_true rfl]
  exact (@decide_eq_true _ (Classical.propDecidable _) h).symm
 ·rw [decide_eq_false e]
  refine (@decide_eq_false _ (Classical.propDecidable _) (fun h2 => e ?_)).symm
  have := h.one h2
  injection this with this
  simp only [Array.mk.injEq,List.cons.injEq,Value.int.injEq,true_and,and_true] at this
  exact this.1
theorem mayB_may {F : Int} {k : Nat} {N : Nat → Nat} {T : Nat → Nat → Nd} (h : mayB F k N T = true) : 0 ≤ F ∧ F ≤ 64 ∧ k ≤ 64 ∧ ∀ i,i < k → MayT F (T i) (N i) := by
 unfold mayB at h
 exact (@of_decide_eq_true _ (Classical.propDecidable _) h).may
theorem tree_may (F : Int) (v : Value) (n : Nat) (t : Nat → Nd) (L : Nat) (w : World) (hv : TRow w v n t L) (ht : Tab w) (hL : 1 ≤ L) (hLM : L ≤ 30000) :
  Calls Tryz.prog 8 #[v,.int .i64 F] w fun e w' => e = .returned (.bool (mayB F 1 (fun _ => n) (fun _ => t))) ∧ Below w.heap.size w w' := by
 refine (tree_at F v n t L w hv ht hL hLM).mono ?_
 rintro e w' ⟨a,s,d,rfl,h,hb⟩
 exact ⟨by rw [mayB_of h],hb⟩
theorem ok_may (F : Int) (v : Value) (k : Nat) (N : Nat → Nat) (T : Nat → Nat → Nd) (L : Nat) (w : World) (hv : MRow w v k N T L) (ht : Tab w) (hL : 1 ≤ L) (hLM : L ≤ 30000) :
  Calls Tryz.prog 28 #[.agg #[.int .i64 F,v]] w fun e w' => e = .returned (.bool (mayB F k N T)) ∧ Below w.heap.size w w' := by
 refine (ok_at F v k N T L w hv ht hL hLM).mono ?_
 rintro e w' ⟨a,s,d,rfl,h,hb⟩
 exact ⟨by rw [mayB_of h],hb⟩
def WInv (t : Nat → Nd) (n : Nat) (r : Nat → Cl) (zs : List Nat) (x : Nat) : Prop := x < n ∧ ∃ pre,zs = pre ++ [x] ∧ pre ++ way t n r x = way t n r 0
theorem WInv.start {t : Nat → Nd} {n : Nat} (r : Nat → Cl) (h : 0 < n) : WInv t n r [0] 0 := ⟨h,[],rfl,rfl⟩
theorem WInv.leaf {t : Nat → Nd} {n : Nat} {r : Nat → Cl} {zs : List Nat} {x : Nat} (h : WInv t n r zs x) (hl : (t x).leaf = true) : zs = way t n r 0 := by
 obtain ⟨_,pre,e,h⟩ := h
 rw [way_leaf hl] at h
 rw [e,h]
theorem WInv.split {F : Int} {t : Nat → Nd} {n : Nat} {r : Nat → Cl} {zs : List Nat} {x : Nat} (h : WInv t n r zs x) (hm : MayT F t n) (hl : (t x).leaf = false) : WInv t n r (zs ++ [nxt (t x) r]) (nxt (t x) r) := by
 obtain ⟨hx,pre,e,h⟩ := h
 rw [hm.way_split r hx hl] at h
 refine ⟨(hm.nxt hx hl r).1,pre ++ [x],by rw [e],?_⟩
 rw [← h,List.append_assoc]
 rfl
theorem WInv.len {F : Int} {t : Nat → Nd} {n : Nat} {r : Nat → Cl} {zs : List Nat} {x : Nat} (h : WInv t n r zs x) (hm : MayT F t n) : 1 ≤ zs.length ∧ zs.length ≤ n + 1 := by
 obtain ⟨hx,pre,e,h⟩ := h
 have h1 := hm.way_len r (x := 0) (by omega)
 rw [← h,List.length_append] at h1
 have := List.length_pos_iff.2 (way_ne t n r x)
 rw [e,List.length_append]
 simp
 omega
theorem int_app {B : Nat} {w : World} {g c k m : Nat} {zs ys : List Nat} (hz : zs.length = k) (hy : ys.length = m) (h : w.ownsRow B 3 1 (.slice (some ⟨g,0,none⟩) (k + m) c) (k + m) (zs.map (fun x : Nat => Value.int .i64 (x : Int)) ++ ys.map (fun x : Nat => Value.int .i64 (x : Int)))) : IntOwn B w (.slice (some ⟨g,0,none⟩) (k + m) c) (zs ++ ys) := by
 unfold IntOwn
 rw [List.length_append,List.map_append,hz,hy]
 exact h
theorem IntOwn.le {B B' : Nat} {w : World} {v : Value} {zs : List Nat} (h : IntOwn B w v zs) (hb : B' ≤ B) : IntOwn B' w v zs := by
 refine ⟨h.1,?_⟩
 rcases h.2 with h | ⟨g,c,cur,e,h1,h2⟩
 ·exact .inl h
 ·exact .inr ⟨g,c,cur,e,Nat.le_trans hb h1,h2⟩
end Go.Proofs.YtbbliiafkjipbaaGreatDoor
