/-
  Texts of mine.
-/
import Derived.Test.YthkamfddbiheoaaGreatDoorJ232f14ca68
import Derived.Test.YthkamfddbiheoaaGreatDoorJ89100f10be
import Derived.Test.YthkamfddbiheoaaGreatDoorJ8f906ac881
import Derived.Test.YthkamfddbiheoaaGreatDoorJf527f16646
import Derived.Test.YthkamfddbiheoaaGreatDoorJ839713949f
import Derived.Test.YthkamfddbiheoaaGreatDoorJ64a3c96c89
import Derived.Test.YthkamfddbiheoaaGreatDoorJa607d653bf
import Derived.Test.YthkamfddbiheoaaGreatDoorJf368a95a5d
import Derived.Deep.QuietTactic
import Derived.BigQuiet
namespace Go.Proofs.YthkamfddbiheoaaGreatDoor
open Go.ChangeShapes Go.WideShapes Go.ChangeAt Go.RowKit
set_option linter.unusedVariables false

/-- A list of rational numbers as it comes in; q i is the i-th cut to K limbs above and below. -/
def RawQ (w : World) (v : Value) (n : Nat) (q : Nat → Rat) (K : Nat) : Prop :=
 ∃ el, RowAt 3 w v n el ∧ ∀ i, i < n → ∃ p ao m c bo k d f g, el i 0 = .bool p ∧ el i 1 = .slice ao m c ∧ el i 2 = .slice bo k d ∧ Raw w (.slice ao m c) m f ∧ Raw w (.slice bo k d) k g ∧ q i = mkRat (zof p (num f (min m K))) (num g (min k K))
theorem RawQ.below {w w' : World} {v : Value} {n : Nat} {q : Nat → Rat} {K : Nat} (h : RawQ w v n q K) (hb : Below w.heap.size w w') : RawQ w' v n q K := by
 obtain ⟨el, h1, h2⟩ := h
 exact ⟨el, h1.below hb, fun i hi => let ⟨p, ao, m, c, bo, k, d, f, g, a, b, x, r, r2, e⟩ := h2 i hi; ⟨p, ao, m, c, bo, k, d, f, g, a, b, x, r.below hb, r2.below hb, e⟩⟩
/-- The i-th of them. -/
theorem RawQ.at {w : World} {v : Value} {n : Nat} {q : Nat → Rat} {K : Nat} (h : RawQ w v n q K) (i : Nat) (hi : i < n) :
  ∃ b off c p ao m d bo k e f g, v = .slice (some ⟨b, off, none⟩) n c ∧ n ≤ c ∧ w.cell? ⟨b, off + i * 3, none⟩ = some (.bool p) ∧ w.cell? ⟨b, off + i * 3 + 1, none⟩ = some (.slice ao m d) ∧ w.cell? ⟨b, off + i * 3 + 2, none⟩ = some (.slice bo k e) ∧ Raw w (.slice ao m d) m f ∧ Raw w (.slice bo k e) k g ∧ q i = mkRat (zof p (num f (min m K))) (num g (min k K)) := by
 obtain ⟨el, ⟨a, c, h1, h2, h3, h4⟩, h5⟩ := h
 obtain ⟨b, off, rfl, hc⟩ := h4 (by omega)
 obtain ⟨p, ao, m, d, bo, k, e, f, g, e0, e1, e2, r, r2, eq⟩ := h5 i hi
 have c0 := hc i hi 0 (by omega)
 have c1 := hc i hi 1 (by omega)
 have c2 := hc i hi 2 (by omega)
 rw [e0] at c0
 rw [e1] at c1
 rw [e2] at c2
 exact ⟨b, off, c, p, ao, m, d, bo, k, e, f, g, h1, h2, c0, c1, c2, r, r2, eq⟩

def I64 (z : Int) : Prop := -9223372036854775808 ≤ z ∧ z ≤ 9223372036854775807
/-- A rational number's three cells, as they come in; as a number of at most L limbs. -/
def RawN (w : World) (x y z : Value) (q : Rat) (K : Nat) : Prop := ∃ p ao m c bo k d f g, x = .bool p ∧ y = .slice ao m c ∧ z = .slice bo k d ∧ Raw w (.slice ao m c) m f ∧ Raw w (.slice bo k d) k g ∧ q = mkRat (zof p (num f (min m K))) (num g (min k K))
def AtN (w : World) (x y z : Value) (q : Rat) (L : Nat) : Prop := ∃ p ao m c bo k d, x = .bool p ∧ y = .slice ao m c ∧ z = .slice bo k d ∧ RatAt w (.agg #[.bool p, .slice ao m c, .slice bo k d]) q L
theorem RawN.below {w w' : World} {x y z : Value} {q : Rat} {K : Nat} (h : RawN w x y z q K) (hb : Below w.heap.size w w') : RawN w' x y z q K := by
 obtain ⟨p, ao, m, c, bo, k, d, f, g, a, b, e, r, r2, q⟩ := h
 exact ⟨p, ao, m, c, bo, k, d, f, g, a, b, e, r.below hb, r2.below hb, q⟩
theorem AtN.below {w w' : World} {x y z : Value} {q : Rat} {L : Nat} (h : AtN w x y z q L) (hb : Below w.heap.size w w') : AtN w' x y z q L := by
 obtain ⟨p, ao, m, c, bo, k, d, a, b, e, r⟩ := h
 exact ⟨p, ao, m, c, bo, k, d, a, b, e, r.below hb⟩
def NodeRaw (w : World) (el : Nat → Value) (d : Nd) (K : Nat) : Prop := el 0 = .bool d.leaf ∧ el 1 = .int .i64 d.feat ∧ RawN w (el 2) (el 3) (el 4) d.cut K ∧ el 5 = .int .i64 d.left ∧ el 6 = .int .i64 d.right ∧ el 7 = .bool d.miss ∧ RawN w (el 8) (el 9) (el 10) d.val K ∧ RawN w (el 11) (el 12) (el 13) d.cov K ∧ I64 d.feat ∧ I64 d.left ∧ I64 d.right
def NodeAt (w : World) (el : Nat → Value) (d : Nd) (L : Nat) : Prop := el 0 = .bool d.leaf ∧ el 1 = .int .i64 d.feat ∧ AtN w (el 2) (el 3) (el 4) d.cut L ∧ el 5 = .int .i64 d.left ∧ el 6 = .int .i64 d.right ∧ el 7 = .bool d.miss ∧ AtN w (el 8) (el 9) (el 10) d.val L ∧ AtN w (el 11) (el 12) (el 13) d.cov L ∧ I64 d.feat ∧ I64 d.left ∧ I64 d.right
theorem NodeRaw.below {w w' : World} {el : Nat → Value} {d : Nd} {K : Nat} (h : NodeRaw w el d K) (hb : Below w.heap.size w w') : NodeRaw w' el d K := by
 obtain ⟨a, b, c, e, f, g, i, j, k⟩ := h
 exact ⟨a, b, c.below hb, e, f, g, i.below hb, j.below hb, k⟩
theorem NodeAt.below {w w' : World} {el : Nat → Value} {d : Nd} {L : Nat} (h : NodeAt w el d L) (hb : Below w.heap.size w w') : NodeAt w' el d L := by
 obtain ⟨a, b, c, e, f, g, i, j, k⟩ := h
 exact ⟨a, b, c.below hb, e, f, g, i.below hb, j.below hb, k⟩
def TRaw (w : World) (v : Value) (n : Nat) (t : Nat → Nd) (K : Nat) : Prop := ∃ el, RowAt 14 w v n el ∧ ∀ i, i < n → NodeRaw w (el i) (t i) K
def TRow (w : World) (v : Value) (n : Nat) (t : Nat → Nd) (L : Nat) : Prop := ∃ el, RowAt 14 w v n el ∧ ∀ i, i < n → NodeAt w (el i) (t i) L
theorem TRaw.below {w w' : World} {v : Value} {n : Nat} {t : Nat → Nd} {K : Nat} (h : TRaw w v n t K) (hb : Below w.heap.size w w') : TRaw w' v n t K := by
 obtain ⟨el, h1, h2⟩ := h
 exact ⟨el, h1.below hb, fun i hi => (h2 i hi).below hb⟩
theorem TRow.below {w w' : World} {v : Value} {n : Nat} {t : Nat → Nd} {L : Nat} (h : TRow w v n t L) (hb : Below w.heap.size w w') : TRow w' v n t L := by
 obtain ⟨el, h1, h2⟩ := h
 exact ⟨el, h1.below hb, fun i hi => (h2 i hi).below hb⟩
theorem TRow.open {w : World} {v : Value} {n : Nat} {t : Nat → Nd} {L : Nat} (h : TRow w v n t L) : ∃ a c, v = .slice a n c ∧ n ≤ c ∧ c ≤ 9223372036854775807 := by
 obtain ⟨el, ⟨a, c, h1, h2, h3, _⟩, _⟩ := h
 exact ⟨a, c, h1, h2, h3⟩
theorem TRaw.open {w : World} {v : Value} {n : Nat} {t : Nat → Nd} {L : Nat} (h : TRaw w v n t L) : ∃ a c, v = .slice a n c ∧ n ≤ c ∧ c ≤ 9223372036854775807 := by
 obtain ⟨el, ⟨a, c, h1, h2, h3, _⟩, _⟩ := h
 exact ⟨a, c, h1, h2, h3⟩
/-- Fourteen cells in a row. -/
structure N14 (w : World) (b o : Nat) (x0 x1 x2 x3 x4 x5 x6 x7 x8 x9 x10 x11 x12 x13 : Value) : Prop where
 c0 : w.cell? ⟨b, o, none⟩ = some x0
 c1 : w.cell? ⟨b, o + 1, none⟩ = some x1
 c2 : w.cell? ⟨b, o + 2, none⟩ = some x2
 c3 : w.cell? ⟨b, o + 3, none⟩ = some x3
 c4 : w.cell? ⟨b, o + 4, none⟩ = some x4
 c5 : w.cell? ⟨b, o + 5, none⟩ = some x5
 c6 : w.cell? ⟨b, o + 6, none⟩ = some x6
 c7 : w.cell? ⟨b, o + 7, none⟩ = some x7
 c8 : w.cell? ⟨b, o + 8, none⟩ = some x8
 c9 : w.cell? ⟨b, o + 9, none⟩ = some x9
 c10 : w.cell? ⟨b, o + 10, none⟩ = some x10
 c11 : w.cell? ⟨b, o + 11, none⟩ = some x11
 c12 : w.cell? ⟨b, o + 12, none⟩ = some x12
 c13 : w.cell? ⟨b, o + 13, none⟩ = some x13
theorem RowAt.n14 {w : World} {v : Value} {n : Nat} {el : Nat → Nat → Value} (h : RowAt 14 w v n el) {i : Nat} (hi : i < n) : ∃ b off c, v = .slice (some ⟨b, off, none⟩) n c ∧ n ≤ c ∧ c ≤ 9223372036854775807 ∧ N14 w b (off + i * 14) (el i 0) (el i 1) (el i 2) (el i 3) (el i 4) (el i 5) (el i 6) (el i 7) (el i 8) (el i 9) (el i 10) (el i 11) (el i 12) (el i 13) := by
 obtain ⟨a, c, h1, h2, h3, h4⟩ := h
 obtain ⟨b, off, rfl, hc⟩ := h4 (by omega)
 have hc := hc i hi
 exact ⟨b, off, c, h1, h2, h3, hc 0 (by omega), hc 1 (by omega), hc 2 (by omega), hc 3 (by omega), hc 4 (by omega), hc 5 (by omega), hc 6 (by omega), hc 7 (by omega), hc 8 (by omega), hc 9 (by omega), hc 10 (by omega), hc 11 (by omega), hc 12 (by omega), hc 13 (by omega)⟩
theorem TRow.at {w : World} {v : Value} {n : Nat} {t : Nat → Nd} {L : Nat} (h : TRow w v n t L) {i : Nat} (hi : i < n) :
  ∃ b off c p1 a1 n1 c1 b1 m1 d1 p2 a2 n2 c2 b2 m2 d2 p3 a3 n3 c3 b3 m3 d3, v = .slice (some ⟨b, off, none⟩) n c ∧ n ≤ c ∧ c ≤ 9223372036854775807 ∧
   N14 w b (off + i * 14) (.bool (t i).leaf) (.int .i64 (t i).feat) (.bool p1) (.slice a1 n1 c1) (.slice b1 m1 d1) (.int .i64 (t i).left) (.int .i64 (t i).right) (.bool (t i).miss) (.bool p2) (.slice a2 n2 c2) (.slice b2 m2 d2) (.bool p3) (.slice a3 n3 c3) (.slice b3 m3 d3) ∧
   RatAt w (.agg #[.bool p1, .slice a1 n1 c1, .slice b1 m1 d1]) (t i).cut L ∧ RatAt w (.agg #[.bool p2, .slice a2 n2 c2, .slice b2 m2 d2]) (t i).val L ∧ RatAt w (.agg #[.bool p3, .slice a3 n3 c3, .slice b3 m3 d3]) (t i).cov L ∧ I64 (t i).feat ∧ I64 (t i).left ∧ I64 (t i).right := by
 obtain ⟨el, h1, h2⟩ := h
 obtain ⟨b, off, c, e, hc, hm, hN⟩ := h1.n14 hi
 obtain ⟨e0, e1, ⟨p1, a1, n1, c1, b1, m1, d1, e2, e3, e4, r1⟩, e5, e6, e7, ⟨p2, a2, n2, c2, b2, m2, d2, e8, e9, e10, r2⟩, ⟨p3, a3, n3, c3, b3, m3, d3, e11, e12, e13, r3⟩, i1, i2, i3⟩ := h2 i hi
 rw [e0, e1, e2, e3, e4, e5, e6, e7, e8, e9, e10, e11, e12, e13] at hN
 exact ⟨b, off, c, p1, a1, n1, c1, b1, m1, d1, p2, a2, n2, c2, b2, m2, d2, p3, a3, n3, c3, b3, m3, d3, e, hc, hm, hN, r1, r2, r3, i1, i2, i3⟩
theorem TRaw.at {w : World} {v : Value} {n : Nat} {t : Nat → Nd} {K : Nat} (h : TRaw w v n t K) {i : Nat} (hi : i < n) :
  ∃ b off c p1 a1 n1 c1 b1 m1 d1 f1 g1 p2 a2 n2 c2 b2 m2 d2 f2 g2 p3 a3 n3 c3 b3 m3 d3 f3 g3, v = .slice (some ⟨b, off, none⟩) n c ∧ n ≤ c ∧ c ≤ 9223372036854775807 ∧
   N14 w b (off + i * 14) (.bool (t i).leaf) (.int .i64 (t i).feat) (.bool p1) (.slice a1 n1 c1) (.slice b1 m1 d1) (.int .i64 (t i).left) (.int .i64 (t i).right) (.bool (t i).miss) (.bool p2) (.slice a2 n2 c2) (.slice b2 m2 d2) (.bool p3) (.slice a3 n3 c3) (.slice b3 m3 d3) ∧
   (Raw w (.slice a1 n1 c1) n1 f1 ∧ Raw w (.slice b1 m1 d1) m1 g1 ∧ (t i).cut = mkRat (zof p1 (num f1 (min n1 K))) (num g1 (min m1 K))) ∧
   (Raw w (.slice a2 n2 c2) n2 f2 ∧ Raw w (.slice b2 m2 d2) m2 g2 ∧ (t i).val = mkRat (zof p2 (num f2 (min n2 K))) (num g2 (min m2 K))) ∧
   (Raw w (.slice a3 n3 c3) n3 f3 ∧ Raw w (.slice b3 m3 d3) m3 g3 ∧ (t i).cov = mkRat (zof p3 (num f3 (min n3 K))) (num g3 (min m3 K))) ∧ I64 (t i).feat ∧ I64 (t i).left ∧ I64 (t i).right := by
 obtain ⟨el, h1, h2⟩ := h
 obtain ⟨b, off, c, e, hc, hm, hN⟩ := h1.n14 hi
 obtain ⟨e0, e1, ⟨p1, a1, n1, c1, b1, m1, d1, f1, g1, e2, e3, e4, r1⟩, e5, e6, e7, ⟨p2, a2, n2, c2, b2, m2, d2, f2, g2, e8, e9, e10, r2⟩, ⟨p3, a3, n3, c3, b3, m3, d3, f3, g3, e11, e12, e13, r3⟩, i1, i2, i3⟩ := h2 i hi
 rw [e0, e1, e2, e3, e4, e5, e6, e7, e8, e9, e10, e11, e12, e13] at hN
 exact ⟨b, off, c, p1, a1, n1, c1, b1, m1, d1, f1, g1, p2, a2, n2, c2, b2, m2, d2, f2, g2, p3, a3, n3, c3, b3, m3, d3, f3, g3, e, hc, hm, hN, r1, r2, r3, i1, i2, i3⟩
/-- A model's trees. -/
def MRaw (w : World) (v : Value) (k : Nat) (N : Nat → Nat) (t : Nat → Nat → Nd) (K : Nat) : Prop := ∃ el, RowAt 1 w v k el ∧ ∀ i, i < k → TRaw w (el i 0) (N i) (t i) K
def MRow (w : World) (v : Value) (k : Nat) (N : Nat → Nat) (t : Nat → Nat → Nd) (L : Nat) : Prop := ∃ el, RowAt 1 w v k el ∧ ∀ i, i < k → TRow w (el i 0) (N i) (t i) L
theorem MRaw.below {w w' : World} {v : Value} {k : Nat} {N : Nat → Nat} {t : Nat → Nat → Nd} {K : Nat} (h : MRaw w v k N t K) (hb : Below w.heap.size w w') : MRaw w' v k N t K := by
 obtain ⟨el, h1, h2⟩ := h
 exact ⟨el, h1.below hb, fun i hi => (h2 i hi).below hb⟩
theorem MRow.below {w w' : World} {v : Value} {k : Nat} {N : Nat → Nat} {t : Nat → Nat → Nd} {L : Nat} (h : MRow w v k N t L) (hb : Below w.heap.size w w') : MRow w' v k N t L := by
 obtain ⟨el, h1, h2⟩ := h
 exact ⟨el, h1.below hb, fun i hi => (h2 i hi).below hb⟩
theorem MRow.open {w : World} {v : Value} {k : Nat} {N : Nat → Nat} {t : Nat → Nat → Nd} {L : Nat} (h : MRow w v k N t L) : ∃ a c, v = .slice a k c ∧ k ≤ c ∧ c ≤ 9223372036854775807 := by
 obtain ⟨el, ⟨a, c, h1, h2, h3, _⟩, _⟩ := h
 exact ⟨a, c, h1, h2, h3⟩
theorem MRaw.open {w : World} {v : Value} {k : Nat} {N : Nat → Nat} {t : Nat → Nat → Nd} {L : Nat} (h : MRaw w v k N t L) : ∃ a c, v = .slice a k c ∧ k ≤ c ∧ c ≤ 9223372036854775807 := by
 obtain ⟨el, ⟨a, c, h1, h2, h3, _⟩, _⟩ := h
 exact ⟨a, c, h1, h2, h3⟩
theorem MRow.at {w : World} {v : Value} {k : Nat} {N : Nat → Nat} {t : Nat → Nat → Nd} {L : Nat} (h : MRow w v k N t L) {i : Nat} (hi : i < k) : ∃ b off c a d, v = .slice (some ⟨b, off, none⟩) k c ∧ k ≤ c ∧ w.cell? ⟨b, off + i, none⟩ = some (.slice a (N i) d) ∧ TRow w (.slice a (N i) d) (N i) (t i) L := by
 obtain ⟨el, ⟨a, c, h1, h2, h3, h4⟩, h5⟩ := h
 obtain ⟨b, off, rfl, hc⟩ := h4 (by omega)
 obtain ⟨a, d, e, _⟩ := (h5 i hi).open
 have := hc i hi 0 (by omega)
 rw [Nat.mul_one, Nat.add_zero, e] at this
 exact ⟨b, off, c, a, d, h1, h2, this, e ▸ h5 i hi⟩
theorem MRaw.at {w : World} {v : Value} {k : Nat} {N : Nat → Nat} {t : Nat → Nat → Nd} {L : Nat} (h : MRaw w v k N t L) {i : Nat} (hi : i < k) : ∃ b off c a d, v = .slice (some ⟨b, off, none⟩) k c ∧ k ≤ c ∧ w.cell? ⟨b, off + i, none⟩ = some (.slice a (N i) d) ∧ TRaw w (.slice a (N i) d) (N i) (t i) L := by
 obtain ⟨el, ⟨a, c, h1, h2, h3, h4⟩, h5⟩ := h
 obtain ⟨b, off, rfl, hc⟩ := h4 (by omega)
 obtain ⟨a, d, e, _⟩ := (h5 i hi).open
 have := hc i hi 0 (by omega)
 rw [Nat.mul_one, Nat.add_zero, e] at this
 exact ⟨b, off, c, a, d, h1, h2, this, e ▸ h5 i hi⟩
/-- A variable for a node, and what it holds. -/
structure V14 (w : World) (R : Nat) (x0 x1 x2 x3 x4 x5 x6 x7 x8 x9 x10 x11 x12 x13 : Value) : Prop where
 c0 : w.cell? ⟨R, 0, none⟩ = some x0
 c1 : w.cell? ⟨R, 1, none⟩ = some x1
 c2 : w.cell? ⟨R, 2, none⟩ = some x2
 c3 : w.cell? ⟨R, 3, none⟩ = some x3
 c4 : w.cell? ⟨R, 4, none⟩ = some x4
 c5 : w.cell? ⟨R, 5, none⟩ = some x5
 c6 : w.cell? ⟨R, 6, none⟩ = some x6
 c7 : w.cell? ⟨R, 7, none⟩ = some x7
 c8 : w.cell? ⟨R, 8, none⟩ = some x8
 c9 : w.cell? ⟨R, 9, none⟩ = some x9
 c10 : w.cell? ⟨R, 10, none⟩ = some x10
 c11 : w.cell? ⟨R, 11, none⟩ = some x11
 c12 : w.cell? ⟨R, 12, none⟩ = some x12
 c13 : w.cell? ⟨R, 13, none⟩ = some x13
theorem V14.lt {w : World} {R : Nat} {x0 x1 x2 x3 x4 x5 x6 x7 x8 x9 x10 x11 x12 x13 : Value} (h : V14 w R x0 x1 x2 x3 x4 x5 x6 x7 x8 x9 x10 x11 x12 x13) : R < w.heap.size := World.block_lt_of_cell? _ _ h.c0
theorem V14.below {w w' : World} {R : Nat} {x0 x1 x2 x3 x4 x5 x6 x7 x8 x9 x10 x11 x12 x13 : Value} (h : V14 w R x0 x1 x2 x3 x4 x5 x6 x7 x8 x9 x10 x11 x12 x13) (hb : Below w.heap.size w w') : V14 w' R x0 x1 x2 x3 x4 x5 x6 x7 x8 x9 x10 x11 x12 x13 := by
 have hl := h.lt
 obtain ⟨h0, h1, h2, h3, h4, h5, h6, h7, h8, h9, h10, h11, h12, h13⟩ := h
 exact ⟨(hb.cell hl).trans h0, (hb.cell hl).trans h1, (hb.cell hl).trans h2, (hb.cell hl).trans h3, (hb.cell hl).trans h4, (hb.cell hl).trans h5, (hb.cell hl).trans h6, (hb.cell hl).trans h7, (hb.cell hl).trans h8, (hb.cell hl).trans h9, (hb.cell hl).trans h10, (hb.cell hl).trans h11, (hb.cell hl).trans h12, (hb.cell hl).trans h13⟩
theorem V14.lay (w : World) (t : TypeId) (x0 x1 x2 x3 x4 x5 x6 x7 x8 x9 x10 x11 x12 x13 : Value) : ∃ W, W = w.alloc (.cells #[x0, x1, x2, x3, x4, x5, x6, x7, x8, x9, x10, x11, x12, x13] t) ∧ W.heap.size = w.heap.size + 1 ∧ Below w.heap.size w W ∧ V14 W w.heap.size x0 x1 x2 x3 x4 x5 x6 x7 x8 x9 x10 x11 x12 x13 ∧ (∀ j, W.frozen? ⟨w.heap.size, j, none⟩ = false) := by
 have hb := heap_alloc_new w (.cells #[x0, x1, x2, x3, x4, x5, x6, x7, x8, x9, x10, x11, x12, x13] t)
 refine ⟨_, rfl, by simp, (Below.refl _ _).alloc (Nat.le_refl _) _, ?_, ?_⟩
 ·constructor <;> (rw [cell_of_row _ _ _ _ _ _ hb]; rfl)
 ·intro j
  simp only [World.frozen?]
  rw [hb]
  simp
/-- A fault. -/
def fltV (x : Option (Int × Nat × Nat)) : Value := match x with
 | none => .agg #[.int .i64 0, .int .i64 0, .int .i64 0, .int .i64 0]
 | some (e, i, nd) => .agg #[.int .i64 e, .int .i64 0, .int .i64 (i : Int), .int .i64 (nd : Int)]

end Go.Proofs.YthkamfddbiheoaaGreatDoor

namespace Go.Proofs.YthkamfddbiheoaaGreatDoor
open Go.RowKit
set_option linter.unusedVariables false

theorem cell_set_at {w : World} {R i : Nat} {x u : Value} (h : w.cell? ⟨R, i, none⟩ = some x) : (w.setCell ⟨R, i, none⟩ u).cell? ⟨R, i, none⟩ = some u := World.cell?_setCell_same _ _ _ h
theorem cell_set_by {w : World} {R i j : Nat} {x u : Value} (h : w.cell? ⟨R, i, none⟩ = some x) (hne : i ≠ j) : (w.setCell ⟨R, j, none⟩ u).cell? ⟨R, i, none⟩ = some x := by
 rw [World.cell?_setCell_other _ _ _ _ (fun e => hne (by injection e with _ e2; exact e2.symm))]; exact h
theorem grown_at (w : World) (a : Addr) (x : Value) : w.grownBy (w.setCell a x) (some a.block) :=
 ⟨rfl, rfl, rfl, by simp, fun k _ hk => by rw [Below.heap_setCell _ _ _ _ (fun e => hk (by rw [e]))]⟩
theorem limb_bool (b : Bool) : ¬ IsLimb (.bool b) := fun ⟨_, h⟩ => by rcases h with h | h <;> cases h
theorem limb_slice (a : Option Addr) (n c : Nat) : ¬ IsLimb (.slice a n c) := fun ⟨_, h⟩ => by rcases h with h | h <;> cases h
theorem AtN.keepL {w w' : World} {x y z : Value} {q : Rat} {L : Nat} (h : AtN w x y z q L) (hk : KeepQ IsLimb w w') : AtN w' x y z q L := by
 obtain ⟨p, ao, m, c, bo, k, d, a, b, e, r⟩ := h
 exact ⟨p, ao, m, c, bo, k, d, a, b, e, r.keepL hk⟩
theorem NodeAt.keepL {w w' : World} {el : Nat → Value} {d : Nd} {L : Nat} (h : NodeAt w el d L) (hk : KeepQ IsLimb w w') : NodeAt w' el d L := by
 obtain ⟨a, b, c, e, f, g, i, j, k⟩ := h
 exact ⟨a, b, c.keepL hk, e, f, g, i.keepL hk, j.keepL hk, k⟩
theorem NodeAt.congr {w : World} {el el' : Nat → Value} {d : Nd} {L : Nat} (h : NodeAt w el d L) (e : ∀ j, j < 14 → el j = el' j) : NodeAt w el' d L := by
 unfold NodeAt at h ⊢
 rw [← e 0 (by omega), ← e 1 (by omega), ← e 2 (by omega), ← e 3 (by omega), ← e 4 (by omega), ← e 5 (by omega), ← e 6 (by omega), ← e 7 (by omega), ← e 8 (by omega), ← e 9 (by omega), ← e 10 (by omega), ← e 11 (by omega), ← e 12 (by omega), ← e 13 (by omega)]
 exact h
/-- A tree of the call's own. -/
def NOwn (B : Nat) (w : World) (v : Value) (n : Nat) (t : Nat → Nd) (L : Nat) : Prop := ∃ cs : List Value, w.ownsRow B 46 14 v n cs ∧ (∀ g, v.ownBlock = some g → PureB IsLimb w g) ∧ ∀ i, i < n → NodeAt w (fun j => cs.getD (i * 14 + j) undef) (t i) L
theorem NOwn.nil (B : Nat) (w : World) (t : Nat → Nd) (L : Nat) : NOwn B w (.slice none 0 0) 0 t L := ⟨[], World.ownsRow_nil _ _ _ _, fun g h => by simp [Value.ownBlock] at h, fun i hi => by omega⟩
theorem owns_le {B B' k : Nat} {e : TypeId} {w : World} {v : Value} {n : Nat} {us : List Value} (h : w.ownsRow B e k v n us) (hb : B' ≤ B) : w.ownsRow B' e k v n us := by
 refine ⟨h.1, ?_⟩
 rcases h.2 with hn | ⟨g, cap, cur, rfl, hB, rest⟩
 ·exact .inl hn
 ·exact .inr ⟨g, cap, cur, rfl, by omega, rest⟩
theorem NOwn.le {B B' : Nat} {w : World} {v : Value} {n : Nat} {t : Nat → Nd} {L : Nat} (h : NOwn B w v n t L) (hb : B' ≤ B) : NOwn B' w v n t L := by
 obtain ⟨cs, h1, h2, h3⟩ := h
 exact ⟨cs, owns_le h1 hb, h2, h3⟩
theorem NOwn.later {B : Nat} {w w' : World} {v : Value} {n : Nat} {t : Nat → Nd} {L : Nat} (h : NOwn B w v n t L) (hb : Below w.heap.size w w') : NOwn B w' v n t L := by
 obtain ⟨cs, h1, h2, h3⟩ := h
 exact ⟨cs, owns_later h1 hb, fun g hg => (h2 g hg).below hb (World.ownsRow.lt h1 g hg).2, fun i hi => (h3 i hi).below hb⟩
theorem NOwn.form {B : Nat} {w : World} {v : Value} {n : Nat} {t : Nat → Nd} {L : Nat} (h : NOwn B w v n t L) : ∃ a c, v = .slice a n c := by
 obtain ⟨cs, h1, _⟩ := h
 rcases h1.2 with ⟨rfl, rfl⟩ | ⟨g, c, _, rfl, _⟩
 ·exact ⟨none, 0, rfl⟩
 ·exact ⟨_, c, rfl⟩
theorem NOwn.row {B : Nat} {w : World} {v : Value} {n : Nat} {t : Nat → Nd} {L : Nat} (h : NOwn B w v n t L) : TRow w v n t L := by
 obtain ⟨cs, h1, _, h3⟩ := h
 refine ⟨fun i j => cs.getD (i * 14 + j) undef, ?_, h3⟩
 have hl := h1.1
 rcases h1.2 with ⟨rfl, rfl⟩ | ⟨g, c, cur, rfl, hB, hg, hc, hm, rest⟩
 ·exact RowAt.nil _ _ _
 ·refine ⟨_, c, rfl, hc, by unfold maxLen at hm; omega, fun _ => ⟨g, 0, rfl, fun i hi j hj => ?_⟩⟩
  have hlt : i * 14 + j < cs.length := by rw [hl]; omega
  rw [Nat.zero_add]
  exact owns_cell h1 (by show cs[i * 14 + j]? = some (cs.getD (i * 14 + j) undef); rw [List.getD_eq_getElem?_getD, List.getElem?_eq_getElem hlt]; rfl)
/-- One node more. -/
theorem NOwn.more {B : Nat} {w w' : World} {v v' : Value} {n : Nat} {t : Nat → Nd} {L : Nat} {cs news : List Value} (h1 : w'.ownsRow B 46 14 v' (n + 1) (cs ++ news)) (hl : cs.length = n * 14) (hp : ∀ g, v'.ownBlock = some g → PureB IsLimb w' g) (hk : KeepQ IsLimb w w') (h3 : ∀ i, i < n → NodeAt w (fun j => cs.getD (i * 14 + j) undef) (t i) L) (hn : NodeAt w (fun j => news.getD j undef) (t n) L) : NOwn B w' v' (n + 1) t L := by
 refine ⟨_, h1, hp, fun i hi => ?_⟩
 by_cases e : i = n
 ·subst e
  refine (hn.keepL hk).congr (fun j hj => ?_)
  simp only [List.getD_eq_getElem?_getD]
  rw [List.getElem?_append_right (by omega), hl, Nat.add_sub_cancel_left]
 ·refine ((h3 i (by omega)).keepL hk).congr (fun j hj => ?_)
  simp only [List.getD_eq_getElem?_getD]
  rw [List.getElem?_append_left (by omega)]
/-- Another row was written. -/
theorem NOwn.kept {B : Nat} {w w' : World} {v : Value} {n : Nat} {t : Nat → Nd} {L : Nat} {row : Option Nat} (h : NOwn B w v n t L) (hg : w.grownBy w' row) (hk : KeepQ IsLimb w w') (hne : v.ownBlock = none ∨ v.ownBlock ≠ row) : NOwn B w' v n t L := by
 obtain ⟨cs, h1, h2, h3⟩ := h
 refine ⟨cs, h1.kept hg hne, fun g hgg o u hu => h2 g hgg o u ?_, fun i hi => (h3 i hi).keepL hk⟩
 have hlt := (World.ownsRow.lt h1 g hgg).2
 have hne2 : some g ≠ row := fun e => by
  rcases hne with a | a
  ·rw [hgg] at a; cases a
  ·exact a (hgg.trans e)
 rw [← World.cell?_of_block (w := w) (hg.block g hlt hne2)]; exact hu
theorem NOwn.set {B : Nat} {w : World} {v : Value} {n : Nat} {t : Nat → Nd} {L : Nat} (h : NOwn B w v n t L) {a : Addr} (ha : a.block < B) (u : Value) (hk : KeepQ IsLimb w (w.setCell a u)) : NOwn B (w.setCell a u) v n t L := by
 obtain ⟨cs, h1, h2, h3⟩ := h
 refine ⟨cs, ownsRow_setCell_below h1 ha u, fun g hgg o x hx => h2 g hgg o x ?_, fun i hi => (h3 i hi).keepL hk⟩
 have hlt := (World.ownsRow.lt h1 g hgg).1
 rwa [World.cell?_setCell_other _ _ _ _ (fun e => by rw [e] at ha; simp at ha; omega)] at hx
/-- Two rows of unlike elements lie in two blocks. -/
theorem unlike {B B' k k' n n' : Nat} {e e' : TypeId} {w : World} {v v' : Value} {us us' : List Value} (h : w.ownsRow B e k v n us) (h' : w.ownsRow B' e' k' v' n' us') (hne : e ≠ e') : v.ownBlock = none ∨ v.ownBlock ≠ v'.ownBlock := by
 rcases h.2 with ⟨rfl, _⟩ | ⟨g, c, cur, rfl, _, hg, _⟩
 ·exact .inl rfl
 ·refine .inr (fun e9 => ?_)
  rcases h'.2 with ⟨rfl, _⟩ | ⟨g', c', cur', rfl, _, hg', _⟩
  ·cases e9
  ·have : g = g' := by injection e9
   subst this
   rw [hg] at hg'
   injection hg' with hh
   injection hh with _ h2
   exact hne h2
/-- A model's trees, all of the call's own. -/
def MOwn (B : Nat) (w : World) (v : Value) (k : Nat) (N : Nat → Nat) (T : Nat → Nat → Nd) (L : Nat) : Prop := ∃ us : List Value, w.ownsRow B 38 1 v k us ∧ (∀ g, v.ownBlock = some g → PureB IsLimb w g) ∧ ∀ i, i < k → ∃ u, us[i]? = some u ∧ NOwn B w u (N i) (T i) L
theorem MOwn.nil (B : Nat) (w : World) (N : Nat → Nat) (T : Nat → Nat → Nd) (L : Nat) : MOwn B w (.slice none 0 0) 0 N T L := ⟨[], World.ownsRow_nil _ _ _ _, fun g h => by simp [Value.ownBlock] at h, fun i hi => by omega⟩
theorem MOwn.later {B : Nat} {w w' : World} {v : Value} {k : Nat} {N : Nat → Nat} {T : Nat → Nat → Nd} {L : Nat} (h : MOwn B w v k N T L) (hb : Below w.heap.size w w') : MOwn B w' v k N T L := by
 obtain ⟨us, h1, h2, h3⟩ := h
 exact ⟨us, owns_later h1 hb, fun g hg => (h2 g hg).below hb (World.ownsRow.lt h1 g hg).2, fun i hi => let ⟨u, a, b⟩ := h3 i hi; ⟨u, a, b.later hb⟩⟩
theorem MOwn.set {B : Nat} {w : World} {v : Value} {k : Nat} {N : Nat → Nat} {T : Nat → Nat → Nd} {L : Nat} (h : MOwn B w v k N T L) {a : Addr} (ha : a.block < B) (u : Value) (hk : KeepQ IsLimb w (w.setCell a u)) : MOwn B (w.setCell a u) v k N T L := by
 obtain ⟨us, h1, h2, h3⟩ := h
 refine ⟨us, ownsRow_setCell_below h1 ha u, fun g hgg o x hx => h2 g hgg o x ?_, fun i hi => let ⟨y, a1, b1⟩ := h3 i hi; ⟨y, a1, b1.set ha u hk⟩⟩
 have hlt := (World.ownsRow.lt h1 g hgg).1
 rwa [World.cell?_setCell_other _ _ _ _ (fun e => by rw [e] at ha; simp at ha; omega)] at hx
theorem MOwn.form {B : Nat} {w : World} {v : Value} {k : Nat} {N : Nat → Nat} {T : Nat → Nat → Nd} {L : Nat} (h : MOwn B w v k N T L) : ∃ a c, v = .slice a k c := by
 obtain ⟨cs, h1, _⟩ := h
 rcases h1.2 with ⟨rfl, rfl⟩ | ⟨g, c, _, rfl, _⟩
 ·exact ⟨none, 0, rfl⟩
 ·exact ⟨_, c, rfl⟩
theorem MOwn.row {B : Nat} {w : World} {v : Value} {k : Nat} {N : Nat → Nat} {T : Nat → Nat → Nd} {L : Nat} (h : MOwn B w v k N T L) : MRow w v k N T L := by
 obtain ⟨us, h1, _, h3⟩ := h
 refine ⟨fun i _ => us.getD i undef, ?_, fun i hi => ?_⟩
 ·have hl := h1.1
  rcases h1.2 with ⟨rfl, rfl⟩ | ⟨g, c, cur, rfl, hB, hg, hc, hm, rest⟩
  ·exact RowAt.nil _ _ _
  ·refine ⟨_, c, rfl, hc, by unfold maxLen at hm; omega, fun _ => ⟨g, 0, rfl, fun i hi j hj => ?_⟩⟩
   obtain ⟨u, hu, _⟩ := h3 i hi
   rw [show j = 0 by omega, Nat.zero_add, Nat.mul_one, Nat.add_zero]
   exact owns_cell h1 (by show us[i]? = some (us.getD i undef); rw [List.getD_eq_getElem?_getD, hu]; rfl)
 ·obtain ⟨u, hu, ho⟩ := h3 i hi
  show TRow w (us.getD i undef) (N i) (T i) L
  rw [List.getD_eq_getElem?_getD, hu]
  exact ho.row
/-- One tree more. -/
theorem MOwn.more {B : Nat} {w w' : World} {v v' y : Value} {k : Nat} {N : Nat → Nat} {T : Nat → Nat → Nd} {L : Nat} (h : MOwn B w v k N T L) (hy : NOwn B w y (N k) (T k) L) (h1 : ∀ us, w.ownsRow B 38 1 v k us → w'.ownsRow B 38 1 v' (k + 1) (us ++ [y])) (hg : w.grownBy w' v.ownBlock) (hp : ∀ g, v'.ownBlock = some g → PureB IsLimb w' g) (hk : KeepQ IsLimb w w') : MOwn B w' v' (k + 1) N T L := by
 obtain ⟨us, o1, o2, o3⟩ := h
 have hl := o1.1
 have stay : ∀ u n t, NOwn B w u n t L → NOwn B w' u n t L := fun u n t ht => by
  obtain ⟨cs, c1, _⟩ := id ht
  exact ht.kept hg hk (unlike c1 o1 (by decide))
 refine ⟨us ++ [y], h1 us o1, hp, fun i hi => ?_⟩
 by_cases e : i = k
 ·subst e
  exact ⟨y, by rw [List.getElem?_append_right (by omega), hl, Nat.mul_one, Nat.sub_self]; rfl, stay _ _ _ hy⟩
 ·obtain ⟨u, hu, ho⟩ := o3 i (by omega)
  exact ⟨u, by rw [List.getElem?_append_left (by omega)]; exact hu, stay _ _ _ ho⟩
theorem info_node : (Tryz.prog.info? 46).map (fun i => (i.zero, i.size, i.bytes)) = some (some (.agg #[.bool false, .int .i64 0, .bool false, .slice none 0 0, .slice none 0 0, .int .i64 0, .int .i64 0, .bool false, .bool false, .slice none 0 0, .slice none 0 0, .bool false, .slice none 0 0, .slice none 0 0]), 14, 208) := by kernel_rfl
theorem info_tree : (Tryz.prog.info? 38).map (fun i => (i.zero, i.size, i.bytes)) = some (some (.slice none 0 0), 1, 24) := by kernel_rfl

/-- What is told of one struct's cells abides what leaves limbs as they are. -/
structure ElG (k : Nat) {α : Type} (A : World → (Nat → Value) → α → Prop) : Prop where
 keep : ∀ {w w' : World} {el : Nat → Value} {d : α}, A w el d → KeepQ IsLimb w w' → A w' el d
 congr : ∀ {w : World} {el el' : Nat → Value} {d : α}, A w el d → (∀ j, j < k → el j = el' j) → A w el' d
/-- A row of the call's own. -/
def GOwn (T : TypeId) (k : Nat) {α : Type} (A : World → (Nat → Value) → α → Prop) (B : Nat) (w : World) (v : Value) (l : List α) : Prop :=
 ∃ cs : List Value, w.ownsRow B T k v l.length cs ∧ (∀ g, v.ownBlock = some g → PureB IsLimb w g) ∧ ∀ i a, l[i]? = some a → A w (fun j => cs.getD (i * k + j) undef) a
/-- A row. -/
def GRow (k : Nat) {α : Type} (A : World → (Nat → Value) → α → Prop) (w : World) (v : Value) (l : List α) : Prop := ∃ el, RowAt k w v l.length el ∧ ∀ i a, l[i]? = some a → A w (el i) a
section
variable {T : TypeId} {k : Nat} {α : Type} {A : World → (Nat → Value) → α → Prop} {B : Nat} {w w' : World} {v : Value} {l : List α}
theorem GRow.below (h : GRow k A w v l) (hA : ElG k A) (hb : Below w.heap.size w w') : GRow k A w' v l := by
 obtain ⟨el, h1, h2⟩ := h
 exact ⟨el, h1.below hb, fun i a hi => hA.keep (h2 i a hi) (KeepQ.below hb)⟩
theorem GRow.open (h : GRow k A w v l) : ∃ a c, v = .slice a l.length c ∧ l.length ≤ c ∧ c ≤ 9223372036854775807 := by
 obtain ⟨el, ⟨ao, c, h1, h2, h3, _⟩, _⟩ := h
 exact ⟨ao, c, h1, h2, h3⟩
theorem GRow.at (h : GRow k A w v l) {i : Nat} {a : α} (hi : l[i]? = some a) : ∃ (b off c : Nat) (e : Nat → Value), v = .slice (some ⟨b, off, none⟩) l.length c ∧ l.length ≤ c ∧ (∀ j, j < k → w.cell? ⟨b, off + i * k + j, none⟩ = some (e j)) ∧ A w e a := by
 obtain ⟨el, ⟨ao, c, h1, h2, h3, h4⟩, h5⟩ := h
 have hl : i < l.length := by have := List.getElem?_eq_some_iff.1 hi; exact this.1
 obtain ⟨b, off, rfl, hc⟩ := h4 (by omega)
 exact ⟨b, off, c, el i, h1, h2, hc i hl, h5 i a hi⟩
theorem GOwn.nil : GOwn T k A B w (.slice none 0 0) [] := ⟨[], World.ownsRow_nil _ _ _ _, fun g h => by simp [Value.ownBlock] at h, fun i a hi => by simp at hi⟩
theorem GOwn.le (h : GOwn T k A B w v l) {B' : Nat} (hb : B' ≤ B) : GOwn T k A B' w v l := by
 obtain ⟨cs, h1, h2, h3⟩ := h
 exact ⟨cs, owns_le h1 hb, h2, h3⟩
theorem GOwn.later (h : GOwn T k A B w v l) (hA : ElG k A) (hb : Below w.heap.size w w') : GOwn T k A B w' v l := by
 obtain ⟨cs, h1, h2, h3⟩ := h
 exact ⟨cs, owns_later h1 hb, fun g hg => (h2 g hg).below hb (World.ownsRow.lt h1 g hg).2, fun i a hi => hA.keep (h3 i a hi) (KeepQ.below hb)⟩
theorem GOwn.form (h : GOwn T k A B w v l) : ∃ a c, v = .slice a l.length c ∧ l.length ≤ c := by
 obtain ⟨cs, h1, _⟩ := h
 rcases h1.2 with ⟨rfl, e⟩ | ⟨g, c, _, rfl, _, _, h, _⟩
 ·exact ⟨none, 0, by rw [e], by omega⟩
 ·exact ⟨_, c, rfl, h⟩
theorem GOwn.none (h : GOwn T k A B w v l) (h0 : l.length = 0) : (v = .slice none 0 0) ∨ ∃ g c, v = .slice (some ⟨g, 0, Option.none⟩) 0 c := by
 obtain ⟨cs, h1, _⟩ := h
 rcases h1.2 with ⟨rfl, e⟩ | ⟨g, c, _, rfl, _⟩
 ·exact .inl rfl
 ·exact .inr ⟨g, c, by rw [h0]⟩
theorem GOwn.open (h : GOwn T k A B w v l) (h0 : 0 < l.length) : ∃ g c, v = .slice (some ⟨g, 0, Option.none⟩) l.length c ∧ l.length ≤ c ∧ B ≤ g ∧ g < w.heap.size := by
 obtain ⟨cs, h1, _⟩ := h
 have h2 := h1
 rcases h1.2 with ⟨rfl, e⟩ | ⟨g, c, _, rfl, hB, hg, hc, _⟩
 ·omega
 ·exact ⟨g, c, rfl, hc, hB, (World.ownsRow.lt h2 g rfl).2⟩
theorem GOwn.row (h : GOwn T k A B w v l) (hA : ElG k A) : GRow k A w v l := by
 obtain ⟨cs, h1, _, h3⟩ := h
 refine ⟨fun i j => cs.getD (i * k + j) undef, ?_, h3⟩
 have hl := h1.1
 rcases h1.2 with ⟨rfl, e⟩ | ⟨g, c, cur, rfl, hB, hg, hc, hm, rest⟩
 ·rw [e]; exact RowAt.nil _ _ _
 ·refine ⟨_, c, rfl, hc, by unfold maxLen at hm; omega, fun _ => ⟨g, 0, rfl, fun i hi j hj => ?_⟩⟩
  have hlt : i * k + j < cs.length := by
   rw [hl]
   have := Nat.mul_le_mul_right k (show i + 1 ≤ l.length by omega)
   rw [Nat.add_mul] at this
   omega
  rw [Nat.zero_add]
  exact owns_cell h1 (by show cs[i * k + j]? = some (cs.getD (i * k + j) undef); rw [List.getD_eq_getElem?_getD, List.getElem?_eq_getElem hlt]; rfl)
/-- Another row was written. -/
theorem GOwn.kept {row : Option Nat} (h : GOwn T k A B w v l) (hA : ElG k A) (hg : w.grownBy w' row) (hk : KeepQ IsLimb w w') (hne : v.ownBlock = Option.none ∨ v.ownBlock ≠ row) : GOwn T k A B w' v l := by
 obtain ⟨cs, h1, h2, h3⟩ := h
 refine ⟨cs, h1.kept hg hne, fun g hgg o u hu => h2 g hgg o u ?_, fun i a hi => hA.keep (h3 i a hi) hk⟩
 have hlt := (World.ownsRow.lt h1 g hgg).2
 have hne2 : some g ≠ row := fun e => by
  rcases hne with a | a
  ·rw [hgg] at a; cases a
  ·exact a (hgg.trans e)
 rw [← World.cell?_of_block (w := w) (hg.block g hlt hne2)]; exact hu
/-- More of them, appended at once. -/
theorem GOwn.more {v' : Value} {m : Nat} {l' : List α} {cs news : List Value} (hA : ElG k A) (hm : l'.length = m) (h1 : w'.ownsRow B T k v' (l.length + m) (cs ++ news)) (hl : cs.length = l.length * k) (hp : ∀ g, v'.ownBlock = some g → PureB IsLimb w' g) (hk : KeepQ IsLimb w w')
  (h3 : ∀ i a, l[i]? = some a → A w (fun j => cs.getD (i * k + j) undef) a) (hn : ∀ i a, l'[i]? = some a → A w (fun j => news.getD (i * k + j) undef) a) : GOwn T k A B w' v' (l ++ l') := by
 refine ⟨cs ++ news, by rw [List.length_append, hm]; exact h1, hp, fun i a hi => ?_⟩
 by_cases e : i < l.length
 ·rw [List.getElem?_append_left e] at hi
  refine hA.congr (hA.keep (h3 i a hi) hk) (fun j hj => ?_)
  simp only [List.getD_eq_getElem?_getD]
  have := Nat.mul_le_mul_right k (show i + 1 ≤ l.length by omega)
  rw [Nat.add_mul] at this
  rw [List.getElem?_append_left (by omega)]
 ·rw [List.getElem?_append_right (by omega)] at hi
  refine hA.congr (hA.keep (hn _ a hi) hk) (fun j hj => ?_)
  simp only [List.getD_eq_getElem?_getD]
  have h5 : i * k = (i - l.length) * k + l.length * k := by rw [← Nat.add_mul]; congr 1; omega
  rw [List.getElem?_append_right (by omega), hl, h5]
  congr 2
  omega
end
/-- What 'append' asks of a row of the call's own. -/
theorem GOwn.parts {T : TypeId} {k : Nat} {α : Type} {A : World → (Nat → Value) → α → Prop} {B : Nat} {w : World} {v : Value} {l : List α} (h : GOwn T k A B w v l) : ∃ cs : List Value, w.ownsRow B T k v l.length cs ∧ cs.length = l.length * k ∧ (∀ g, v.ownBlock = some g → PureB IsLimb w g) ∧ ∀ i a, l[i]? = some a → A w (fun j => cs.getD (i * k + j) undef) a := by
 obtain ⟨cs, h1, h2, h3⟩ := h
 exact ⟨cs, h1, h1.1, h2, h3⟩

end Go.Proofs.YthkamfddbiheoaaGreatDoor

namespace Go.Proofs.YthkamfddbiheoaaGreatDoor
open Go.RowKit
set_option linter.unusedVariables false
set_option linter.unusedSimpArgs false

/-- A number in its form, or none at all. -/
def ExT (w : World) (x y z : Value) : Option Rat → Prop
 | none => x = .bool false ∧ y = .slice none 0 0 ∧ z = .slice none 0 0
 | some q => RepQ w (.agg #[x, y, z]) q
theorem ExT.keepL {w w' : World} {x y z : Value} {o : Option Rat} (h : ExT w x y z o) (hk : KeepQ IsLimb w w') : ExT w' x y z o := by
 cases o with
 | none => exact h
 | some q => exact RepQ.keepL h hk
/-- A tidy node. -/
structure TidN where
 leaf : Bool
 feat : Int
 cut : Option Rat
 left : Int
 right : Int
 miss : Bool
 val : Option Rat
 cov : Option Rat
/-- A tidy node's cells. -/
def TNode (w : World) (el : Nat → Value) (d : TidN) : Prop := el 0 = .bool d.leaf ∧ el 1 = .int .i64 d.feat ∧ ExT w (el 2) (el 3) (el 4) d.cut ∧ el 5 = .int .i64 d.left ∧ el 6 = .int .i64 d.right ∧ el 7 = .bool d.miss ∧ ExT w (el 8) (el 9) (el 10) d.val ∧ ExT w (el 11) (el 12) (el 13) d.cov
theorem tnodeEl : ElG 14 TNode :=
 ⟨fun h hk => let ⟨a, b, c, d, e, f, g, i⟩ := h; ⟨a, b, c.keepL hk, d, e, f, g.keepL hk, i.keepL hk⟩, fun h e => by
  unfold TNode at h ⊢
  rw [← e 0 (by omega), ← e 1 (by omega), ← e 2 (by omega), ← e 3 (by omega), ← e 4 (by omega), ← e 5 (by omega), ← e 6 (by omega), ← e 7 (by omega), ← e 8 (by omega), ← e 9 (by omega), ← e 10 (by omega), ← e 11 (by omega), ← e 12 (by omega), ← e 13 (by omega)]
  exact h⟩
abbrev TTr (B : Nat) (w : World) (v : Value) (l : List TidN) : Prop := GOwn 46 14 TNode B w v l
/-- A tidy model's trees, of the call's own. -/
def TMo (B : Nat) (w : World) (v : Value) (ls : List (List TidN)) : Prop := ∃ us : List Value, w.ownsRow B 38 1 v ls.length us ∧ (∀ g, v.ownBlock = some g → PureB IsLimb w g) ∧ ∀ (i : Nat) (l : List TidN), ls[i]? = some l → ∃ u, us[i]? = some u ∧ TTr B w u l
theorem TMo.nil (B : Nat) (w : World) : TMo B w (.slice none 0 0) [] := ⟨[], World.ownsRow_nil _ _ _ _, fun g h => by simp [Value.ownBlock] at h, fun i l hi => by simp at hi⟩
theorem TMo.later {B : Nat} {w w' : World} {v : Value} {ls : List (List TidN)} (h : TMo B w v ls) (hb : Below w.heap.size w w') : TMo B w' v ls := by
 obtain ⟨us, h1, h2, h3⟩ := h
 exact ⟨us, owns_later h1 hb, fun g hg => (h2 g hg).below hb (World.ownsRow.lt h1 g hg).2, fun i l hi => let ⟨u, a, b⟩ := h3 i l hi; ⟨u, a, b.later tnodeEl hb⟩⟩
theorem TMo.below {B : Nat} {w w' : World} {v : Value} {ls : List (List TidN)} (h : TMo B w v ls) (hb : Below w.heap.size w w') : TMo B w' v ls := h.later hb
theorem TTr.below {B : Nat} {w w' : World} {v : Value} {l : List TidN} (h : TTr B w v l) (hb : Below w.heap.size w w') : TTr B w' v l := GOwn.later h tnodeEl hb
theorem TTr.set {B : Nat} {w : World} {v : Value} {l : List TidN} (h : TTr B w v l) {a : Addr} (ha : a.block < B) (u : Value) (hk : KeepQ IsLimb w (w.setCell a u)) : TTr B (w.setCell a u) v l := by
 obtain ⟨cs, h1, h2, h3⟩ := h
 refine ⟨cs, ownsRow_setCell_below h1 ha u, fun g hgg o x hx => h2 g hgg o x ?_, fun i d hi => tnodeEl.keep (h3 i d hi) hk⟩
 have hlt := (World.ownsRow.lt h1 g hgg).1
 rwa [World.cell?_setCell_other _ _ _ _ (fun e => by rw [e] at ha; simp at ha; omega)] at hx
theorem TMo.set {B : Nat} {w : World} {v : Value} {ls : List (List TidN)} (h : TMo B w v ls) {a : Addr} (ha : a.block < B) (u : Value) (hk : KeepQ IsLimb w (w.setCell a u)) : TMo B (w.setCell a u) v ls := by
 obtain ⟨us, h1, h2, h3⟩ := h
 refine ⟨us, ownsRow_setCell_below h1 ha u, fun g hgg o x hx => h2 g hgg o x ?_, fun i l hi => let ⟨y, a1, b1⟩ := h3 i l hi; ⟨y, a1, b1.set ha u hk⟩⟩
 have hlt := (World.ownsRow.lt h1 g hgg).1
 rwa [World.cell?_setCell_other _ _ _ _ (fun e => by rw [e] at ha; simp at ha; omega)] at hx
theorem TMo.le {B B' : Nat} {w : World} {v : Value} {ls : List (List TidN)} (h : TMo B w v ls) (hb : B' ≤ B) : TMo B' w v ls := by
 obtain ⟨us, h1, h2, h3⟩ := h
 exact ⟨us, owns_le h1 hb, h2, fun i l hi => let ⟨u, a, b⟩ := h3 i l hi; ⟨u, a, GOwn.le b hb⟩⟩
theorem TMo.form {B : Nat} {w : World} {v : Value} {ls : List (List TidN)} (h : TMo B w v ls) : ∃ a c, v = .slice a ls.length c ∧ ls.length ≤ c := by
 obtain ⟨cs, h1, _⟩ := h
 rcases h1.2 with ⟨rfl, e⟩ | ⟨g, c, _, rfl, _, _, hc, _⟩
 ·exact ⟨none, 0, by rw [e], by omega⟩
 ·exact ⟨_, c, rfl, hc⟩
/-- The i-th tree. -/
theorem TMo.at {B : Nat} {w : World} {v : Value} {ls : List (List TidN)} (h : TMo B w v ls) {i : Nat} {l : List TidN} (hi : ls[i]? = some l) : ∃ g c u, v = .slice (some ⟨g, 0, none⟩) ls.length c ∧ ls.length ≤ c ∧ w.cell? ⟨g, i, none⟩ = some u ∧ TTr B w u l := by
 obtain ⟨us, h1, _, h3⟩ := h
 obtain ⟨u, hu, ht⟩ := h3 i l hi
 have h2 := h1
 have hl : i < ls.length := (List.getElem?_eq_some_iff.1 hi).1
 rcases h1.2 with ⟨rfl, e⟩ | ⟨g, c, cur, rfl, hB, hg, hc, hm, rest⟩
 ·omega
 ·exact ⟨g, c, u, rfl, hc, owns_cell h2 hu, ht⟩
theorem TTr.stay {B : Nat} {w w' : World} {v x : Value} {l : List TidN} {us : List Value} {n : Nat} (h : TTr B w v l) (o1 : w.ownsRow B 38 1 x n us) (hg : w.grownBy w' x.ownBlock) (hk : KeepQ IsLimb w w') : TTr B w' v l := by
 obtain ⟨cs, c1, _⟩ := id h
 exact GOwn.kept h tnodeEl hg hk (unlike c1 o1 (by decide))
/-- One tree more. -/
theorem TMo.more {B : Nat} {w w' : World} {v v' y : Value} {ls : List (List TidN)} {l : List TidN} {us : List Value} (h : TMo B w v ls) (hu : w.ownsRow B 38 1 v ls.length us) (hy : TTr B w y l) (h1 : w'.ownsRow B 38 1 v' (ls.length + 1) (us ++ [y])) (hg : w.grownBy w' v.ownBlock) (hp : ∀ g, v'.ownBlock = some g → PureB IsLimb w' g) (hk : KeepQ IsLimb w w') : TMo B w' v' (ls ++ [l]) := by
 obtain ⟨us2, o1, o2, o3⟩ := h
 have hl := hu.1
 have e2 : us2 = us := by
  rcases o1.2 with ⟨rfl, e⟩ | ⟨g, c, cur, rfl, hB, hgh, hc, hm, hcs, ht⟩
  ·have a1 := o1.1
   rw [e, Nat.zero_mul] at a1 hl
   rw [List.eq_nil_of_length_eq_zero a1, List.eq_nil_of_length_eq_zero hl]
  ·rcases hu.2 with ⟨h9, _⟩ | ⟨g', c', cur', h9, hB', hgh', hc', hm', hcs', ht'⟩
   ·cases h9
   ·simp only [Value.slice.injEq, Option.some.injEq, Addr.mk.injEq, and_true, true_and] at h9
    obtain ⟨rfl, _⟩ := h9
    rw [hgh] at hgh'
    simp only [Option.some.injEq, Obj.cells.injEq] at hgh'
    rw [← ht, ← ht', hgh'.1]
 subst e2
 refine ⟨us2 ++ [y], by rw [List.length_append]; exact h1, hp, fun i l' hi => ?_⟩
 by_cases e : i < ls.length
 ·rw [List.getElem?_append_left e] at hi
  obtain ⟨u, hu', ho⟩ := o3 i l' hi
  exact ⟨u, by rw [List.getElem?_append_left (by rw [hl, Nat.mul_one]; exact e)]; exact hu', ho.stay o1 hg hk⟩
 ·rw [List.getElem?_append_right (by omega)] at hi
  have hi0 : i = ls.length := by
   have := (List.getElem?_eq_some_iff.1 hi).1
   simp at this
   omega
  subst hi0
  rw [Nat.sub_self] at hi
  simp only [List.getElem?_cons_zero, Option.some.injEq] at hi
  subst hi
  exact ⟨y, by rw [List.getElem?_append_right (by omega), hl, Nat.mul_one, Nat.sub_self]; rfl, hy.stay o1 hg hk⟩
/-- What 'append' asks. -/
theorem TMo.parts {B : Nat} {w : World} {v : Value} {ls : List (List TidN)} (h : TMo B w v ls) : ∃ us : List Value, w.ownsRow B 38 1 v ls.length us ∧ (∀ g, v.ownBlock = some g → PureB IsLimb w g) := by
 obtain ⟨us, h1, h2, _⟩ := h
 exact ⟨us, h1, h2⟩
theorem TMo.blocks {B : Nat} {w : World} {v : Value} {ls : List (List TidN)} (h : TMo B w v ls) : ∀ g, v.ownBlock = some g → B ≤ g ∧ g < w.heap.size := by
 obtain ⟨us, h1, _⟩ := h
 exact World.ownsRow.lt h1
theorem TTr.blocks {B : Nat} {w : World} {v : Value} {l : List TidN} (h : TTr B w v l) : ∀ g, v.ownBlock = some g → B ≤ g ∧ g < w.heap.size := by
 obtain ⟨us, h1, _⟩ := h
 exact World.ownsRow.lt h1

/-- A reader: the lines that are left (their words, where each ends), how many words of the first were read, how long the text is, the first error and its place. -/
structure Rd where
 L : List (List Tok × Nat)
 k : Nat
 len : Nat
 err : Nat
 at_ : Nat
/-- The next word. -/
def Rd.cur (r : Rd) : Option Tok := match r.L with | [] => none | l :: _ => l.1[r.k]?
/-- Where it stands. -/
def Rd.here (r : Rd) : Nat := match r.cur with | some t => t.1 | none => match r.L with | [] => r.len | l :: _ => l.2
def Rd.stop (r : Rd) (e a : Nat) : Rd := ⟨[], r.k, r.len, e, a⟩
def Rd.tok (r : Rd) : Option Tok × Rd :=
 if r.err = 0 then match r.cur with
  | some t => (some t, ⟨r.L, r.k + 1, r.len, r.err, r.at_⟩)
  | none => (none, r.stop 9 r.here)
 else (none, r)
/-- A word's text. -/
def wtx : Option Tok → ByteArray
 | some t => t.2.2
 | none => { data := #[] }
def Rd.take (r : Rd) (s : ByteArray) : Rd := match r.tok.1 with
 | some t => if t.2.2.toList = s.toList then r.tok.2 else r.tok.2.stop 7 t.1
 | none => r.tok.2
def Rd.pick (r : Rd) (a b : ByteArray) : Nat × Rd := match r.tok.1 with
 | some t => if t.2.2.toList = a.toList then (0, r.tok.2) else if t.2.2.toList = b.toList then (1, r.tok.2) else (0, r.tok.2.stop 7 t.1)
 | none => (0, r.tok.2)
/-- The number that digits are. -/
def cntV (s : ByteArray) : Nat := s.data.toList.foldl (fun a b => 10 * a + (b.toNat - 48)) 0
/-- Is a word digits, without one 0 ahead of others? -/
def isCnt (s : ByteArray) : Bool := s.data.toList.all (fun b => decide (48 ≤ b.toNat ∧ b.toNat ≤ 57)) && (decide (s.size = 1) || decide (¬ bt s 0 = 48))
def Rd.count (r : Rd) (lo hi : Nat) : Nat × Rd := match r.tok.1 with
 | some t => if isCnt t.2.2 = true then if lo ≤ cntV t.2.2 ∧ cntV t.2.2 ≤ hi then (cntV t.2.2, r.tok.2) else (0, r.tok.2.stop 16 t.1) else (0, r.tok.2.stop 4 t.1)
 | none => (0, r.tok.2)
/-- The word that was read last. -/
def Rd.last (r : Rd) : Option Tok := match r.L with | [] => none | l :: _ => if 0 < r.k then l.1[r.k - 1]? else none
def Rd.fail (r : Rd) (e : Nat) : Rd := if e = 0 then r else match r.last with
 | some t => r.stop e t.1
 | none => r
def Rd.next (r : Rd) : Rd := if r.err = 0 then match r.cur with
  | some t => r.stop 10 r.here
  | none => match r.L with
   | [] => r.stop 9 r.here
   | _ :: L => ⟨L, 0, r.len, r.err, r.at_⟩
 else r
def Rd.fin (r : Rd) : Rd := match r.L with | [] => r | _ :: _ => r.stop 10 r.here
def Rd.numV (r : Rd) : Option Rat := if qerr (wtx r.tok.1) = 0 then some (qval (wtx r.tok.1)) else none
def Rd.numR (r : Rd) : Rd := r.tok.2.fail (qerr (wtx r.tok.1)).toNat

def sLeaf : ByteArray := { data := #[108, 101, 97, 102] }
def sSplit : ByteArray := { data := #[115, 112, 108, 105, 116] }
def sMissL : ByteArray := { data := #[109, 105, 115, 115, 45, 108, 101, 102, 116] }
def sMissR : ByteArray := { data := #[109, 105, 115, 115, 45, 114, 105, 103, 104, 116] }
def sDendron : ByteArray := { data := #[100, 101, 110, 100, 114, 111, 110] }
def sOne : ByteArray := { data := #[49] }
def sFeatures : ByteArray := { data := #[102, 101, 97, 116, 117, 114, 101, 115] }
def sTrees : ByteArray := { data := #[116, 114, 101, 101, 115] }
def sTree : ByteArray := { data := #[116, 114, 101, 101] }
def sEnd : ByteArray := { data := #[101, 110, 100] }

def Rd.leafR (r : Rd) : Rd := r.numR.numR.next
def Rd.leafT (r : Rd) : TidN := ⟨true, 0, none, 0, 0, false, r.numV, r.numR.numV⟩
/-- Where a split's reader stands behind the feature, the cut, the left, the right, the side. -/
def Rd.sp0 (r : Rd) : Rd := (r.count 0 64).2
def Rd.sp1 (r : Rd) : Rd := r.sp0.numR
def Rd.sp2 (r : Rd) : Rd := (r.sp1.count 0 255).2
def Rd.sp3 (r : Rd) : Rd := (r.sp2.count 0 255).2
def Rd.sp4 (r : Rd) : Rd := (r.sp3.pick sMissL sMissR).2
def Rd.splitR (r : Rd) : Rd := r.sp4.numR.next
def Rd.splitT (r : Rd) : TidN := ⟨false, ((r.count 0 64).1 : Int), r.sp0.numV, ((r.sp1.count 0 255).1 : Int), ((r.sp2.count 0 255).1 : Int), decide ((r.sp3.pick sMissL sMissR).1 = 0), none, r.sp4.numV⟩
def Rd.kind (r : Rd) : Nat := (r.pick sLeaf sSplit).1
def Rd.kindR (r : Rd) : Rd := (r.pick sLeaf sSplit).2
def Rd.nodeR (r : Rd) : Rd := if r.kind = 0 then r.kindR.leafR else r.kindR.splitR
def Rd.nodeT (r : Rd) : TidN := if r.kind = 0 then r.kindR.leafT else r.kindR.splitT
def Rd.nodesR (r : Rd) : Nat → Rd
 | 0 => r
 | n + 1 => (r.nodesR n).nodeR
def Rd.nodesT (r : Rd) : Nat → List TidN
 | 0 => []
 | n + 1 => r.nodesT n ++ [(r.nodesR n).nodeT]
/-- A line of a name and how many there are. -/
def Rd.cntV (r : Rd) (s : ByteArray) (lo hi : Nat) : Nat := ((r.take s).count lo hi).1
def Rd.cntR (r : Rd) (s : ByteArray) (lo hi : Nat) : Rd := ((r.take s).count lo hi).2.next
def Rd.treeR (r : Rd) : Rd := (r.cntR sTree 1 255).nodesR (r.cntV sTree 1 255)
def Rd.treeT (r : Rd) : List TidN := (r.cntR sTree 1 255).nodesT (r.cntV sTree 1 255)
def Rd.treesR (r : Rd) : Nat → Rd
 | 0 => r
 | n + 1 => (r.treesR n).treeR
def Rd.treesT (r : Rd) : Nat → List (List TidN)
 | 0 => []
 | n + 1 => r.treesT n ++ [(r.treesR n).treeT]
def Rd.topR (r : Rd) : Rd := ((r.take sDendron).take sOne).next
def Rd.footR (r : Rd) : Rd := ((r.take sEnd).next).fin
def Rd.feats (r : Rd) : Nat := r.topR.cntV sFeatures 0 64
def Rd.headR (r : Rd) : Rd := r.topR.cntR sFeatures 0 64
def Rd.many (r : Rd) : Nat := r.headR.cntV sTrees 0 64
def Rd.manyR (r : Rd) : Rd := r.headR.cntR sTrees 0 64
def Rd.allR (r : Rd) : Rd := (r.manyR.treesR r.many).footR
def Rd.allT (r : Rd) : List (List TidN) := r.manyR.treesT r.many

/-- Behind an error there is no line; words are read one by one. -/
structure RdOK (r : Rd) : Prop where
 no : ¬ r.err = 0 → r.L = []
 k : ∀ l L, r.L = l :: L → r.k ≤ l.1.length
 w : ∀ p ∈ r.L, p.1.length ≤ 4096
 l : r.L.length ≤ 16384
 s : ∀ p ∈ r.L, ∀ t ∈ p.1, t.2.2.size ≤ r.len ∧ 0 < t.2.2.size
 z : r.k ≤ 4096
theorem RdOK.stop {r : Rd} (h : RdOK r) (e a : Nat) : RdOK (r.stop e a) := ⟨fun _ => rfl, fun l L hh => by simp [Rd.stop] at hh, fun p hp => by simp [Rd.stop] at hp, by simp [Rd.stop], fun p hp => by simp [Rd.stop] at hp, h.z⟩
theorem RdOK.tok {r : Rd} (h : RdOK r) : RdOK r.tok.2 := by
 unfold Rd.tok
 split
 ·split
  ·rename_i t hc
   unfold Rd.cur at hc
   refine ⟨h.no, fun l L hh => ?_, h.w, h.l, h.s, ?_⟩
   ·rw [show r.L = l :: L from hh] at hc
    have := (List.getElem?_eq_some_iff.1 hc).1
    show r.k + 1 ≤ _
    omega
   ·cases hL : r.L with
    | nil => rw [hL] at hc; cases hc
    | cons l L =>
     rw [hL] at hc
     have h1 := (List.getElem?_eq_some_iff.1 hc).1
     have h2 := h.w l (by rw [hL]; simp)
     show r.k + 1 ≤ 4096
     omega
  ·exact h.stop _ _
 ·exact h
theorem RdOK.take {r : Rd} (h : RdOK r) (s : ByteArray) : RdOK (r.take s) := by
 unfold Rd.take
 split
 ·split
  ·exact h.tok
  ·exact h.tok.stop _ _
 ·exact h.tok
theorem RdOK.pick {r : Rd} (h : RdOK r) (a b : ByteArray) : RdOK (r.pick a b).2 := by
 unfold Rd.pick
 split
 ·split
  ·exact h.tok
  ·split
   ·exact h.tok
   ·exact h.tok.stop _ _
 ·exact h.tok
theorem RdOK.count {r : Rd} (h : RdOK r) (lo hi : Nat) : RdOK (r.count lo hi).2 := by
 unfold Rd.count
 split
 ·split
  ·split
   ·exact h.tok
   ·exact h.tok.stop _ _
  ·exact h.tok.stop _ _
 ·exact h.tok
theorem RdOK.fail {r : Rd} (h : RdOK r) (e : Nat) : RdOK (r.fail e) := by
 unfold Rd.fail
 split
 ·exact h
 ·split
  ·exact h.stop _ _
  ·exact h
theorem RdOK.next {r : Rd} (h : RdOK r) : RdOK r.next := by
 unfold Rd.next
 split
 ·split
  ·exact h.stop _ _
  ·split
   ·exact h.stop _ _
   ·rename_i l L hL
    have hl := h.l
    rw [hL, List.length_cons] at hl
    exact ⟨fun hh => by rename_i h0 _ _ _ ; exact absurd h0 hh, fun l L hh => Nat.zero_le _, fun p hp => h.w p (by rw [hL]; exact List.mem_cons_of_mem _ hp), by show L.length ≤ 16384; omega, fun p hp => h.s p (by rw [hL]; exact List.mem_cons_of_mem _ hp), by show 0 ≤ 4096; omega⟩
 ·exact h
theorem RdOK.fin {r : Rd} (h : RdOK r) : RdOK r.fin := by
 unfold Rd.fin
 split
 ·exact h
 ·exact h.stop _ _
theorem RdOK.numR {r : Rd} (h : RdOK r) : RdOK r.numR := RdOK.fail (RdOK.tok h) _
theorem RdOK.leafR {r : Rd} (h : RdOK r) : RdOK r.leafR := RdOK.next (RdOK.numR (RdOK.numR h))
theorem RdOK.sp0 {r : Rd} (h : RdOK r) : RdOK r.sp0 := RdOK.count h _ _
theorem RdOK.sp1 {r : Rd} (h : RdOK r) : RdOK r.sp1 := RdOK.numR (RdOK.sp0 h)
theorem RdOK.sp2 {r : Rd} (h : RdOK r) : RdOK r.sp2 := RdOK.count (RdOK.sp1 h) _ _
theorem RdOK.sp3 {r : Rd} (h : RdOK r) : RdOK r.sp3 := RdOK.count (RdOK.sp2 h) _ _
theorem RdOK.sp4 {r : Rd} (h : RdOK r) : RdOK r.sp4 := RdOK.pick (RdOK.sp3 h) _ _
theorem RdOK.splitR {r : Rd} (h : RdOK r) : RdOK r.splitR := RdOK.next (RdOK.numR (RdOK.sp4 h))
theorem RdOK.kindR {r : Rd} (h : RdOK r) : RdOK r.kindR := RdOK.pick h _ _
theorem Rd.nodeR_leaf {r : Rd} (h : r.kind = 0) : r.nodeR = r.kindR.leafR := by unfold Rd.nodeR; rw [if_pos h]
theorem Rd.nodeR_split {r : Rd} (h : ¬ r.kind = 0) : r.nodeR = r.kindR.splitR := by unfold Rd.nodeR; rw [if_neg h]
theorem Rd.nodeT_leaf {r : Rd} (h : r.kind = 0) : r.nodeT = r.kindR.leafT := by unfold Rd.nodeT; rw [if_pos h]
theorem Rd.nodeT_split {r : Rd} (h : ¬ r.kind = 0) : r.nodeT = r.kindR.splitT := by unfold Rd.nodeT; rw [if_neg h]
theorem RdOK.nodeR {r : Rd} (h : RdOK r) : RdOK r.nodeR := by
 by_cases hp : r.kind = 0
 ·rw [Rd.nodeR_leaf hp]
  exact RdOK.leafR (RdOK.kindR h)
 ·rw [Rd.nodeR_split hp]
  exact RdOK.splitR (RdOK.kindR h)
theorem Rd.nodesR_succ (r : Rd) (n : Nat) : r.nodesR (n + 1) = (r.nodesR n).nodeR := rfl
theorem Rd.nodesT_succ (r : Rd) (n : Nat) : r.nodesT (n + 1) = r.nodesT n ++ [(r.nodesR n).nodeT] := rfl
theorem Rd.treesR_succ (r : Rd) (n : Nat) : r.treesR (n + 1) = (r.treesR n).treeR := rfl
theorem Rd.treesT_succ (r : Rd) (n : Nat) : r.treesT (n + 1) = r.treesT n ++ [(r.treesR n).treeT] := rfl
theorem RdOK.nodesR {r : Rd} (h : RdOK r) (n : Nat) : RdOK (r.nodesR n) := by
 induction n with
 | zero => exact h
 | succ n ih => rw [Rd.nodesR_succ]; exact RdOK.nodeR ih
theorem RdOK.cntR {r : Rd} (h : RdOK r) (s : ByteArray) (lo hi : Nat) : RdOK (r.cntR s lo hi) := RdOK.next (RdOK.count (RdOK.take h s) lo hi)
theorem RdOK.treeR {r : Rd} (h : RdOK r) : RdOK r.treeR := RdOK.nodesR (RdOK.cntR h _ _ _) _
theorem RdOK.treesR {r : Rd} (h : RdOK r) (n : Nat) : RdOK (r.treesR n) := by
 induction n with
 | zero => exact h
 | succ n ih => rw [Rd.treesR_succ]; exact RdOK.treeR ih
theorem RdOK.topR {r : Rd} (h : RdOK r) : RdOK r.topR := RdOK.next (RdOK.take (RdOK.take h _) _)
theorem RdOK.footR {r : Rd} (h : RdOK r) : RdOK r.footR := RdOK.fin (RdOK.next (RdOK.take h _))
theorem RdOK.headR {r : Rd} (h : RdOK r) : RdOK r.headR := RdOK.cntR (RdOK.topR h) _ _ _
theorem RdOK.manyR {r : Rd} (h : RdOK r) : RdOK r.manyR := RdOK.cntR (RdOK.headR h) _ _ _
theorem RdOK.allR {r : Rd} (h : RdOK r) : RdOK r.allR := RdOK.footR (RdOK.treesR (RdOK.manyR h) _)

/-- How long the text is stays. -/
theorem Rd.tok_len (r : Rd) : r.tok.2.len = r.len := by
 unfold Rd.tok
 split
 ·split <;> rfl
 ·rfl

/-- A word's text is no longer than the whole. -/
theorem RdOK.wtx {r : Rd} (h : RdOK r) : (wtx r.tok.1).size ≤ r.len := by
 unfold Rd.tok
 split
 ·split
  ·rename_i t hc
   unfold Rd.cur at hc
   cases hL : r.L with
   | nil => rw [hL] at hc; cases hc
   | cons l L =>
    rw [hL] at hc
    exact (h.s l (by rw [hL]; simp) t (List.mem_of_getElem? hc)).1
  ·exact Nat.zero_le _
 ·exact Nat.zero_le _

/-- A word has bytes. -/
theorem RdOK.tok_pos {r : Rd} (h : RdOK r) {t : Tok} (ht : r.tok.1 = some t) : 0 < t.2.2.size ∧ t.2.2.size ≤ r.len := by
 unfold Rd.tok at ht
 split at ht
 ·split at ht
  ·rename_i t' hc
   cases ht
   unfold Rd.cur at hc
   cases hL : r.L with
   | nil => rw [hL] at hc; cases hc
   | cons l L =>
    rw [hL] at hc
    have := h.s l (by rw [hL]; simp) _ (List.mem_of_getElem? hc)
    exact ⟨this.2, this.1⟩
  ·cases ht
 ·cases ht
/-- Behind an error nothing turns. -/
theorem Rd.tok_no {r : Rd} (h : ¬ r.err = 0) : r.tok = (none, r) := by unfold Rd.tok; rw [if_neg h]
theorem Rd.pick_no {r : Rd} (h : ¬ r.err = 0) (a b : ByteArray) : r.pick a b = (0, r) := by unfold Rd.pick; rw [Rd.tok_no h]
theorem Rd.next_no {r : Rd} (h : ¬ r.err = 0) : r.next = r := by unfold Rd.next; rw [if_neg h]
theorem Rd.nodes_len (r : Rd) (n : Nat) : (r.nodesT n).length = n := by
 induction n with
 | zero => rfl
 | succ n ih => rw [Rd.nodesT_succ, List.length_append, ih]; rfl
theorem Rd.trees_len (r : Rd) (n : Nat) : (r.treesT n).length = n := by
 induction n with
 | zero => rfl
 | succ n ih => rw [Rd.treesT_succ, List.length_append, ih]; rfl
theorem Rd.count_le (r : Rd) (lo hi : Nat) : (r.count lo hi).1 ≤ hi := by
 unfold Rd.count
 split
 ·split
  ·split
   ·rename_i h; exact h.2
   ·exact Nat.zero_le _
  ·exact Nat.zero_le _
 ·exact Nat.zero_le _
theorem Rd.cnt_le (r : Rd) (s : ByteArray) (lo hi : Nat) : r.cntV s lo hi ≤ hi := Rd.count_le _ _ _

end Go.Proofs.YthkamfddbiheoaaGreatDoor

namespace Go.Proofs.YthkamfddbiheoaaGreatDoor
open Go.ChangeShapes Go.WideShapes Go.ChangeAt Go.RowKit
set_option linter.unusedVariables false

/-- An entry: missing, or a number. -/
structure Cl where
 miss : Bool
 val : Rat
def CellRaw (w : World) (el : Nat → Value) (d : Cl) (K : Nat) : Prop := el 0 = .bool d.miss ∧ RawN w (el 1) (el 2) (el 3) d.val K
def CellAt (w : World) (el : Nat → Value) (d : Cl) (L : Nat) : Prop := el 0 = .bool d.miss ∧ AtN w (el 1) (el 2) (el 3) d.val L
theorem CellRaw.below {w w' : World} {el : Nat → Value} {d : Cl} {K : Nat} (h : CellRaw w el d K) (hb : Below w.heap.size w w') : CellRaw w' el d K := ⟨h.1, h.2.below hb⟩
theorem CellAt.below {w w' : World} {el : Nat → Value} {d : Cl} {L : Nat} (h : CellAt w el d L) (hb : Below w.heap.size w w') : CellAt w' el d L := ⟨h.1, h.2.below hb⟩
theorem CellAt.keepL {w w' : World} {el : Nat → Value} {d : Cl} {L : Nat} (h : CellAt w el d L) (hk : KeepQ IsLimb w w') : CellAt w' el d L := ⟨h.1, h.2.keepL hk⟩
theorem CellAt.congr {w : World} {el el' : Nat → Value} {d : Cl} {L : Nat} (h : CellAt w el d L) (e : ∀ j, j < 4 → el j = el' j) : CellAt w el' d L := by
 unfold CellAt at h ⊢
 rw [← e 0 (by omega), ← e 1 (by omega), ← e 2 (by omega), ← e 3 (by omega)]
 exact h
theorem AtN.mono {w : World} {x y z : Value} {q : Rat} {L L' : Nat} (h : AtN w x y z q L) (hL : L ≤ L') : AtN w x y z q L' := by
 obtain ⟨p, ao, m, c, bo, k, d, a, b, e, r⟩ := h
 exact ⟨p, ao, m, c, bo, k, d, a, b, e, r.le hL⟩
theorem CellAt.mono {w : World} {el : Nat → Value} {d : Cl} {L L' : Nat} (h : CellAt w el d L) (hL : L ≤ L') : CellAt w el d L' := ⟨h.1, h.2.mono hL⟩

def CRaw (w : World) (v : Value) (n : Nat) (t : Nat → Cl) (K : Nat) : Prop := ∃ el, RowAt 4 w v n el ∧ ∀ i, i < n → CellRaw w (el i) (t i) K
def CRow (w : World) (v : Value) (n : Nat) (t : Nat → Cl) (L : Nat) : Prop := ∃ el, RowAt 4 w v n el ∧ ∀ i, i < n → CellAt w (el i) (t i) L
theorem CRaw.below {w w' : World} {v : Value} {n : Nat} {t : Nat → Cl} {K : Nat} (h : CRaw w v n t K) (hb : Below w.heap.size w w') : CRaw w' v n t K := by
 obtain ⟨el, h1, h2⟩ := h
 exact ⟨el, h1.below hb, fun i hi => (h2 i hi).below hb⟩
theorem CRow.below {w w' : World} {v : Value} {n : Nat} {t : Nat → Cl} {L : Nat} (h : CRow w v n t L) (hb : Below w.heap.size w w') : CRow w' v n t L := by
 obtain ⟨el, h1, h2⟩ := h
 exact ⟨el, h1.below hb, fun i hi => (h2 i hi).below hb⟩
theorem CRow.open {w : World} {v : Value} {n : Nat} {t : Nat → Cl} {L : Nat} (h : CRow w v n t L) : ∃ a c, v = .slice a n c ∧ n ≤ c ∧ c ≤ 9223372036854775807 := by
 obtain ⟨el, ⟨a, c, h1, h2, h3, _⟩, _⟩ := h
 exact ⟨a, c, h1, h2, h3⟩
theorem CRaw.open {w : World} {v : Value} {n : Nat} {t : Nat → Cl} {L : Nat} (h : CRaw w v n t L) : ∃ a c, v = .slice a n c ∧ n ≤ c ∧ c ≤ 9223372036854775807 := by
 obtain ⟨el, ⟨a, c, h1, h2, h3, _⟩, _⟩ := h
 exact ⟨a, c, h1, h2, h3⟩

theorem CRow.at {w : World} {v : Value} {n : Nat} {t : Nat → Cl} {L : Nat} (h : CRow w v n t L) {i : Nat} (hi : i < n) :
  ∃ b off c p1 a1 n1 c1 b1 m1 d1, v = .slice (some ⟨b, off, none⟩) n c ∧ n ≤ c ∧ c ≤ 9223372036854775807 ∧
   w.cell? ⟨b, off + i * 4, none⟩ = some (.bool (t i).miss) ∧ w.cell? ⟨b, off + i * 4 + 1, none⟩ = some (.bool p1) ∧ w.cell? ⟨b, off + i * 4 + 2, none⟩ = some (.slice a1 n1 c1) ∧ w.cell? ⟨b, off + i * 4 + 3, none⟩ = some (.slice b1 m1 d1) ∧
   RatAt w (.agg #[.bool p1, .slice a1 n1 c1, .slice b1 m1 d1]) (t i).val L := by
 obtain ⟨el, ⟨a, c, h1, h2, h3, h4⟩, h5⟩ := h
 obtain ⟨b, off, rfl, hc⟩ := h4 (by omega)
 obtain ⟨e0, p1, a1, n1, c1, b1, m1, d1, e1, e2, e3, r1⟩ := h5 i hi
 have hc := hc i hi
 exact ⟨b, off, c, p1, a1, n1, c1, b1, m1, d1, h1, h2, h3, (hc 0 (by omega)).trans (by rw [e0]), (hc 1 (by omega)).trans (by rw [e1]), (hc 2 (by omega)).trans (by rw [e2]), (hc 3 (by omega)).trans (by rw [e3]), r1⟩
theorem CRaw.at {w : World} {v : Value} {n : Nat} {t : Nat → Cl} {K : Nat} (h : CRaw w v n t K) {i : Nat} (hi : i < n) :
  ∃ b off c p1 a1 n1 c1 b1 m1 d1 f1 g1, v = .slice (some ⟨b, off, none⟩) n c ∧ n ≤ c ∧ c ≤ 9223372036854775807 ∧
   w.cell? ⟨b, off + i * 4, none⟩ = some (.bool (t i).miss) ∧ w.cell? ⟨b, off + i * 4 + 1, none⟩ = some (.bool p1) ∧ w.cell? ⟨b, off + i * 4 + 2, none⟩ = some (.slice a1 n1 c1) ∧ w.cell? ⟨b, off + i * 4 + 3, none⟩ = some (.slice b1 m1 d1) ∧
   Raw w (.slice a1 n1 c1) n1 f1 ∧ Raw w (.slice b1 m1 d1) m1 g1 ∧ (t i).val = mkRat (zof p1 (num f1 (min n1 K))) (num g1 (min m1 K)) := by
 obtain ⟨el, ⟨a, c, h1, h2, h3, h4⟩, h5⟩ := h
 obtain ⟨b, off, rfl, hc⟩ := h4 (by omega)
 obtain ⟨e0, p1, a1, n1, c1, b1, m1, d1, f1, g1, e1, e2, e3, r1⟩ := h5 i hi
 have hc := hc i hi
 exact ⟨b, off, c, p1, a1, n1, c1, b1, m1, d1, f1, g1, h1, h2, h3, (hc 0 (by omega)).trans (by rw [e0]), (hc 1 (by omega)).trans (by rw [e1]), (hc 2 (by omega)).trans (by rw [e2]), (hc 3 (by omega)).trans (by rw [e3]), r1⟩
theorem CRow.mono {w : World} {v : Value} {n : Nat} {t : Nat → Cl} {L L' : Nat} (h : CRow w v n t L) (hL : L ≤ L') : CRow w v n t L' := by
 obtain ⟨el, h1, h2⟩ := h
 exact ⟨el, h1, fun i hi => (h2 i hi).mono hL⟩
theorem CRow.congr {w : World} {v : Value} {n : Nat} {t t' : Nat → Cl} {L : Nat} (h : CRow w v n t L) (e : ∀ i, i < n → t i = t' i) : CRow w v n t' L := by
 obtain ⟨el, h1, h2⟩ := h
 exact ⟨el, h1, fun i hi => e i hi ▸ h2 i hi⟩

/-- Rows of entries. -/
def ARaw (w : World) (v : Value) (k : Nat) (N : Nat → Nat) (t : Nat → Nat → Cl) (K : Nat) : Prop := ∃ el, RowAt 1 w v k el ∧ ∀ i, i < k → CRaw w (el i 0) (N i) (t i) K
def ARow (w : World) (v : Value) (k : Nat) (N : Nat → Nat) (t : Nat → Nat → Cl) (L : Nat) : Prop := ∃ el, RowAt 1 w v k el ∧ ∀ i, i < k → CRow w (el i 0) (N i) (t i) L
theorem ARaw.below {w w' : World} {v : Value} {k : Nat} {N : Nat → Nat} {t : Nat → Nat → Cl} {K : Nat} (h : ARaw w v k N t K) (hb : Below w.heap.size w w') : ARaw w' v k N t K := by
 obtain ⟨el, h1, h2⟩ := h
 exact ⟨el, h1.below hb, fun i hi => (h2 i hi).below hb⟩
theorem ARow.below {w w' : World} {v : Value} {k : Nat} {N : Nat → Nat} {t : Nat → Nat → Cl} {L : Nat} (h : ARow w v k N t L) (hb : Below w.heap.size w w') : ARow w' v k N t L := by
 obtain ⟨el, h1, h2⟩ := h
 exact ⟨el, h1.below hb, fun i hi => (h2 i hi).below hb⟩
theorem ARow.open {w : World} {v : Value} {k : Nat} {N : Nat → Nat} {t : Nat → Nat → Cl} {L : Nat} (h : ARow w v k N t L) : ∃ a c, v = .slice a k c ∧ k ≤ c ∧ c ≤ 9223372036854775807 := by
 obtain ⟨el, ⟨a, c, h1, h2, h3, _⟩, _⟩ := h
 exact ⟨a, c, h1, h2, h3⟩
theorem ARaw.open {w : World} {v : Value} {k : Nat} {N : Nat → Nat} {t : Nat → Nat → Cl} {L : Nat} (h : ARaw w v k N t L) : ∃ a c, v = .slice a k c ∧ k ≤ c ∧ c ≤ 9223372036854775807 := by
 obtain ⟨el, ⟨a, c, h1, h2, h3, _⟩, _⟩ := h
 exact ⟨a, c, h1, h2, h3⟩
theorem ARow.at {w : World} {v : Value} {k : Nat} {N : Nat → Nat} {t : Nat → Nat → Cl} {L : Nat} (h : ARow w v k N t L) {i : Nat} (hi : i < k) : ∃ b off c a d, v = .slice (some ⟨b, off, none⟩) k c ∧ k ≤ c ∧ w.cell? ⟨b, off + i, none⟩ = some (.slice a (N i) d) ∧ CRow w (.slice a (N i) d) (N i) (t i) L := by
 obtain ⟨el, ⟨a, c, h1, h2, h3, h4⟩, h5⟩ := h
 obtain ⟨b, off, rfl, hc⟩ := h4 (by omega)
 obtain ⟨a, d, e, _⟩ := (h5 i hi).open
 have := hc i hi 0 (by omega)
 rw [Nat.mul_one, Nat.add_zero, e] at this
 exact ⟨b, off, c, a, d, h1, h2, this, e ▸ h5 i hi⟩
theorem ARaw.at {w : World} {v : Value} {k : Nat} {N : Nat → Nat} {t : Nat → Nat → Cl} {L : Nat} (h : ARaw w v k N t L) {i : Nat} (hi : i < k) : ∃ b off c a d, v = .slice (some ⟨b, off, none⟩) k c ∧ k ≤ c ∧ w.cell? ⟨b, off + i, none⟩ = some (.slice a (N i) d) ∧ CRaw w (.slice a (N i) d) (N i) (t i) L := by
 obtain ⟨el, ⟨a, c, h1, h2, h3, h4⟩, h5⟩ := h
 obtain ⟨b, off, rfl, hc⟩ := h4 (by omega)
 obtain ⟨a, d, e, _⟩ := (h5 i hi).open
 have := hc i hi 0 (by omega)
 rw [Nat.mul_one, Nat.add_zero, e] at this
 exact ⟨b, off, c, a, d, h1, h2, this, e ▸ h5 i hi⟩

end Go.Proofs.YthkamfddbiheoaaGreatDoor

namespace Go.Proofs.YthkamfddbiheoaaGreatDoor
open Go.RowKit
set_option linter.unusedVariables false
set_option linter.unusedSimpArgs false

theorem qerr_is (s : ByteArray) : qerr s = 0 ∨ qerr s = 2 ∨ qerr s = 4 := by
 unfold qerr
 rcases pp_err (pdig s) with h | h
 ·rw [if_pos h]; split <;> simp
 ·rw [if_neg (by omega), h]; simp

/-- A cell. -/
def V1c (w : World) (b o : Nat) (x : Value) : Prop := w.cell? ⟨b, o, none⟩ = some x
theorem V1c.out {w : World} {b o : Nat} {x : Value} (h : V1c w b o x) : w.cell? ⟨b, o, none⟩ = some x := h
theorem V1c.below {w w' : World} {b o : Nat} {x : Value} (h : V1c w b o x) (hb : Below w.heap.size w w') : V1c w' b o x := (hb.cell (World.block_lt_of_cell? _ _ h)).trans h


set_option maxRecDepth 100000 in
set_option maxHeartbeats 4000000 in
theorem exact_at (p : Bool) (va vb ua ub : Value) (n m : Nat) (f g : Nat → Int) (w : World) (hva : Nums .u64 w va n f) (hvb : Nums .u64 w vb m g) (hua : Nums .u64 w ua n f) (hub : Nums .u64 w ub m g) :
  Calls Tryz.prog 27 #[.agg #[.bool p, va, vb], .agg #[.bool p, ua, ub]] w fun e w' => e = .returned (.bool true) ∧ Below w.heap.size w w' := by
 obtain ⟨ava, cva, rfl, lva, qva, Hva⟩ := hva
 unfold LIM at qva
 obtain ⟨avb, cvb, rfl, lvb, qvb, Hvb⟩ := hvb
 unfold LIM at qvb
 obtain ⟨aua, cua, rfl, lua, qua, Hua⟩ := hua
 unfold LIM at qua
 obtain ⟨aub, cub, rfl, lub, qub, Hub⟩ := hub
 unfold LIM at qub
 have BB : Below w.heap.size w w := Below.refl _ _
 obtain ⟨W0, hW0, hS0, hL0, VA⟩ := V3.lay w 44 (.bool p) (.slice ava n cva) (.slice avb m cvb)
 replace BB := BB.trans (hL0.mono BB.size)
 obtain ⟨W1, hW1, hS1, hL1, VB⟩ := V3.lay W0 44 (.bool p) (.slice aua n cua) (.slice aub m cub)
 rw [hS0] at VB hS1
 replace VA := VA.below hL1
 replace BB := BB.trans (hL1.mono BB.size)
 have HBW : Hid (Below w.heap.size w W1) := BB
 clear hL0 hL1 BB
 obtain ⟨A_0, A_1, A_2, A_3, A_4, A_5⟩ := id VA
 obtain ⟨B_0, B_1, B_2, B_3, B_4, B_5⟩ := id VB
 rw [hW1, hW0] at A_0 A_1 A_2 A_3 A_4 A_5 B_0 B_1 B_2 B_3 B_4 B_5
 go_enter Tryz.func27, Tryz.ntmps27
 go_wp2
 clear A_0 A_1 A_2 A_3 A_4 A_5 B_0 B_1 B_2 B_3 B_4 B_5
 rw [← hW0, ← hW1]
 clear hW0 hW1 hS0 hS1
 have BLS : Below W1.heap.size W1 W1 := Below.refl _ _
 go_loopw [5] (fun vi wr => ∃ i : Nat, i ≤ n ∧ vi = .int .i64 (i : Int) ∧ Below W1.heap.size W1 wr) (fun vi _ => n - (intOf vi).toNat)
 case atStart => exact ⟨0, by omega, rfl, BLS⟩
 case round =>
  clear BLS
  obtain ⟨i, hi, rfl, BL⟩ := hrel
  have VAi := VA.below BL
  have VBi := VB.below BL
  obtain ⟨A_0, A_1, A_2, A_3, A_4, A_5⟩ := id VAi
  obtain ⟨B_0, B_1, B_2, B_3, B_4, B_5⟩ := id VBi
  by_cases hlt : i < n
  ·have g1 : (i : Int) < (n : Int) := by omega
   have g0 : (0 : Int) ≤ (i : Int) := by omega
   obtain ⟨b1, o1, e1, C1⟩ := Hva (by omega)
   obtain ⟨b2, o2, e2, C2⟩ := Hua (by omega)
   subst e1
   subst e2
   have X1 := (HBW.out.trans (BL.mono HBW.out.size)).cell (World.block_lt_of_cell? _ _ (C1 i hlt)) |>.trans (C1 i hlt)
   have X2 := (HBW.out.trans (BL.mono HBW.out.size)).cell (World.block_lt_of_cell? _ _ (C2 i hlt)) |>.trans (C2 i hlt)
   have Y1 : V1c wr b1 (o1 + i) (.int .u64 (f i)) := X1
   have Y2 : V1c wr b2 (o2 + i) (.int .u64 (f i)) := X2
   go_wp2_with fail
   clear A_0 A_1 A_2 A_3 A_4 A_5 B_0 B_1 B_2 B_3 B_4 B_5 X1 X2 C1 C2
   have BB := BL
   clear BL
   refine wp_region_until 13 #[true, true, true, true, true, true, true, true, true, true, true, true, true] (fun aF lsd a' w' => ∃ vu0 vu1 vu2 vu3 vu4 vu5 vu6 vu7 vu8 vu9 vu10 vu11 vu12 : Value, a' = ((((((((((((aF.put (some 42) vu0).put (some 43) vu1).put (some 44) vu2).put (some 45) vu3).put (some 46) vu4).put (some 47) vu5).put (some 48) vu6).put (some 49) vu7).put (some 50) vu8).put (some 51) vu9).put (some 52) vu10).put (some 53) vu11).put (some 54) vu12 ∧ Below wr.heap.size wr w' ∧ (lsd.getD 0 false = true → vu0 = .pointer (some ⟨w.heap.size, 0, none⟩)) ∧ (lsd.getD 1 false = true → vu1 = .pointer (some ⟨w.heap.size, 1, none⟩)) ∧ (lsd.getD 2 false = true → vu2 = .slice (some ⟨b1, o1, none⟩) n cva) ∧ (lsd.getD 3 false = true → vu3 = .int .i64 (i : Int)) ∧ (lsd.getD 4 false = true → vu4 = .pointer (some ⟨b1, o1 + i, none⟩)) ∧ (lsd.getD 5 false = true → vu5 = .int .u64 (f i)) ∧ (lsd.getD 6 false = true → vu6 = .pointer (some ⟨(w.heap.size + 1), 0, none⟩)) ∧ (lsd.getD 7 false = true → vu7 = .pointer (some ⟨(w.heap.size + 1), 1, none⟩)) ∧ (lsd.getD 8 false = true → vu8 = .slice (some ⟨b2, o2, none⟩) n cua) ∧ (lsd.getD 9 false = true → vu9 = .int .i64 (i : Int)) ∧ (lsd.getD 10 false = true → vu10 = .pointer (some ⟨b2, o2 + i, none⟩)) ∧ (lsd.getD 11 false = true → vu11 = .int .u64 (f i)) ∧ (lsd.getD 12 false = true → vu12 = .bool false)) (by kernel_rfl) (by decide) (by kernel_rfl) (by rfl) (by kernel_rfl) ?_ ?_ ?_
   ·exact ⟨_, _, _, _, _, _, _, _, _, _, _, _, _, by simp only [Act.put, xL4, xL5, xL6]; rfl, (Below.refl _ _).drew, fun h => absurd h (fun h => mark_none h), fun h => absurd h (fun h => mark_none h), fun h => absurd h (fun h => mark_none h), fun h => absurd h (fun h => mark_none h), fun h => absurd h (fun h => mark_none h), fun h => absurd h (fun h => mark_none h), fun h => absurd h (fun h => mark_none h), fun h => absurd h (fun h => mark_none h), fun h => absurd h (fun h => mark_none h), fun h => absurd h (fun h => mark_none h), fun h => absurd h (fun h => mark_none h), fun h => absurd h (fun h => mark_none h), fun h => absurd h (fun h => mark_none h)⟩
   ·rintro lsd au wn iu hszu ⟨vu0, vu1, vu2, vu3, vu4, vu5, vu6, vu7, vu8, vu9, vu10, vu11, vu12, rfl, hbu, fu0, fu1, fu2, fu3, fu4, fu5, fu6, fu7, fu8, fu9, fu10, fu11, fu12⟩ himu hru
    rcases (show iu = 0 ∨ iu = 1 ∨ iu = 2 ∨ iu = 3 ∨ iu = 4 ∨ iu = 5 ∨ iu = 6 ∨ iu = 7 ∨ iu = 8 ∨ iu = 9 ∨ iu = 10 ∨ iu = 11 ∨ iu = 12 by omega) with rfl | rfl | rfl | rfl | rfl | rfl | rfl | rfl | rfl | rfl | rfl | rfl | rfl
    ·refine wpOp_shut (by rfl) (fun K hK => ?_)
     simp only [Act.put, xL4, xL5, xL6]
     go_simp
     exact hK.out _ _ ⟨(.pointer (some ⟨w.heap.size, 0, none⟩)), vu1, vu2, vu3, vu4, vu5, vu6, vu7, vu8, vu9, vu10, vu11, vu12, by simp only [Act.put, xL4, xL5, xL6], hbu, fun _ => rfl, fun h => fu1 (mark_of (by decide) h), fun h => fu2 (mark_of (by decide) h), fun h => fu3 (mark_of (by decide) h), fun h => fu4 (mark_of (by decide) h), fun h => fu5 (mark_of (by decide) h), fun h => fu6 (mark_of (by decide) h), fun h => fu7 (mark_of (by decide) h), fun h => fu8 (mark_of (by decide) h), fun h => fu9 (mark_of (by decide) h), fun h => fu10 (mark_of (by decide) h), fun h => fu11 (mark_of (by decide) h), fun h => fu12 (mark_of (by decide) h)⟩
    ·have eu0 := fu0 (dep_of 0 hru rfl (by kernel_rfl))
     replace eu0 := eu0.symm
     subst eu0
     refine wpOp_shut (by rfl) (fun K hK => ?_)
     simp only [Act.put, xL4, xL5, xL6]
     go_simp
     exact hK.out _ _ ⟨(.pointer (some ⟨w.heap.size, 0, none⟩)), (.pointer (some ⟨w.heap.size, 1, none⟩)), vu2, vu3, vu4, vu5, vu6, vu7, vu8, vu9, vu10, vu11, vu12, by simp only [Act.put, xL4, xL5, xL6], hbu, fun _ => rfl, fun _ => rfl, fun h => fu2 (mark_of (by decide) h), fun h => fu3 (mark_of (by decide) h), fun h => fu4 (mark_of (by decide) h), fun h => fu5 (mark_of (by decide) h), fun h => fu6 (mark_of (by decide) h), fun h => fu7 (mark_of (by decide) h), fun h => fu8 (mark_of (by decide) h), fun h => fu9 (mark_of (by decide) h), fun h => fu10 (mark_of (by decide) h), fun h => fu11 (mark_of (by decide) h), fun h => fu12 (mark_of (by decide) h)⟩
    ·have eu1 := fu1 (dep_of 1 hru rfl (by kernel_rfl))
     replace eu1 := eu1.symm
     subst eu1
     refine wpOp_shut (by rfl) (fun K hK => ?_)
     simp only [Act.put, xL4, xL5, xL6]
     obtain ⟨A_0, A_1, A_2, A_3, A_4, A_5⟩ := VAi.below hbu
     go_simp
     exact hK.out _ _ ⟨vu0, (.pointer (some ⟨w.heap.size, 1, none⟩)), (.slice (some ⟨b1, o1, none⟩) n cva), vu3, vu4, vu5, vu6, vu7, vu8, vu9, vu10, vu11, vu12, by simp only [Act.put, xL4, xL5, xL6], hbu, fun h => fu0 (mark_of (by decide) h), fun _ => rfl, fun _ => rfl, fun h => fu3 (mark_of (by decide) h), fun h => fu4 (mark_of (by decide) h), fun h => fu5 (mark_of (by decide) h), fun h => fu6 (mark_of (by decide) h), fun h => fu7 (mark_of (by decide) h), fun h => fu8 (mark_of (by decide) h), fun h => fu9 (mark_of (by decide) h), fun h => fu10 (mark_of (by decide) h), fun h => fu11 (mark_of (by decide) h), fun h => fu12 (mark_of (by decide) h)⟩
    ·refine wpOp_shut (by rfl) (fun K hK => ?_)
     simp only [Act.put, xL4, xL5, xL6]
     go_simp
     exact hK.out _ _ ⟨vu0, vu1, vu2, (.int .i64 (i : Int)), vu4, vu5, vu6, vu7, vu8, vu9, vu10, vu11, vu12, by simp only [Act.put, xL4, xL5, xL6], hbu, fun h => fu0 (mark_of (by decide) h), fun h => fu1 (mark_of (by decide) h), fun h => fu2 (mark_of (by decide) h), fun _ => rfl, fun h => fu4 (mark_of (by decide) h), fun h => fu5 (mark_of (by decide) h), fun h => fu6 (mark_of (by decide) h), fun h => fu7 (mark_of (by decide) h), fun h => fu8 (mark_of (by decide) h), fun h => fu9 (mark_of (by decide) h), fun h => fu10 (mark_of (by decide) h), fun h => fu11 (mark_of (by decide) h), fun h => fu12 (mark_of (by decide) h)⟩
    ·have eu2 := fu2 (dep_of 2 hru rfl (by kernel_rfl))
     have eu3 := fu3 (dep_of 3 hru rfl (by kernel_rfl))
     replace eu2 := eu2.symm
     subst eu2
     replace eu3 := eu3.symm
     subst eu3
     refine wpOp_shut (by rfl) (fun K hK => ?_)
     simp only [Act.put, xL4, xL5, xL6]
     go_simp
     exact hK.out _ _ ⟨vu0, vu1, (.slice (some ⟨b1, o1, none⟩) n cva), (.int .i64 (i : Int)), (.pointer (some ⟨b1, o1 + i, none⟩)), vu5, vu6, vu7, vu8, vu9, vu10, vu11, vu12, by simp only [Act.put, xL4, xL5, xL6], hbu, fun h => fu0 (mark_of (by decide) h), fun h => fu1 (mark_of (by decide) h), fun _ => rfl, fun _ => rfl, fun _ => rfl, fun h => fu5 (mark_of (by decide) h), fun h => fu6 (mark_of (by decide) h), fun h => fu7 (mark_of (by decide) h), fun h => fu8 (mark_of (by decide) h), fun h => fu9 (mark_of (by decide) h), fun h => fu10 (mark_of (by decide) h), fun h => fu11 (mark_of (by decide) h), fun h => fu12 (mark_of (by decide) h)⟩
    ·have eu4 := fu4 (dep_of 4 hru rfl (by kernel_rfl))
     replace eu4 := eu4.symm
     subst eu4
     refine wpOp_shut (by rfl) (fun K hK => ?_)
     simp only [Act.put, xL4, xL5, xL6]
     have z1 := (Y1.below hbu).out
     go_simp
     exact hK.out _ _ ⟨vu0, vu1, vu2, vu3, (.pointer (some ⟨b1, o1 + i, none⟩)), (.int .u64 (f i)), vu6, vu7, vu8, vu9, vu10, vu11, vu12, by simp only [Act.put, xL4, xL5, xL6], hbu, fun h => fu0 (mark_of (by decide) h), fun h => fu1 (mark_of (by decide) h), fun h => fu2 (mark_of (by decide) h), fun h => fu3 (mark_of (by decide) h), fun _ => rfl, fun _ => rfl, fun h => fu6 (mark_of (by decide) h), fun h => fu7 (mark_of (by decide) h), fun h => fu8 (mark_of (by decide) h), fun h => fu9 (mark_of (by decide) h), fun h => fu10 (mark_of (by decide) h), fun h => fu11 (mark_of (by decide) h), fun h => fu12 (mark_of (by decide) h)⟩
    ·refine wpOp_shut (by rfl) (fun K hK => ?_)
     simp only [Act.put, xL4, xL5, xL6]
     go_simp
     exact hK.out _ _ ⟨vu0, vu1, vu2, vu3, vu4, vu5, (.pointer (some ⟨(w.heap.size + 1), 0, none⟩)), vu7, vu8, vu9, vu10, vu11, vu12, by simp only [Act.put, xL4, xL5, xL6], hbu, fun h => fu0 (mark_of (by decide) h), fun h => fu1 (mark_of (by decide) h), fun h => fu2 (mark_of (by decide) h), fun h => fu3 (mark_of (by decide) h), fun h => fu4 (mark_of (by decide) h), fun h => fu5 (mark_of (by decide) h), fun _ => rfl, fun h => fu7 (mark_of (by decide) h), fun h => fu8 (mark_of (by decide) h), fun h => fu9 (mark_of (by decide) h), fun h => fu10 (mark_of (by decide) h), fun h => fu11 (mark_of (by decide) h), fun h => fu12 (mark_of (by decide) h)⟩
    ·have eu6 := fu6 (dep_of 6 hru rfl (by kernel_rfl))
     replace eu6 := eu6.symm
     subst eu6
     refine wpOp_shut (by rfl) (fun K hK => ?_)
     simp only [Act.put, xL4, xL5, xL6]
     go_simp
     exact hK.out _ _ ⟨vu0, vu1, vu2, vu3, vu4, vu5, (.pointer (some ⟨(w.heap.size + 1), 0, none⟩)), (.pointer (some ⟨(w.heap.size + 1), 1, none⟩)), vu8, vu9, vu10, vu11, vu12, by simp only [Act.put, xL4, xL5, xL6], hbu, fun h => fu0 (mark_of (by decide) h), fun h => fu1 (mark_of (by decide) h), fun h => fu2 (mark_of (by decide) h), fun h => fu3 (mark_of (by decide) h), fun h => fu4 (mark_of (by decide) h), fun h => fu5 (mark_of (by decide) h), fun _ => rfl, fun _ => rfl, fun h => fu8 (mark_of (by decide) h), fun h => fu9 (mark_of (by decide) h), fun h => fu10 (mark_of (by decide) h), fun h => fu11 (mark_of (by decide) h), fun h => fu12 (mark_of (by decide) h)⟩
    ·have eu7 := fu7 (dep_of 7 hru rfl (by kernel_rfl))
     replace eu7 := eu7.symm
     subst eu7
     refine wpOp_shut (by rfl) (fun K hK => ?_)
     simp only [Act.put, xL4, xL5, xL6]
     obtain ⟨B_0, B_1, B_2, B_3, B_4, B_5⟩ := VBi.below hbu
     go_simp
     exact hK.out _ _ ⟨vu0, vu1, vu2, vu3, vu4, vu5, vu6, (.pointer (some ⟨(w.heap.size + 1), 1, none⟩)), (.slice (some ⟨b2, o2, none⟩) n cua), vu9, vu10, vu11, vu12, by simp only [Act.put, xL4, xL5, xL6], hbu, fun h => fu0 (mark_of (by decide) h), fun h => fu1 (mark_of (by decide) h), fun h => fu2 (mark_of (by decide) h), fun h => fu3 (mark_of (by decide) h), fun h => fu4 (mark_of (by decide) h), fun h => fu5 (mark_of (by decide) h), fun h => fu6 (mark_of (by decide) h), fun _ => rfl, fun _ => rfl, fun h => fu9 (mark_of (by decide) h), fun h => fu10 (mark_of (by decide) h), fun h => fu11 (mark_of (by decide) h), fun h => fu12 (mark_of (by decide) h)⟩
    ·refine wpOp_shut (by rfl) (fun K hK => ?_)
     simp only [Act.put, xL4, xL5, xL6]
     go_simp
     exact hK.out _ _ ⟨vu0, vu1, vu2, vu3, vu4, vu5, vu6, vu7, vu8, (.int .i64 (i : Int)), vu10, vu11, vu12, by simp only [Act.put, xL4, xL5, xL6], hbu, fun h => fu0 (mark_of (by decide) h), fun h => fu1 (mark_of (by decide) h), fun h => fu2 (mark_of (by decide) h), fun h => fu3 (mark_of (by decide) h), fun h => fu4 (mark_of (by decide) h), fun h => fu5 (mark_of (by decide) h), fun h => fu6 (mark_of (by decide) h), fun h => fu7 (mark_of (by decide) h), fun h => fu8 (mark_of (by decide) h), fun _ => rfl, fun h => fu10 (mark_of (by decide) h), fun h => fu11 (mark_of (by decide) h), fun h => fu12 (mark_of (by decide) h)⟩
    ·have eu8 := fu8 (dep_of 8 hru rfl (by kernel_rfl))
     have eu9 := fu9 (dep_of 9 hru rfl (by kernel_rfl))
     replace eu8 := eu8.symm
     subst eu8
     replace eu9 := eu9.symm
     subst eu9
     refine wpOp_shut (by rfl) (fun K hK => ?_)
     simp only [Act.put, xL4, xL5, xL6]
     go_simp
     exact hK.out _ _ ⟨vu0, vu1, vu2, vu3, vu4, vu5, vu6, vu7, (.slice (some ⟨b2, o2, none⟩) n cua), (.int .i64 (i : Int)), (.pointer (some ⟨b2, o2 + i, none⟩)), vu11, vu12, by simp only [Act.put, xL4, xL5, xL6], hbu, fun h => fu0 (mark_of (by decide) h), fun h => fu1 (mark_of (by decide) h), fun h => fu2 (mark_of (by decide) h), fun h => fu3 (mark_of (by decide) h), fun h => fu4 (mark_of (by decide) h), fun h => fu5 (mark_of (by decide) h), fun h => fu6 (mark_of (by decide) h), fun h => fu7 (mark_of (by decide) h), fun _ => rfl, fun _ => rfl, fun _ => rfl, fun h => fu11 (mark_of (by decide) h), fun h => fu12 (mark_of (by decide) h)⟩
    ·have eu10 := fu10 (dep_of 10 hru rfl (by kernel_rfl))
     replace eu10 := eu10.symm
     subst eu10
     refine wpOp_shut (by rfl) (fun K hK => ?_)
     simp only [Act.put, xL4, xL5, xL6]
     have z1 := (Y2.below hbu).out
     go_simp
     exact hK.out _ _ ⟨vu0, vu1, vu2, vu3, vu4, vu5, vu6, vu7, vu8, vu9, (.pointer (some ⟨b2, o2 + i, none⟩)), (.int .u64 (f i)), vu12, by simp only [Act.put, xL4, xL5, xL6], hbu, fun h => fu0 (mark_of (by decide) h), fun h => fu1 (mark_of (by decide) h), fun h => fu2 (mark_of (by decide) h), fun h => fu3 (mark_of (by decide) h), fun h => fu4 (mark_of (by decide) h), fun h => fu5 (mark_of (by decide) h), fun h => fu6 (mark_of (by decide) h), fun h => fu7 (mark_of (by decide) h), fun h => fu8 (mark_of (by decide) h), fun h => fu9 (mark_of (by decide) h), fun _ => rfl, fun _ => rfl, fun h => fu12 (mark_of (by decide) h)⟩
    ·have eu5 := fu5 (dep_of 5 hru rfl (by kernel_rfl))
     have eu11 := fu11 (dep_of 11 hru rfl (by kernel_rfl))
     replace eu5 := eu5.symm
     subst eu5
     replace eu11 := eu11.symm
     subst eu11
     refine wpOp_shut (by rfl) (fun K hK => ?_)
     simp only [Act.put, xL4, xL5, xL6]
     go_simp
     exact hK.out _ _ ⟨vu0, vu1, vu2, vu3, vu4, (.int .u64 (f i)), vu6, vu7, vu8, vu9, vu10, (.int .u64 (f i)), (.bool false), by simp only [Act.put, xL4, xL5, xL6], hbu, fun h => fu0 (mark_of (by decide) h), fun h => fu1 (mark_of (by decide) h), fun h => fu2 (mark_of (by decide) h), fun h => fu3 (mark_of (by decide) h), fun h => fu4 (mark_of (by decide) h), fun _ => rfl, fun h => fu6 (mark_of (by decide) h), fun h => fu7 (mark_of (by decide) h), fun h => fu8 (mark_of (by decide) h), fun h => fu9 (mark_of (by decide) h), fun h => fu10 (mark_of (by decide) h), fun _ => rfl, fun _ => rfl⟩
   rintro au Wu1 ⟨vu0, vu1, vu2, vu3, vu4, vu5, vu6, vu7, vu8, vu9, vu10, vu11, vu12, rfl, hbu, fu0, fu1, fu2, fu3, fu4, fu5, fu6, fu7, fu8, fu9, fu10, fu11, fu12⟩
   have eu0 := (fu0 rfl).symm
   subst eu0
   have eu1 := (fu1 rfl).symm
   subst eu1
   have eu2 := (fu2 rfl).symm
   subst eu2
   have eu3 := (fu3 rfl).symm
   subst eu3
   have eu4 := (fu4 rfl).symm
   subst eu4
   have eu5 := (fu5 rfl).symm
   subst eu5
   have eu6 := (fu6 rfl).symm
   subst eu6
   have eu7 := (fu7 rfl).symm
   subst eu7
   have eu8 := (fu8 rfl).symm
   subst eu8
   have eu9 := (fu9 rfl).symm
   subst eu9
   have eu10 := (fu10 rfl).symm
   subst eu10
   have eu11 := (fu11 rfl).symm
   subst eu11
   have eu12 := (fu12 rfl).symm
   subst eu12
   clear fu0 fu1 fu2 fu3 fu4 fu5 fu6 fu7 fu8 fu9 fu10 fu11 fu12
   simp only [Act.put, xL4, xL5, xL6]
   replace VAi := VAi.below hbu
   replace VBi := VBi.below hbu
   replace Y1 := Y1.below hbu
   replace Y2 := Y2.below hbu
   replace BB := BB.trans (hbu.mono BB.size)
   clear hbu
   refine wpAnyH_done (by kernel_rfl) ?_ _
   go_wp2_with fail
   go_roundw
   case rel => exact ⟨i + 1, by omega, by go_num, BB⟩
   case measure => simp [intOf]; omega
  ·obtain rfl : i = n := by omega
   have g1 : ¬ (i : Int) < (i : Int) := by omega
   go_wp2
   clear A_0 A_1 A_2 A_3 A_4 A_5 B_0 B_1 B_2 B_3 B_4 B_5 VAi VBi
   have BLS := BL
   clear BL g1 hlt hi
   go_loopw [6] (fun vi wr => ∃ i : Nat, i ≤ m ∧ vi = .int .i64 (i : Int) ∧ Below W1.heap.size W1 wr) (fun vi _ => m - (intOf vi).toNat)
   case atStart => exact ⟨0, by omega, rfl, BLS⟩
   case round =>
    clear BLS
    obtain ⟨i, hi, rfl, BL⟩ := hrel
    have VAi := VA.below BL
    have VBi := VB.below BL
    obtain ⟨A_0, A_1, A_2, A_3, A_4, A_5⟩ := id VAi
    obtain ⟨B_0, B_1, B_2, B_3, B_4, B_5⟩ := id VBi
    by_cases hlt : i < m
    ·have g1 : (i : Int) < (m : Int) := by omega
     have g0 : (0 : Int) ≤ (i : Int) := by omega
     obtain ⟨b1, o1, e1, C1⟩ := Hvb (by omega)
     obtain ⟨b2, o2, e2, C2⟩ := Hub (by omega)
     subst e1
     subst e2
     have X1 := (HBW.out.trans (BL.mono HBW.out.size)).cell (World.block_lt_of_cell? _ _ (C1 i hlt)) |>.trans (C1 i hlt)
     have X2 := (HBW.out.trans (BL.mono HBW.out.size)).cell (World.block_lt_of_cell? _ _ (C2 i hlt)) |>.trans (C2 i hlt)
     have Y1 : V1c wr b1 (o1 + i) (.int .u64 (g i)) := X1
     have Y2 : V1c wr b2 (o2 + i) (.int .u64 (g i)) := X2
     go_wp2_with fail
     clear A_0 A_1 A_2 A_3 A_4 A_5 B_0 B_1 B_2 B_3 B_4 B_5 X1 X2 C1 C2
     have BB := BL
     clear BL
     refine wp_region_until 11 #[true, true, true, true, true, true, true, true, true, true, true] (fun aF lsd a' w' => ∃ vu0 vu1 vu2 vu3 vu4 vu5 vu6 vu7 vu8 vu9 vu10 : Value, a' = ((((((((((aF.put (some 62) vu0).put (some 63) vu1).put (some 64) vu2).put (some 65) vu3).put (some 66) vu4).put (some 67) vu5).put (some 68) vu6).put (some 69) vu7).put (some 70) vu8).put (some 71) vu9).put (some 72) vu10 ∧ Below wr.heap.size wr w' ∧ (lsd.getD 0 false = true → vu0 = .pointer (some ⟨w.heap.size, 2, none⟩)) ∧ (lsd.getD 1 false = true → vu1 = .slice (some ⟨b1, o1, none⟩) m cvb) ∧ (lsd.getD 2 false = true → vu2 = .int .i64 (i : Int)) ∧ (lsd.getD 3 false = true → vu3 = .pointer (some ⟨b1, o1 + i, none⟩)) ∧ (lsd.getD 4 false = true → vu4 = .int .u64 (g i)) ∧ (lsd.getD 5 false = true → vu5 = .pointer (some ⟨(w.heap.size + 1), 2, none⟩)) ∧ (lsd.getD 6 false = true → vu6 = .slice (some ⟨b2, o2, none⟩) m cub) ∧ (lsd.getD 7 false = true → vu7 = .int .i64 (i : Int)) ∧ (lsd.getD 8 false = true → vu8 = .pointer (some ⟨b2, o2 + i, none⟩)) ∧ (lsd.getD 9 false = true → vu9 = .int .u64 (g i)) ∧ (lsd.getD 10 false = true → vu10 = .bool false)) (by kernel_rfl) (by decide) (by kernel_rfl) (by rfl) (by kernel_rfl) ?_ ?_ ?_
     ·exact ⟨_, _, _, _, _, _, _, _, _, _, _, by simp only [Act.put, xL4, xL5, xL6]; rfl, (Below.refl _ _).drew, fun h => absurd h (fun h => mark_none h), fun h => absurd h (fun h => mark_none h), fun h => absurd h (fun h => mark_none h), fun h => absurd h (fun h => mark_none h), fun h => absurd h (fun h => mark_none h), fun h => absurd h (fun h => mark_none h), fun h => absurd h (fun h => mark_none h), fun h => absurd h (fun h => mark_none h), fun h => absurd h (fun h => mark_none h), fun h => absurd h (fun h => mark_none h), fun h => absurd h (fun h => mark_none h)⟩
     ·rintro lsd au wn iu hszu ⟨vu0, vu1, vu2, vu3, vu4, vu5, vu6, vu7, vu8, vu9, vu10, rfl, hbu, fu0, fu1, fu2, fu3, fu4, fu5, fu6, fu7, fu8, fu9, fu10⟩ himu hru
      rcases (show iu = 0 ∨ iu = 1 ∨ iu = 2 ∨ iu = 3 ∨ iu = 4 ∨ iu = 5 ∨ iu = 6 ∨ iu = 7 ∨ iu = 8 ∨ iu = 9 ∨ iu = 10 by omega) with rfl | rfl | rfl | rfl | rfl | rfl | rfl | rfl | rfl | rfl | rfl
      ·refine wpOp_shut (by rfl) (fun K hK => ?_)
       simp only [Act.put, xL4, xL5, xL6]
       go_simp
       exact hK.out _ _ ⟨(.pointer (some ⟨w.heap.size, 2, none⟩)), vu1, vu2, vu3, vu4, vu5, vu6, vu7, vu8, vu9, vu10, by simp only [Act.put, xL4, xL5, xL6], hbu, fun _ => rfl, fun h => fu1 (mark_of (by decide) h), fun h => fu2 (mark_of (by decide) h), fun h => fu3 (mark_of (by decide) h), fun h => fu4 (mark_of (by decide) h), fun h => fu5 (mark_of (by decide) h), fun h => fu6 (mark_of (by decide) h), fun h => fu7 (mark_of (by decide) h), fun h => fu8 (mark_of (by decide) h), fun h => fu9 (mark_of (by decide) h), fun h => fu10 (mark_of (by decide) h)⟩
      ·have eu0 := fu0 (dep_of 0 hru rfl (by kernel_rfl))
       replace eu0 := eu0.symm
       subst eu0
       refine wpOp_shut (by rfl) (fun K hK => ?_)
       simp only [Act.put, xL4, xL5, xL6]
       obtain ⟨A_0, A_1, A_2, A_3, A_4, A_5⟩ := VAi.below hbu
       go_simp
       exact hK.out _ _ ⟨(.pointer (some ⟨w.heap.size, 2, none⟩)), (.slice (some ⟨b1, o1, none⟩) m cvb), vu2, vu3, vu4, vu5, vu6, vu7, vu8, vu9, vu10, by simp only [Act.put, xL4, xL5, xL6], hbu, fun _ => rfl, fun _ => rfl, fun h => fu2 (mark_of (by decide) h), fun h => fu3 (mark_of (by decide) h), fun h => fu4 (mark_of (by decide) h), fun h => fu5 (mark_of (by decide) h), fun h => fu6 (mark_of (by decide) h), fun h => fu7 (mark_of (by decide) h), fun h => fu8 (mark_of (by decide) h), fun h => fu9 (mark_of (by decide) h), fun h => fu10 (mark_of (by decide) h)⟩
      ·refine wpOp_shut (by rfl) (fun K hK => ?_)
       simp only [Act.put, xL4, xL5, xL6]
       go_simp
       exact hK.out _ _ ⟨vu0, vu1, (.int .i64 (i : Int)), vu3, vu4, vu5, vu6, vu7, vu8, vu9, vu10, by simp only [Act.put, xL4, xL5, xL6], hbu, fun h => fu0 (mark_of (by decide) h), fun h => fu1 (mark_of (by decide) h), fun _ => rfl, fun h => fu3 (mark_of (by decide) h), fun h => fu4 (mark_of (by decide) h), fun h => fu5 (mark_of (by decide) h), fun h => fu6 (mark_of (by decide) h), fun h => fu7 (mark_of (by decide) h), fun h => fu8 (mark_of (by decide) h), fun h => fu9 (mark_of (by decide) h), fun h => fu10 (mark_of (by decide) h)⟩
      ·have eu1 := fu1 (dep_of 1 hru rfl (by kernel_rfl))
       have eu2 := fu2 (dep_of 2 hru rfl (by kernel_rfl))
       replace eu1 := eu1.symm
       subst eu1
       replace eu2 := eu2.symm
       subst eu2
       refine wpOp_shut (by rfl) (fun K hK => ?_)
       simp only [Act.put, xL4, xL5, xL6]
       go_simp
       exact hK.out _ _ ⟨vu0, (.slice (some ⟨b1, o1, none⟩) m cvb), (.int .i64 (i : Int)), (.pointer (some ⟨b1, o1 + i, none⟩)), vu4, vu5, vu6, vu7, vu8, vu9, vu10, by simp only [Act.put, xL4, xL5, xL6], hbu, fun h => fu0 (mark_of (by decide) h), fun _ => rfl, fun _ => rfl, fun _ => rfl, fun h => fu4 (mark_of (by decide) h), fun h => fu5 (mark_of (by decide) h), fun h => fu6 (mark_of (by decide) h), fun h => fu7 (mark_of (by decide) h), fun h => fu8 (mark_of (by decide) h), fun h => fu9 (mark_of (by decide) h), fun h => fu10 (mark_of (by decide) h)⟩
      ·have eu3 := fu3 (dep_of 3 hru rfl (by kernel_rfl))
       replace eu3 := eu3.symm
       subst eu3
       refine wpOp_shut (by rfl) (fun K hK => ?_)
       simp only [Act.put, xL4, xL5, xL6]
       have z1 := (Y1.below hbu).out
       go_simp
       exact hK.out _ _ ⟨vu0, vu1, vu2, (.pointer (some ⟨b1, o1 + i, none⟩)), (.int .u64 (g i)), vu5, vu6, vu7, vu8, vu9, vu10, by simp only [Act.put, xL4, xL5, xL6], hbu, fun h => fu0 (mark_of (by decide) h), fun h => fu1 (mark_of (by decide) h), fun h => fu2 (mark_of (by decide) h), fun _ => rfl, fun _ => rfl, fun h => fu5 (mark_of (by decide) h), fun h => fu6 (mark_of (by decide) h), fun h => fu7 (mark_of (by decide) h), fun h => fu8 (mark_of (by decide) h), fun h => fu9 (mark_of (by decide) h), fun h => fu10 (mark_of (by decide) h)⟩
      ·refine wpOp_shut (by rfl) (fun K hK => ?_)
       simp only [Act.put, xL4, xL5, xL6]
       go_simp
       exact hK.out _ _ ⟨vu0, vu1, vu2, vu3, vu4, (.pointer (some ⟨(w.heap.size + 1), 2, none⟩)), vu6, vu7, vu8, vu9, vu10, by simp only [Act.put, xL4, xL5, xL6], hbu, fun h => fu0 (mark_of (by decide) h), fun h => fu1 (mark_of (by decide) h), fun h => fu2 (mark_of (by decide) h), fun h => fu3 (mark_of (by decide) h), fun h => fu4 (mark_of (by decide) h), fun _ => rfl, fun h => fu6 (mark_of (by decide) h), fun h => fu7 (mark_of (by decide) h), fun h => fu8 (mark_of (by decide) h), fun h => fu9 (mark_of (by decide) h), fun h => fu10 (mark_of (by decide) h)⟩
      ·have eu5 := fu5 (dep_of 5 hru rfl (by kernel_rfl))
       replace eu5 := eu5.symm
       subst eu5
       refine wpOp_shut (by rfl) (fun K hK => ?_)
       simp only [Act.put, xL4, xL5, xL6]
       obtain ⟨B_0, B_1, B_2, B_3, B_4, B_5⟩ := VBi.below hbu
       go_simp
       exact hK.out _ _ ⟨vu0, vu1, vu2, vu3, vu4, (.pointer (some ⟨(w.heap.size + 1), 2, none⟩)), (.slice (some ⟨b2, o2, none⟩) m cub), vu7, vu8, vu9, vu10, by simp only [Act.put, xL4, xL5, xL6], hbu, fun h => fu0 (mark_of (by decide) h), fun h => fu1 (mark_of (by decide) h), fun h => fu2 (mark_of (by decide) h), fun h => fu3 (mark_of (by decide) h), fun h => fu4 (mark_of (by decide) h), fun _ => rfl, fun _ => rfl, fun h => fu7 (mark_of (by decide) h), fun h => fu8 (mark_of (by decide) h), fun h => fu9 (mark_of (by decide) h), fun h => fu10 (mark_of (by decide) h)⟩
      ·refine wpOp_shut (by rfl) (fun K hK => ?_)
       simp only [Act.put, xL4, xL5, xL6]
       go_simp
       exact hK.out _ _ ⟨vu0, vu1, vu2, vu3, vu4, vu5, vu6, (.int .i64 (i : Int)), vu8, vu9, vu10, by simp only [Act.put, xL4, xL5, xL6], hbu, fun h => fu0 (mark_of (by decide) h), fun h => fu1 (mark_of (by decide) h), fun h => fu2 (mark_of (by decide) h), fun h => fu3 (mark_of (by decide) h), fun h => fu4 (mark_of (by decide) h), fun h => fu5 (mark_of (by decide) h), fun h => fu6 (mark_of (by decide) h), fun _ => rfl, fun h => fu8 (mark_of (by decide) h), fun h => fu9 (mark_of (by decide) h), fun h => fu10 (mark_of (by decide) h)⟩
      ·have eu6 := fu6 (dep_of 6 hru rfl (by kernel_rfl))
       have eu7 := fu7 (dep_of 7 hru rfl (by kernel_rfl))
       replace eu6 := eu6.symm
       subst eu6
       replace eu7 := eu7.symm
       subst eu7
       refine wpOp_shut (by rfl) (fun K hK => ?_)
       simp only [Act.put, xL4, xL5, xL6]
       go_simp
       exact hK.out _ _ ⟨vu0, vu1, vu2, vu3, vu4, vu5, (.slice (some ⟨b2, o2, none⟩) m cub), (.int .i64 (i : Int)), (.pointer (some ⟨b2, o2 + i, none⟩)), vu9, vu10, by simp only [Act.put, xL4, xL5, xL6], hbu, fun h => fu0 (mark_of (by decide) h), fun h => fu1 (mark_of (by decide) h), fun h => fu2 (mark_of (by decide) h), fun h => fu3 (mark_of (by decide) h), fun h => fu4 (mark_of (by decide) h), fun h => fu5 (mark_of (by decide) h), fun _ => rfl, fun _ => rfl, fun _ => rfl, fun h => fu9 (mark_of (by decide) h), fun h => fu10 (mark_of (by decide) h)⟩
      ·have eu8 := fu8 (dep_of 8 hru rfl (by kernel_rfl))
       replace eu8 := eu8.symm
       subst eu8
       refine wpOp_shut (by rfl) (fun K hK => ?_)
       simp only [Act.put, xL4, xL5, xL6]
       have z1 := (Y2.below hbu).out
       go_simp
       exact hK.out _ _ ⟨vu0, vu1, vu2, vu3, vu4, vu5, vu6, vu7, (.pointer (some ⟨b2, o2 + i, none⟩)), (.int .u64 (g i)), vu10, by simp only [Act.put, xL4, xL5, xL6], hbu, fun h => fu0 (mark_of (by decide) h), fun h => fu1 (mark_of (by decide) h), fun h => fu2 (mark_of (by decide) h), fun h => fu3 (mark_of (by decide) h), fun h => fu4 (mark_of (by decide) h), fun h => fu5 (mark_of (by decide) h), fun h => fu6 (mark_of (by decide) h), fun h => fu7 (mark_of (by decide) h), fun _ => rfl, fun _ => rfl, fun h => fu10 (mark_of (by decide) h)⟩
      ·have eu4 := fu4 (dep_of 4 hru rfl (by kernel_rfl))
       have eu9 := fu9 (dep_of 9 hru rfl (by kernel_rfl))
       replace eu4 := eu4.symm
       subst eu4
       replace eu9 := eu9.symm
       subst eu9
       refine wpOp_shut (by rfl) (fun K hK => ?_)
       simp only [Act.put, xL4, xL5, xL6]
       go_simp
       exact hK.out _ _ ⟨vu0, vu1, vu2, vu3, (.int .u64 (g i)), vu5, vu6, vu7, vu8, (.int .u64 (g i)), (.bool false), by simp only [Act.put, xL4, xL5, xL6], hbu, fun h => fu0 (mark_of (by decide) h), fun h => fu1 (mark_of (by decide) h), fun h => fu2 (mark_of (by decide) h), fun h => fu3 (mark_of (by decide) h), fun _ => rfl, fun h => fu5 (mark_of (by decide) h), fun h => fu6 (mark_of (by decide) h), fun h => fu7 (mark_of (by decide) h), fun h => fu8 (mark_of (by decide) h), fun _ => rfl, fun _ => rfl⟩
     rintro au Wu1 ⟨vu0, vu1, vu2, vu3, vu4, vu5, vu6, vu7, vu8, vu9, vu10, rfl, hbu, fu0, fu1, fu2, fu3, fu4, fu5, fu6, fu7, fu8, fu9, fu10⟩
     have eu0 := (fu0 rfl).symm
     subst eu0
     have eu1 := (fu1 rfl).symm
     subst eu1
     have eu2 := (fu2 rfl).symm
     subst eu2
     have eu3 := (fu3 rfl).symm
     subst eu3
     have eu4 := (fu4 rfl).symm
     subst eu4
     have eu5 := (fu5 rfl).symm
     subst eu5
     have eu6 := (fu6 rfl).symm
     subst eu6
     have eu7 := (fu7 rfl).symm
     subst eu7
     have eu8 := (fu8 rfl).symm
     subst eu8
     have eu9 := (fu9 rfl).symm
     subst eu9
     have eu10 := (fu10 rfl).symm
     subst eu10
     clear fu0 fu1 fu2 fu3 fu4 fu5 fu6 fu7 fu8 fu9 fu10
     simp only [Act.put, xL4, xL5, xL6]
     replace VAi := VAi.below hbu
     replace VBi := VBi.below hbu
     replace Y1 := Y1.below hbu
     replace Y2 := Y2.below hbu
     replace BB := BB.trans (hbu.mono BB.size)
     clear hbu
     refine wpAnyH_done (by kernel_rfl) ?_ _
     go_wp2_with fail
     go_roundw
     case rel => exact ⟨i + 1, by omega, by go_num, BB⟩
     case measure => simp [intOf]; omega
    ·obtain rfl : i = m := by omega
     have g1 : ¬ (i : Int) < (i : Int) := by omega
     go_wp2
     go_ret
     exact ⟨rfl, HBW.out.trans (BL.mono HBW.out.size)⟩

end Go.Proofs.YthkamfddbiheoaaGreatDoor

namespace Go.Proofs.YthkamfddbiheoaaGreatDoor
open Go.ChangeShapes Go.WideShapes Go.ChangeAt Go.RowKit
set_option linter.unusedVariables false
set_option linter.unusedSimpArgs false

def NodeV (w : World) (v : Value) (d : Nd) (K : Nat) : Prop := ∃ x0 x1 x2 x3 x4 x5 x6 x7 x8 x9 x10 x11 x12 x13, v = .agg #[x0, x1, x2, x3, x4, x5, x6, x7, x8, x9, x10, x11, x12, x13] ∧ NodeRaw w (fun j => [x0, x1, x2, x3, x4, x5, x6, x7, x8, x9, x10, x11, x12, x13].getD j undef) d K
theorem NodeV.open {w : World} {v : Value} {d : Nd} {K : Nat} (h : NodeV w v d K) : ∃ p1 a1 n1 c1 b1 m1 d1 p2 a2 n2 c2 b2 m2 d2 p3 a3 n3 c3 b3 m3 d3, v = .agg #[.bool d.leaf, .int .i64 d.feat, .bool p1, .slice a1 n1 c1, .slice b1 m1 d1, .int .i64 d.left, .int .i64 d.right, .bool d.miss, .bool p2, .slice a2 n2 c2, .slice b2 m2 d2, .bool p3, .slice a3 n3 c3, .slice b3 m3 d3] ∧ NodeRaw w (fun j => [.bool d.leaf, .int .i64 d.feat, .bool p1, .slice a1 n1 c1, .slice b1 m1 d1, .int .i64 d.left, .int .i64 d.right, .bool d.miss, .bool p2, .slice a2 n2 c2, .slice b2 m2 d2, .bool p3, .slice a3 n3 c3, .slice b3 m3 d3].getD j undef) d K := by
 obtain ⟨x0, x1, x2, x3, x4, x5, x6, x7, x8, x9, x10, x11, x12, x13, rfl, hN⟩ := h
 obtain ⟨e0, e1, ⟨p1, a1, n1, c1, b1, m1, d1, f1, g1, e2, e3, e4, s1⟩, e5, e6, e7, ⟨p2, a2, n2, c2, b2, m2, d2, f2, g2, e8, e9, e10, s2⟩, ⟨p3, a3, n3, c3, b3, m3, d3, f3, g3, e11, e12, e13, s3⟩, i1, i2, i3⟩ := id hN
 have e0 : x0 = .bool d.leaf := e0
 have e1 : x1 = .int .i64 d.feat := e1
 have e2 : x2 = .bool p1 := e2
 have e3 : x3 = .slice a1 n1 c1 := e3
 have e4 : x4 = .slice b1 m1 d1 := e4
 have e5 : x5 = .int .i64 d.left := e5
 have e6 : x6 = .int .i64 d.right := e6
 have e7 : x7 = .bool d.miss := e7
 have e8 : x8 = .bool p2 := e8
 have e9 : x9 = .slice a2 n2 c2 := e9
 have e10 : x10 = .slice b2 m2 d2 := e10
 have e11 : x11 = .bool p3 := e11
 have e12 : x12 = .slice a3 n3 c3 := e12
 have e13 : x13 = .slice b3 m3 d3 := e13
 subst e0 e1 e2 e3 e4 e5 e6 e7 e8 e9 e10 e11 e12 e13
 exact ⟨p1, a1, n1, c1, b1, m1, d1, p2, a2, n2, c2, b2, m2, d2, p3, a3, n3, c3, b3, m3, d3, rfl, hN⟩
theorem V14.put {w : World} {R : Nat} {x0 x1 x2 x3 x4 x5 x6 x7 x8 x9 x10 x11 x12 x13 : Value} (h : V14 w R x0 x1 x2 x3 x4 x5 x6 x7 x8 x9 x10 x11 x12 x13) (u0 u1 u2 u3 u4 u5 u6 u7 u8 u9 u10 u11 u12 u13 : Value) : V14 ((((((((((((((w.setCell ⟨R, 0, none⟩ u0).setCell ⟨R, 1, none⟩ u1).setCell ⟨R, 2, none⟩ u2).setCell ⟨R, 3, none⟩ u3).setCell ⟨R, 4, none⟩ u4).setCell ⟨R, 5, none⟩ u5).setCell ⟨R, 6, none⟩ u6).setCell ⟨R, 7, none⟩ u7).setCell ⟨R, 8, none⟩ u8).setCell ⟨R, 9, none⟩ u9).setCell ⟨R, 10, none⟩ u10).setCell ⟨R, 11, none⟩ u11).setCell ⟨R, 12, none⟩ u12).setCell ⟨R, 13, none⟩ u13) R u0 u1 u2 u3 u4 u5 u6 u7 u8 u9 u10 u11 u12 u13 := by
 obtain ⟨c0, c1, c2, c3, c4, c5, c6, c7, c8, c9, c10, c11, c12, c13⟩ := h
 refine ⟨?_, ?_, ?_, ?_, ?_, ?_, ?_, ?_, ?_, ?_, ?_, ?_, ?_, ?_⟩
 ·exact (cell_set_by (j := 13) (cell_set_by (j := 12) (cell_set_by (j := 11) (cell_set_by (j := 10) (cell_set_by (j := 9) (cell_set_by (j := 8) (cell_set_by (j := 7) (cell_set_by (j := 6) (cell_set_by (j := 5) (cell_set_by (j := 4) (cell_set_by (j := 3) (cell_set_by (j := 2) (cell_set_by (j := 1) (cell_set_at c0) (by omega)) (by omega)) (by omega)) (by omega)) (by omega)) (by omega)) (by omega)) (by omega)) (by omega)) (by omega)) (by omega)) (by omega)) (by omega))
 ·exact (cell_set_by (j := 13) (cell_set_by (j := 12) (cell_set_by (j := 11) (cell_set_by (j := 10) (cell_set_by (j := 9) (cell_set_by (j := 8) (cell_set_by (j := 7) (cell_set_by (j := 6) (cell_set_by (j := 5) (cell_set_by (j := 4) (cell_set_by (j := 3) (cell_set_by (j := 2) (cell_set_at (cell_set_by (j := 0) c1 (by omega))) (by omega)) (by omega)) (by omega)) (by omega)) (by omega)) (by omega)) (by omega)) (by omega)) (by omega)) (by omega)) (by omega)) (by omega))
 ·exact (cell_set_by (j := 13) (cell_set_by (j := 12) (cell_set_by (j := 11) (cell_set_by (j := 10) (cell_set_by (j := 9) (cell_set_by (j := 8) (cell_set_by (j := 7) (cell_set_by (j := 6) (cell_set_by (j := 5) (cell_set_by (j := 4) (cell_set_by (j := 3) (cell_set_at (cell_set_by (j := 1) (cell_set_by (j := 0) c2 (by omega)) (by omega))) (by omega)) (by omega)) (by omega)) (by omega)) (by omega)) (by omega)) (by omega)) (by omega)) (by omega)) (by omega)) (by omega))
 ·exact (cell_set_by (j := 13) (cell_set_by (j := 12) (cell_set_by (j := 11) (cell_set_by (j := 10) (cell_set_by (j := 9) (cell_set_by (j := 8) (cell_set_by (j := 7) (cell_set_by (j := 6) (cell_set_by (j := 5) (cell_set_by (j := 4) (cell_set_at (cell_set_by (j := 2) (cell_set_by (j := 1) (cell_set_by (j := 0) c3 (by omega)) (by omega)) (by omega))) (by omega)) (by omega)) (by omega)) (by omega)) (by omega)) (by omega)) (by omega)) (by omega)) (by omega)) (by omega))
 ·exact (cell_set_by (j := 13) (cell_set_by (j := 12) (cell_set_by (j := 11) (cell_set_by (j := 10) (cell_set_by (j := 9) (cell_set_by (j := 8) (cell_set_by (j := 7) (cell_set_by (j := 6) (cell_set_by (j := 5) (cell_set_at (cell_set_by (j := 3) (cell_set_by (j := 2) (cell_set_by (j := 1) (cell_set_by (j := 0) c4 (by omega)) (by omega)) (by omega)) (by omega))) (by omega)) (by omega)) (by omega)) (by omega)) (by omega)) (by omega)) (by omega)) (by omega)) (by omega))
 ·exact (cell_set_by (j := 13) (cell_set_by (j := 12) (cell_set_by (j := 11) (cell_set_by (j := 10) (cell_set_by (j := 9) (cell_set_by (j := 8) (cell_set_by (j := 7) (cell_set_by (j := 6) (cell_set_at (cell_set_by (j := 4) (cell_set_by (j := 3) (cell_set_by (j := 2) (cell_set_by (j := 1) (cell_set_by (j := 0) c5 (by omega)) (by omega)) (by omega)) (by omega)) (by omega))) (by omega)) (by omega)) (by omega)) (by omega)) (by omega)) (by omega)) (by omega)) (by omega))
 ·exact (cell_set_by (j := 13) (cell_set_by (j := 12) (cell_set_by (j := 11) (cell_set_by (j := 10) (cell_set_by (j := 9) (cell_set_by (j := 8) (cell_set_by (j := 7) (cell_set_at (cell_set_by (j := 5) (cell_set_by (j := 4) (cell_set_by (j := 3) (cell_set_by (j := 2) (cell_set_by (j := 1) (cell_set_by (j := 0) c6 (by omega)) (by omega)) (by omega)) (by omega)) (by omega)) (by omega))) (by omega)) (by omega)) (by omega)) (by omega)) (by omega)) (by omega)) (by omega))
 ·exact (cell_set_by (j := 13) (cell_set_by (j := 12) (cell_set_by (j := 11) (cell_set_by (j := 10) (cell_set_by (j := 9) (cell_set_by (j := 8) (cell_set_at (cell_set_by (j := 6) (cell_set_by (j := 5) (cell_set_by (j := 4) (cell_set_by (j := 3) (cell_set_by (j := 2) (cell_set_by (j := 1) (cell_set_by (j := 0) c7 (by omega)) (by omega)) (by omega)) (by omega)) (by omega)) (by omega)) (by omega))) (by omega)) (by omega)) (by omega)) (by omega)) (by omega)) (by omega))
 ·exact (cell_set_by (j := 13) (cell_set_by (j := 12) (cell_set_by (j := 11) (cell_set_by (j := 10) (cell_set_by (j := 9) (cell_set_at (cell_set_by (j := 7) (cell_set_by (j := 6) (cell_set_by (j := 5) (cell_set_by (j := 4) (cell_set_by (j := 3) (cell_set_by (j := 2) (cell_set_by (j := 1) (cell_set_by (j := 0) c8 (by omega)) (by omega)) (by omega)) (by omega)) (by omega)) (by omega)) (by omega)) (by omega))) (by omega)) (by omega)) (by omega)) (by omega)) (by omega))
 ·exact (cell_set_by (j := 13) (cell_set_by (j := 12) (cell_set_by (j := 11) (cell_set_by (j := 10) (cell_set_at (cell_set_by (j := 8) (cell_set_by (j := 7) (cell_set_by (j := 6) (cell_set_by (j := 5) (cell_set_by (j := 4) (cell_set_by (j := 3) (cell_set_by (j := 2) (cell_set_by (j := 1) (cell_set_by (j := 0) c9 (by omega)) (by omega)) (by omega)) (by omega)) (by omega)) (by omega)) (by omega)) (by omega)) (by omega))) (by omega)) (by omega)) (by omega)) (by omega))
 ·exact (cell_set_by (j := 13) (cell_set_by (j := 12) (cell_set_by (j := 11) (cell_set_at (cell_set_by (j := 9) (cell_set_by (j := 8) (cell_set_by (j := 7) (cell_set_by (j := 6) (cell_set_by (j := 5) (cell_set_by (j := 4) (cell_set_by (j := 3) (cell_set_by (j := 2) (cell_set_by (j := 1) (cell_set_by (j := 0) c10 (by omega)) (by omega)) (by omega)) (by omega)) (by omega)) (by omega)) (by omega)) (by omega)) (by omega)) (by omega))) (by omega)) (by omega)) (by omega))
 ·exact (cell_set_by (j := 13) (cell_set_by (j := 12) (cell_set_at (cell_set_by (j := 10) (cell_set_by (j := 9) (cell_set_by (j := 8) (cell_set_by (j := 7) (cell_set_by (j := 6) (cell_set_by (j := 5) (cell_set_by (j := 4) (cell_set_by (j := 3) (cell_set_by (j := 2) (cell_set_by (j := 1) (cell_set_by (j := 0) c11 (by omega)) (by omega)) (by omega)) (by omega)) (by omega)) (by omega)) (by omega)) (by omega)) (by omega)) (by omega)) (by omega))) (by omega)) (by omega))
 ·exact (cell_set_by (j := 13) (cell_set_at (cell_set_by (j := 11) (cell_set_by (j := 10) (cell_set_by (j := 9) (cell_set_by (j := 8) (cell_set_by (j := 7) (cell_set_by (j := 6) (cell_set_by (j := 5) (cell_set_by (j := 4) (cell_set_by (j := 3) (cell_set_by (j := 2) (cell_set_by (j := 1) (cell_set_by (j := 0) c12 (by omega)) (by omega)) (by omega)) (by omega)) (by omega)) (by omega)) (by omega)) (by omega)) (by omega)) (by omega)) (by omega)) (by omega))) (by omega))
 ·exact (cell_set_at (cell_set_by (j := 12) (cell_set_by (j := 11) (cell_set_by (j := 10) (cell_set_by (j := 9) (cell_set_by (j := 8) (cell_set_by (j := 7) (cell_set_by (j := 6) (cell_set_by (j := 5) (cell_set_by (j := 4) (cell_set_by (j := 3) (cell_set_by (j := 2) (cell_set_by (j := 1) (cell_set_by (j := 0) c13 (by omega)) (by omega)) (by omega)) (by omega)) (by omega)) (by omega)) (by omega)) (by omega)) (by omega)) (by omega)) (by omega)) (by omega)) (by omega)))
theorem V14.putK {w : World} {R : Nat} {x0 x1 x2 x3 x4 x5 x6 x7 x8 x9 x10 x11 x12 x13 : Value} (h : V14 w R x0 x1 x2 x3 x4 x5 x6 x7 x8 x9 x10 x11 x12 x13) (l0 : ¬ IsLimb x0) (l1 : ¬ IsLimb x1) (l2 : ¬ IsLimb x2) (l3 : ¬ IsLimb x3) (l4 : ¬ IsLimb x4) (l5 : ¬ IsLimb x5) (l6 : ¬ IsLimb x6) (l7 : ¬ IsLimb x7) (l8 : ¬ IsLimb x8) (l9 : ¬ IsLimb x9) (l10 : ¬ IsLimb x10) (l11 : ¬ IsLimb x11) (l12 : ¬ IsLimb x12) (l13 : ¬ IsLimb x13) (u0 u1 u2 u3 u4 u5 u6 u7 u8 u9 u10 u11 u12 u13 : Value) : KeepQ IsLimb w ((((((((((((((w.setCell ⟨R, 0, none⟩ u0).setCell ⟨R, 1, none⟩ u1).setCell ⟨R, 2, none⟩ u2).setCell ⟨R, 3, none⟩ u3).setCell ⟨R, 4, none⟩ u4).setCell ⟨R, 5, none⟩ u5).setCell ⟨R, 6, none⟩ u6).setCell ⟨R, 7, none⟩ u7).setCell ⟨R, 8, none⟩ u8).setCell ⟨R, 9, none⟩ u9).setCell ⟨R, 10, none⟩ u10).setCell ⟨R, 11, none⟩ u11).setCell ⟨R, 12, none⟩ u12).setCell ⟨R, 13, none⟩ u13) := by
 obtain ⟨c0, c1, c2, c3, c4, c5, c6, c7, c8, c9, c10, c11, c12, c13⟩ := h
 exact ((((((((((((((keepL_set c0 l0 u0).trans (keepL_set (cell_set_by (j := 0) c1 (by omega)) l1 u1)).trans (keepL_set (cell_set_by (j := 1) (cell_set_by (j := 0) c2 (by omega)) (by omega)) l2 u2)).trans (keepL_set (cell_set_by (j := 2) (cell_set_by (j := 1) (cell_set_by (j := 0) c3 (by omega)) (by omega)) (by omega)) l3 u3)).trans (keepL_set (cell_set_by (j := 3) (cell_set_by (j := 2) (cell_set_by (j := 1) (cell_set_by (j := 0) c4 (by omega)) (by omega)) (by omega)) (by omega)) l4 u4)).trans (keepL_set (cell_set_by (j := 4) (cell_set_by (j := 3) (cell_set_by (j := 2) (cell_set_by (j := 1) (cell_set_by (j := 0) c5 (by omega)) (by omega)) (by omega)) (by omega)) (by omega)) l5 u5)).trans (keepL_set (cell_set_by (j := 5) (cell_set_by (j := 4) (cell_set_by (j := 3) (cell_set_by (j := 2) (cell_set_by (j := 1) (cell_set_by (j := 0) c6 (by omega)) (by omega)) (by omega)) (by omega)) (by omega)) (by omega)) l6 u6)).trans (keepL_set (cell_set_by (j := 6) (cell_set_by (j := 5) (cell_set_by (j := 4) (cell_set_by (j := 3) (cell_set_by (j := 2) (cell_set_by (j := 1) (cell_set_by (j := 0) c7 (by omega)) (by omega)) (by omega)) (by omega)) (by omega)) (by omega)) (by omega)) l7 u7)).trans (keepL_set (cell_set_by (j := 7) (cell_set_by (j := 6) (cell_set_by (j := 5) (cell_set_by (j := 4) (cell_set_by (j := 3) (cell_set_by (j := 2) (cell_set_by (j := 1) (cell_set_by (j := 0) c8 (by omega)) (by omega)) (by omega)) (by omega)) (by omega)) (by omega)) (by omega)) (by omega)) l8 u8)).trans (keepL_set (cell_set_by (j := 8) (cell_set_by (j := 7) (cell_set_by (j := 6) (cell_set_by (j := 5) (cell_set_by (j := 4) (cell_set_by (j := 3) (cell_set_by (j := 2) (cell_set_by (j := 1) (cell_set_by (j := 0) c9 (by omega)) (by omega)) (by omega)) (by omega)) (by omega)) (by omega)) (by omega)) (by omega)) (by omega)) l9 u9)).trans (keepL_set (cell_set_by (j := 9) (cell_set_by (j := 8) (cell_set_by (j := 7) (cell_set_by (j := 6) (cell_set_by (j := 5) (cell_set_by (j := 4) (cell_set_by (j := 3) (cell_set_by (j := 2) (cell_set_by (j := 1) (cell_set_by (j := 0) c10 (by omega)) (by omega)) (by omega)) (by omega)) (by omega)) (by omega)) (by omega)) (by omega)) (by omega)) (by omega)) l10 u10)).trans (keepL_set (cell_set_by (j := 10) (cell_set_by (j := 9) (cell_set_by (j := 8) (cell_set_by (j := 7) (cell_set_by (j := 6) (cell_set_by (j := 5) (cell_set_by (j := 4) (cell_set_by (j := 3) (cell_set_by (j := 2) (cell_set_by (j := 1) (cell_set_by (j := 0) c11 (by omega)) (by omega)) (by omega)) (by omega)) (by omega)) (by omega)) (by omega)) (by omega)) (by omega)) (by omega)) (by omega)) l11 u11)).trans (keepL_set (cell_set_by (j := 11) (cell_set_by (j := 10) (cell_set_by (j := 9) (cell_set_by (j := 8) (cell_set_by (j := 7) (cell_set_by (j := 6) (cell_set_by (j := 5) (cell_set_by (j := 4) (cell_set_by (j := 3) (cell_set_by (j := 2) (cell_set_by (j := 1) (cell_set_by (j := 0) c12 (by omega)) (by omega)) (by omega)) (by omega)) (by omega)) (by omega)) (by omega)) (by omega)) (by omega)) (by omega)) (by omega)) (by omega)) l12 u12)).trans (keepL_set (cell_set_by (j := 12) (cell_set_by (j := 11) (cell_set_by (j := 10) (cell_set_by (j := 9) (cell_set_by (j := 8) (cell_set_by (j := 7) (cell_set_by (j := 6) (cell_set_by (j := 5) (cell_set_by (j := 4) (cell_set_by (j := 3) (cell_set_by (j := 2) (cell_set_by (j := 1) (cell_set_by (j := 0) c13 (by omega)) (by omega)) (by omega)) (by omega)) (by omega)) (by omega)) (by omega)) (by omega)) (by omega)) (by omega)) (by omega)) (by omega)) (by omega)) l13 u13))

end Go.Proofs.YthkamfddbiheoaaGreatDoor

namespace Go.Proofs.YthkamfddbiheoaaGreatDoor
open Go.RowKit
set_option linter.unusedVariables false

theorem V14.keep2 {w : World} {R : Nat} {x0 x1 x2 x3 x4 x5 x6 x7 x8 x9 x10 x11 x12 x13 : Value} (h : V14 w R x0 x1 x2 x3 x4 x5 x6 x7 x8 x9 x10 x11 x12 x13) (h0 : ¬ IsLimb x2) (h1 : ¬ IsLimb x3) (h2 : ¬ IsLimb x4) (u0 u1 u2 : Value) : KeepQ IsLimb w (((w.setCell ⟨R, 2, none⟩ u0).setCell ⟨R, 3, none⟩ u1).setCell ⟨R, 4, none⟩ u2) :=
 ((keepL_set h.c2 h0 u0).trans (keepL_set (cell_set_by h.c3 (by omega)) h1 u1)).trans (keepL_set (cell_set_by (cell_set_by h.c4 (by omega)) (by omega)) h2 u2)
theorem soft_below {w w' : World} {R : Nat} (h : ∀ j, w.frozen? ⟨R, j, none⟩ = false) (hR : R < w.heap.size) (hb : Below w.heap.size w w') : ∀ j, w'.frozen? ⟨R, j, none⟩ = false := fun j => (hb.frozen (p := ⟨R, j, none⟩) hR).trans (h j)

theorem NOwn.apart {B : Nat} {w : World} {v : Value} {n : Nat} {t : Nat → Nd} {L : Nat} (h : NOwn B w v n t L) {a : Addr} (ha : ∀ g, v.ownBlock = some g → g ≠ a.block) (u : Value) (hk : KeepQ IsLimb w (w.setCell a u)) : NOwn B (w.setCell a u) v n t L := by
 refine h.kept (grown_at w a u) hk ?_
 cases e : v.ownBlock with
 | none => exact .inl rfl
 | some g => exact .inr (fun e2 => ha g e (by injection e2))
theorem NOwn.blocks {B : Nat} {w : World} {v : Value} {n : Nat} {t : Nat → Nd} {L : Nat} (h : NOwn B w v n t L) : ∀ g, v.ownBlock = some g → B ≤ g ∧ g < w.heap.size := by
 obtain ⟨cs, h1, _⟩ := h
 exact World.ownsRow.lt h1
/-- What the append of a node needs, and what it leaves. -/
theorem NOwn.parts {B : Nat} {w : World} {v : Value} {n : Nat} {t : Nat → Nd} {L : Nat} (h : NOwn B w v n t L) : ∃ cs : List Value, cs.length = n * 14 ∧ w.ownsRow B 46 14 v n cs ∧ (∀ g, v.ownBlock = some g → PureB IsLimb w g) ∧ ∀ i, i < n → NodeAt w (fun j => cs.getD (i * 14 + j) undef) (t i) L := by
 obtain ⟨cs, h1, h2, h3⟩ := h
 exact ⟨cs, h1.1, h1, h2, h3⟩
theorem MOwn.parts {B : Nat} {w : World} {v : Value} {k : Nat} {N : Nat → Nat} {T : Nat → Nat → Nd} {L : Nat} (h : MOwn B w v k N T L) : ∃ us : List Value, w.ownsRow B 38 1 v k us ∧ (∀ g, v.ownBlock = some g → PureB IsLimb w g) := by
 obtain ⟨us, h1, h2, _⟩ := h
 exact ⟨us, h1, h2⟩
theorem MOwn.blocks {B : Nat} {w : World} {v : Value} {k : Nat} {N : Nat → Nat} {T : Nat → Nat → Nd} {L : Nat} (h : MOwn B w v k N T L) : ∀ g, v.ownBlock = some g → B ≤ g ∧ g < w.heap.size := by
 obtain ⟨cs, h1, _⟩ := h
 exact World.ownsRow.lt h1
theorem MOwn.le {B B' : Nat} {w : World} {v : Value} {k : Nat} {N : Nat → Nat} {T : Nat → Nat → Nd} {L : Nat} (h : MOwn B w v k N T L) (hb : B' ≤ B) : MOwn B' w v k N T L := by
 obtain ⟨us, h1, h2, h3⟩ := h
 exact ⟨us, owns_le h1 hb, h2, fun i hi => let ⟨u, a, b⟩ := h3 i hi; ⟨u, a, b.le hb⟩⟩
theorem MOwn.below {B : Nat} {w w' : World} {v : Value} {k : Nat} {N : Nat → Nat} {T : Nat → Nat → Nd} {L : Nat} (h : MOwn B w v k N T L) (hb : Below w.heap.size w w') : MOwn B w' v k N T L := h.later hb

end Go.Proofs.YthkamfddbiheoaaGreatDoor

namespace Go.Proofs.YthkamfddbiheoaaGreatDoor
open Go.RowKit
set_option linter.unusedVariables false
set_option linter.unusedSimpArgs false

/-- A node's variable that may be written. -/
def VS14 (w : World) (R : Nat) (x0 x1 x2 x3 x4 x5 x6 x7 x8 x9 x10 x11 x12 x13 : Value) : Prop := V14 w R x0 x1 x2 x3 x4 x5 x6 x7 x8 x9 x10 x11 x12 x13 ∧ ∀ j, w.frozen? ⟨R, j, none⟩ = false
theorem VS14.below {w w' : World} {R : Nat} {x0 x1 x2 x3 x4 x5 x6 x7 x8 x9 x10 x11 x12 x13 : Value} (h : VS14 w R x0 x1 x2 x3 x4 x5 x6 x7 x8 x9 x10 x11 x12 x13) (hb : Below w.heap.size w w') : VS14 w' R x0 x1 x2 x3 x4 x5 x6 x7 x8 x9 x10 x11 x12 x13 := ⟨h.1.below hb, soft_below h.2 h.1.lt hb⟩
/-- It is set. -/
def put14 (w : World) (R : Nat) (u0 u1 u2 u3 u4 u5 u6 u7 u8 u9 u10 u11 u12 u13 : Value) : World := (((((((((((((w.setCell ⟨R, 0, none⟩ u0).setCell ⟨R, 1, none⟩ u1).setCell ⟨R, 2, none⟩ u2).setCell ⟨R, 3, none⟩ u3).setCell ⟨R, 4, none⟩ u4).setCell ⟨R, 5, none⟩ u5).setCell ⟨R, 6, none⟩ u6).setCell ⟨R, 7, none⟩ u7).setCell ⟨R, 8, none⟩ u8).setCell ⟨R, 9, none⟩ u9).setCell ⟨R, 10, none⟩ u10).setCell ⟨R, 11, none⟩ u11).setCell ⟨R, 12, none⟩ u12).setCell ⟨R, 13, none⟩ u13
theorem put14_below {B : Nat} {a w : World} {R : Nat} (h : Below B a w) (hR : B ≤ R) (u0 u1 u2 u3 u4 u5 u6 u7 u8 u9 u10 u11 u12 u13 : Value) : Below B a (put14 w R u0 u1 u2 u3 u4 u5 u6 u7 u8 u9 u10 u11 u12 u13) := (((((((((((((h.setCell hR _).setCell hR _).setCell hR _).setCell hR _).setCell hR _).setCell hR _).setCell hR _).setCell hR _).setCell hR _).setCell hR _).setCell hR _).setCell hR _).setCell hR _).setCell hR _

/-- Where a node does not fit; does a tree, does a model fit? -/
def badF (t : Nat → Nd) (i : Nat) : Bool := !(decide (0 ≤ (t i).feat ∧ (t i).feat ≤ 64) && decide (0 ≤ (t i).left ∧ (t i).left ≤ 255) && decide (0 ≤ (t i).right ∧ (t i).right ≤ 255))
def tfit (t : Nat → Nd) (n : Nat) : Bool := decide (1 ≤ n ∧ n ≤ 255) && (fb (badF t) n).isNone
def mfit (F : Int) (k : Nat) (N : Nat → Nat) (T : Nat → Nat → Nd) : Bool := decide (0 ≤ F ∧ F ≤ 64) && decide (k ≤ 64) && (fb (fun i => !tfit (T i) (N i)) k).isNone
theorem tfit_no {t : Nat → Nd} {n i : Nat} (hi : i < n) (h : ∀ j, j < i → badF t j = false) (hp : badF t i = true) : tfit t n = false := by
 unfold tfit
 rw [fb_some hi h hp]
 simp
theorem tfit_yes {t : Nat → Nd} {n : Nat} (hn : 1 ≤ n ∧ n ≤ 255) (h : ∀ j, j < n → badF t j = false) : tfit t n = true := by
 unfold tfit
 rw [fb_none h, decide_eq_true hn]
 rfl
theorem tfit_len {t : Nat → Nd} {n : Nat} (hn : ¬ (1 ≤ n ∧ n ≤ 255)) : tfit t n = false := by
 unfold tfit
 rw [decide_eq_false hn]
 rfl
theorem mfit_no {F : Int} {k : Nat} {N : Nat → Nat} {T : Nat → Nat → Nd} {i : Nat} (hi : i < k) (h : ∀ j, j < i → tfit (T j) (N j) = true) (hp : tfit (T i) (N i) = false) : mfit F k N T = false := by
 unfold mfit
 rw [fb_some (p := fun i => !tfit (T i) (N i)) hi (fun j hj => by simp [h j hj]) (by simp [hp])]
 simp
theorem mfit_yes {F : Int} {k : Nat} {N : Nat → Nat} {T : Nat → Nat → Nd} (hF : 0 ≤ F ∧ F ≤ 64) (hk : k ≤ 64) (h : ∀ j, j < k → tfit (T j) (N j) = true) : mfit F k N T = true := by
 unfold mfit
 rw [fb_none (p := fun i => !tfit (T i) (N i)) (fun j hj => by simp [h j hj]), decide_eq_true hF, decide_eq_true hk]
 rfl
theorem mfit_is {F : Int} {k : Nat} {N : Nat → Nat} {T : Nat → Nat → Nd} (h : mfit F k N T = true) : 0 ≤ F ∧ F ≤ 64 ∧ k ≤ 64 ∧ ∀ i, i < k → 1 ≤ N i ∧ N i ≤ 255 := by
 unfold mfit at h
 simp only [Bool.and_eq_true, decide_eq_true_eq] at h
 refine ⟨h.1.1.1, h.1.1.2, h.1.2, fun i hi => ?_⟩
 have := fb_is (p := fun i => !tfit (T i) (N i)) (n := k) (by cases e : fb (fun i => !tfit (T i) (N i)) k with | none => rfl | some j => rw [e] at h; simp at h) i hi
 simp at this
 unfold tfit at this
 simp only [Bool.and_eq_true, decide_eq_true_eq] at this
 exact this.1


set_option maxRecDepth 100000 in
set_option maxHeartbeats 8000000 in
theorem treeFits_at (v : Value) (n : Nat) (t : Nat → Nd) (L : Nat) (w : World) (hv : TRow w v n t L) :
  Calls Tryz.prog 41 #[v] w fun e w' => e = .returned (.bool (tfit t n)) ∧ Below w.heap.size w w' := by
 obtain ⟨ao, c, rfl, hnc, hc63⟩ := hv.open
 have BB : Below w.heap.size w w := Below.refl _ _
 go_enter Tryz.func41, Tryz.ntmps41
 go_wp2_with fail
 refine (within_at _ _ _ _).mono ?_
 rintro e wx ⟨rfl, hwx⟩
 replace hwx := hwx.symm
 subst hwx
 by_cases hn : 1 ≤ n ∧ n ≤ 255
 ·have hni : (1 : Int) ≤ (n : Int) ∧ (n : Int) ≤ 255 := by omega
  rw [decide_eq_true hni]
  go_wp2
  go_loopw [11] (fun vi wr => ∃ i : Nat, i ≤ n ∧ vi = .int .i64 (i : Int) ∧ Hid (∀ j, j < i → badF t j = false) ∧ Below w.heap.size w wr) (fun vi _ => n - (intOf vi).toNat)
  case atStart => exact ⟨0, by omega, rfl, fun j hj => by omega, BB⟩
  case round =>
   clear BB
   obtain ⟨i, hi, rfl, HB, BB⟩ := hrel
   by_cases hlt : i < n
   ·have g1 : (i : Int) < (n : Int) := by omega
    have g0 : (0 : Int) ≤ (i : Int) := by omega
    have hv1 := hv.below BB
    obtain ⟨b, off, cc, p1, a1, n1, c1, b1, m1, d1, p2, a2, n2, c2, b2, m2, d2, p3, a3, n3, c3, b3, m3, d3, hvv, hcc, hc6, NN, r1, r2, r3, i1, i2, i3⟩ := hv1.at hlt
    cases hvv
    clear hv1
    obtain ⟨N_0, N_1, N_2, N_3, N_4, N_5, N_6, N_7, N_8, N_9, N_10, N_11, N_12, N_13⟩ := id NN
    obtain ⟨W1, hW1, hS1, hL1, VN, FN⟩ := V14.lay wr 46 (.bool (t i).leaf) (.int .i64 (t i).feat) (.bool p1) (.slice a1 n1 c1) (.slice b1 m1 d1) (.int .i64 (t i).left) (.int .i64 (t i).right) (.bool (t i).miss) (.bool p2) (.slice a2 n2 c2) (.slice b2 m2 d2) (.bool p3) (.slice a3 n3 c3) (.slice b3 m3 d3)
    replace BB := BB.trans (hL1.mono BB.size)
    clear hL1
    obtain ⟨V_0, V_1, V_2, V_3, V_4, V_5, V_6, V_7, V_8, V_9, V_10, V_11, V_12, V_13⟩ := id VN
    rw [hW1] at V_0 V_1 V_2 V_3 V_4 V_5 V_6 V_7 V_8 V_9 V_10 V_11 V_12 V_13
    go_wp2_with fail
    clear V_0 V_1 V_2 V_3 V_4 V_5 V_6 V_7 V_8 V_9 V_10 V_11 V_12 V_13
    clear N_0 N_1 N_2 N_3 N_4 N_5 N_6 N_7 N_8 N_9 N_10 N_11 N_12 N_13
    rw [← hW1]
    generalize wr.heap.size = R1 at *
    clear hW1 hS1
    refine (within_at _ _ _ _).mono ?_
    rintro e wx ⟨rfl, hwx⟩
    replace hwx := hwx.symm
    subst hwx
    have HP : Hid (badF t i = !(decide (0 ≤ (t i).feat ∧ (t i).feat ≤ 64) && decide (0 ≤ (t i).left ∧ (t i).left ≤ 255) && decide (0 ≤ (t i).right ∧ (t i).right ≤ 255))) := rfl
    by_cases h1 : 0 ≤ (t i).feat ∧ (t i).feat ≤ 64
    ·rw [decide_eq_true h1]
     obtain ⟨V_0, V_1, V_2, V_3, V_4, V_5, V_6, V_7, V_8, V_9, V_10, V_11, V_12, V_13⟩ := id VN
     go_wp2_with fail
     clear V_0 V_1 V_2 V_3 V_4 V_5 V_6 V_7 V_8 V_9 V_10 V_11 V_12 V_13
     refine (within_at _ _ _ _).mono ?_
     rintro e wx ⟨rfl, hwx⟩
     replace hwx := hwx.symm
     subst hwx
     by_cases h2 : 0 ≤ (t i).left ∧ (t i).left ≤ 255
     ·rw [decide_eq_true h2]
      obtain ⟨V_0, V_1, V_2, V_3, V_4, V_5, V_6, V_7, V_8, V_9, V_10, V_11, V_12, V_13⟩ := id VN
      go_wp2_with fail
      clear V_0 V_1 V_2 V_3 V_4 V_5 V_6 V_7 V_8 V_9 V_10 V_11 V_12 V_13
      refine (within_at _ _ _ _).mono ?_
      rintro e wx ⟨rfl, hwx⟩
      replace hwx := hwx.symm
      subst hwx
      by_cases h3 : 0 ≤ (t i).right ∧ (t i).right ≤ 255
      ·rw [decide_eq_true h3]
       have HB2 : Hid (∀ j, j < i + 1 → badF t j = false) := fun j hj => by
        by_cases e : j = i
        ·subst e; rw [HP.out]; simp [h1, h2, h3]
        ·exact HB.out j (by omega)
       clear HB HP
       go_wp2
       go_roundw
       case rel => exact ⟨i + 1, by omega, by go_num, HB2, BB⟩
       case measure => simp [intOf]; omega
      ·rw [decide_eq_false h3]
       go_wp2
       go_ret
       exact ⟨ret_bool (a := false) (tfit_no hlt HB.out (by rw [HP.out, decide_eq_false h3]; simp)).symm, BB⟩
     ·rw [decide_eq_false h2]
      go_wp2
      go_ret
      exact ⟨ret_bool (a := false) (tfit_no hlt HB.out (by rw [HP.out, decide_eq_false h2]; simp)).symm, BB⟩
    ·rw [decide_eq_false h1]
     go_wp2
     go_ret
     exact ⟨ret_bool (a := false) (tfit_no hlt HB.out (by rw [HP.out, decide_eq_false h1]; simp)).symm, BB⟩
   ·obtain rfl : i = n := by omega
    have g1 : ¬ (i : Int) < (i : Int) := by omega
    go_wp2
    go_ret
    exact ⟨ret_bool (a := true) (tfit_yes hn HB.out).symm, BB⟩
 ·have hni : ¬ ((1 : Int) ≤ (n : Int) ∧ (n : Int) ≤ 255) := by omega
  rw [decide_eq_false hni]
  go_wp2
  go_ret
  exact ⟨ret_bool (a := false) (tfit_len hn).symm, BB⟩


set_option maxRecDepth 100000 in
set_option maxHeartbeats 8000000 in
theorem fits_at (F : Int) (v : Value) (k : Nat) (N : Nat → Nat) (T : Nat → Nat → Nd) (L : Nat) (w : World) (hv : MRow w v k N T L) :
  Calls Tryz.prog 19 #[.agg #[.int .i64 F, v]] w fun e w' => e = .returned (.bool (mfit F k N T)) ∧ Below w.heap.size w w' := by
 obtain ⟨ao, c, rfl, hnc, hc63⟩ := hv.open
 have BB : Below w.heap.size w w := Below.refl _ _
 obtain ⟨Wb0, hW0, hS0, hL0, VM⟩ := V2.lay w 24 (.int .i64 F) (.slice ao k c)
 replace hv := hv.below hL0
 replace BB := BB.trans (hL0.mono BB.size)
 clear hL0
 go_enter Tryz.func19, Tryz.ntmps19
 go_wp2_with fail
 rw [← hW0]
 clear hW0 hS0
 have hv0 := hv
 clear hv
 obtain ⟨VM_0, VM_1, VM_2, VM_3⟩ := id VM
 refine (within_at _ _ _ _).mono ?_
 rintro e wx ⟨rfl, hwx⟩
 replace hwx := hwx.symm
 subst hwx
 by_cases hF : 0 ≤ F ∧ F ≤ 64
 ·rw [decide_eq_true hF]
  go_wp2_with fail
  refine (within_at _ _ _ _).mono ?_
  rintro e wx ⟨rfl, hwx⟩
  replace hwx := hwx.symm
  subst hwx
  by_cases hk : k ≤ 64
  ·have hki : (0 : Int) ≤ (k : Int) ∧ (k : Int) ≤ 64 := by omega
   rw [decide_eq_true hki]
   go_wp2
   clear VM_0 VM_1 VM_2 VM_3
   go_loopw [19] (fun vi wr => ∃ i : Nat, i ≤ k ∧ vi = .int .i64 (i : Int) ∧ Hid (∀ j, j < i → tfit (T j) (N j) = true) ∧ Below Wb0.heap.size Wb0 wr) (fun vi _ => k - (intOf vi).toNat)
   case atStart => exact ⟨0, by omega, rfl, fun j hj => by omega, Below.refl _ _⟩
   case round =>
    obtain ⟨i, hi, rfl, HB, BL⟩ := hrel
    by_cases hlt : i < k
    ·have g1 : (i : Int) < (k : Int) := by omega
     have g0 : (0 : Int) ≤ (i : Int) := by omega
     obtain ⟨b, off, cc, a, d, hvv, hcc, XC, TR⟩ := (hv0.below BL).at hlt
     cases hvv
     go_wp2_with fail
     refine (treeFits_at _ (N i) (T i) L _ TR).mono ?_
     rintro e w1 ⟨rfl, b1⟩
     replace BL := BL.trans (b1.mono BL.size)
     clear b1 XC
     obtain ⟨fi, hfi⟩ : ∃ fi, tfit (T i) (N i) = fi := ⟨_, rfl⟩
     have HFI : Hid (tfit (T i) (N i) = fi) := hfi
     rw [hfi]
     clear hfi
     cases fi
     ·go_wp2
      go_ret
      exact ⟨ret_bool (a := false) (mfit_no hlt HB.out HFI.out).symm, BB.trans (BL.mono BB.size)⟩
     ·have HB2 : Hid (∀ j, j < i + 1 → tfit (T j) (N j) = true) := fun j hj => by
       by_cases e : j = i
       ·subst e; exact HFI.out
       ·exact HB.out j (by omega)
      clear HB HFI
      go_wp2
      go_roundw
      case rel => exact ⟨i + 1, by omega, by go_num, HB2, BL⟩
      case measure => simp [intOf]; omega
    ·obtain rfl : i = k := by omega
     have g1 : ¬ (i : Int) < (i : Int) := by omega
     go_wp2
     go_ret
     exact ⟨ret_bool (a := true) (mfit_yes hF hk HB.out).symm, BB.trans (BL.mono BB.size)⟩
  ·have hki : ¬ ((0 : Int) ≤ (k : Int) ∧ (k : Int) ≤ 64) := by omega
   rw [decide_eq_false hki]
   go_wp2
   go_ret
   exact ⟨ret_bool (a := false) (by unfold mfit; rw [decide_eq_false hk]; simp), BB⟩
 ·rw [decide_eq_false hF]
  go_wp2
  go_ret
  exact ⟨ret_bool (a := false) (by unfold mfit; rw [decide_eq_false hF]; simp), BB⟩

/-- The fault at the first place of which p holds. -/
def nfV (p : Nat → Bool) (n : Nat) (e : Int) : Value := fltV ((fb p n).map (fun i => (e, 0, i)))
def rlV (F : Int) (t : Nat → Nd) (n r : Nat) : Value := fltV ((rl F t n r).map (fun x => (x.1, 0, x.2)))
theorem nfV_some {p : Nat → Bool} {n i : Nat} {e : Int} (hi : i < n) (h : ∀ j, j < i → p j = false) (hp : p i = true) : nfV p n e = .agg #[.int .i64 e, .int .i64 0, .int .i64 0, .int .i64 (i : Int)] := by
 unfold nfV
 rw [fb_some hi h hp]
 rfl
theorem nfV_none {p : Nat → Bool} {n : Nat} {e : Int} (h : ∀ j, j < n → p j = false) : nfV p n e = .agg #[.int .i64 0, .int .i64 0, .int .i64 0, .int .i64 0] := by
 unfold nfV
 rw [fb_none h]
 rfl
theorem nfV_congr {p q : Nat → Bool} {n : Nat} {e : Int} (h : ∀ j, j < n → p j = q j) : nfV p n e = nfV q n e := by
 unfold nfV
 rw [fb_congr h]
theorem rlV0 (F : Int) (t : Nat → Nd) (n : Nat) : rlV F t n 0 = nfV (bad0 F t n) n 8 := by
 unfold rlV nfV
 show fltV ((Option.map (fun i => ((8 : Int), i)) (fb (bad0 F t n) n)).map _) = _
 rw [Option.map_map]
 rfl
theorem rlV2 (F : Int) (t : Nat → Nd) (n : Nat) : rlV F t n 2 = nfV (bad3 t) n 12 := by
 unfold rlV nfV
 show fltV ((Option.map (fun i => ((12 : Int), i)) (fb (bad3 t) n)).map _) = _
 rw [Option.map_map]
 rfl
theorem rlV3 (F : Int) (t : Nat → Nd) (n : Nat) : rlV F t n 3 = nfV (bad4 t) n 13 := by
 unfold rlV nfV
 show fltV ((Option.map (fun i => ((13 : Int), i)) (fb (bad4 t) n)).map _) = _
 rw [Option.map_map]
 rfl
theorem rlV1 (F : Int) (t : Nat → Nd) (n : Nat) : rlV F t n 1 = match fb (bad1 t n) n with
  | some _ => nfV (bad1 t n) n 11
  | none => nfV (bad2 t n) n 11 := by
 unfold rlV nfV
 show fltV ((Option.map (fun i => ((11 : Int), i)) ((fb (bad1 t n) n).or (fb (bad2 t n) n))).map _) = _
 rw [Option.map_map]
 cases e : fb (bad1 t n) n with
 | none => rfl
 | some i => rfl
def bad5 (f : Nat) (z : Nat → Int) (i : Nat) : Bool := decide (f ≤ i) && decide (z i ≠ 1)


set_option maxRecDepth 100000 in
set_option maxHeartbeats 8000000 in
theorem hasCovers_at (v : Value) (n : Nat) (t : Nat → Nd) (F : Int) (L : Nat) (w : World) (hv : TRow w v n t L) (hL : 1 ≤ L) (hLM : L ≤ 100000) :
  Calls Tryz.prog 93 #[v, .int .i64 F] w fun e w' => e = .returned (rlV F t n 2) ∧ Below w.heap.size w w' := by
 obtain ⟨ao, c, rfl, hnc, hc63⟩ := hv.open
 have BB : Below w.heap.size w w := Below.refl _ _
 obtain ⟨Wb0, hW0, hS0, hL0, VR⟩ := V4.lay w 31 (.int .i64 0) (.int .i64 0) (.int .i64 0) (.int .i64 0)
 replace hv := hv.below hL0
 replace BB := BB.trans (hL0.mono BB.size)
 clear hL0
 go_enter Tryz.func93, Tryz.ntmps93
 go_wp2
 rw [← hW0]
 clear hW0 hS0
 have hv0 := hv
 have VR0 := VR
 have BB0 : Hid (Below w.heap.size w Wb0) := BB
 clear hv VR BB
 go_loopw [9] (fun vi wr => ∃ i : Nat, i ≤ n ∧ vi = .int .i64 (i : Int) ∧ Hid (∀ j, j < i → bad3 t j = false) ∧ Below Wb0.heap.size Wb0 wr) (fun vi _ => n - (intOf vi).toNat)
 case atStart => exact ⟨0, by omega, rfl, fun j hj => by omega, Below.refl _ _⟩
 case round =>
  obtain ⟨i, hi, rfl, HB, BL⟩ := hrel
  have VR := VR0.below BL
  have BB := BB0.out.trans (BL.mono BB0.out.size)
  by_cases hlt : i < n
  ·have g1 : (i : Int) < (n : Int) := by omega
   have g0 : (0 : Int) ≤ (i : Int) := by omega
   have hv1 := hv0.below BL
   obtain ⟨b, off, cc, p1, a1, n1, c1, b1, m1, d1, p2, a2, n2, c2, b2, m2, d2, p3, a3, n3, c3, b3, m3, d3, hvv, hcc, hc6, NN, r1, r2, r3, i1, i2, i3⟩ := hv1.at hlt
   cases hvv
   clear hv1
   have BLR := BL
   clear BL
   obtain ⟨N_0, N_1, N_2, N_3, N_4, N_5, N_6, N_7, N_8, N_9, N_10, N_11, N_12, N_13⟩ := id NN
   obtain ⟨W1, hW1, hS1, hL1, VN, FN⟩ := V14.lay wr 46 (.bool (t i).leaf) (.int .i64 (t i).feat) (.bool p1) (.slice a1 n1 c1) (.slice b1 m1 d1) (.int .i64 (t i).left) (.int .i64 (t i).right) (.bool (t i).miss) (.bool p2) (.slice a2 n2 c2) (.slice b2 m2 d2) (.bool p3) (.slice a3 n3 c3) (.slice b3 m3 d3)
   replace r3 := r3.below hL1
   replace VR := VR.below hL1
   replace BLR := BLR.trans (hL1.mono BLR.size)
   replace BB := BB.trans (hL1.mono BB.size)
   clear hL1
   obtain ⟨V_0, V_1, V_2, V_3, V_4, V_5, V_6, V_7, V_8, V_9, V_10, V_11, V_12, V_13⟩ := id VN
   rw [hW1] at V_0 V_1 V_2 V_3 V_4 V_5 V_6 V_7 V_8 V_9 V_10 V_11 V_12 V_13
   go_wp2_with fail
   clear V_0 V_1 V_2 V_3 V_4 V_5 V_6 V_7 V_8 V_9 V_10 V_11 V_12 V_13
   clear N_0 N_1 N_2 N_3 N_4 N_5 N_6 N_7 N_8 N_9 N_10 N_11 N_12 N_13
   rw [← hW1]
   generalize wr.heap.size = R1 at *
   clear hW1 hS1
   refine (qsign_at _ (t i).cov L _ r3 hL hLM).mono ?_
   rintro e w1 ⟨rfl, b1⟩
   replace r3 := r3.below b1
   replace VR := VR.below b1
   replace BB := BB.trans (b1.mono BB.size)
   replace VN := VN.below b1
   replace BLR := BLR.trans (b1.mono BLR.size)
   clear b1
   have HP : Hid (bad3 t i = decide ((t i).cov ≤ 0)) := rfl
   have hcq := cmpQ_le (t i).cov 0
   obtain ⟨cq, hq⟩ : ∃ z, cmpQ (t i).cov 0 = z := ⟨_, rfl⟩
   rw [hq] at hcq
   rw [hq]
   have HCQ : Hid (decide (cq ≤ 0) = decide ((t i).cov ≤ 0)) := hcq
   clear hq hcq
   by_cases hc : cq ≤ 0
   ·have hcb : decide (cq ≤ 0) = true := decide_eq_true hc
    obtain ⟨⟨q1, q2, q3, q4, q5, q6⟩, q7, q8⟩ := id VR
    go_wp2
    (try simp only [Exit.inBlock, Exit.then])
    refine bodyPost_ret (v := .agg #[.int .i64 12, .int .i64 0, .int .i64 0, .int .i64 (i : Int)]) (by simp [results, go_sem, q1, q2, q3, q7]) rfl ?_
    exact ⟨congrArg Ending.returned ((rlV2 F t n).trans (nfV_some hlt HB.out (by rw [HP.out, ← HCQ.out]; exact decide_eq_true hc))).symm, below_store4 BB (by omega) _ _ _ _⟩
   ·have hcb : decide (cq ≤ 0) = false := decide_eq_false hc
    have HB2 : Hid (∀ j, j < i + 1 → bad3 t j = false) := fun j hj => by
     by_cases e : j = i
     ·subst e; rw [HP.out, ← HCQ.out]; exact decide_eq_false hc
     ·exact HB.out j (by omega)
    clear HB
    go_wp2
    go_roundw
    case rel => exact ⟨i + 1, by omega, by go_num, HB2, BLR⟩
    case measure => simp [intOf]; omega
  ·obtain rfl : i = n := by omega
   have g1 : ¬ (i : Int) < (i : Int) := by omega
   obtain ⟨⟨q1, q2, q3, q4, q5, q6⟩, q7, q8⟩ := id VR
   go_wp2
   (try simp only [Exit.inBlock, Exit.then])
   refine bodyPost_ret (v := .agg #[.int .i64 0, .int .i64 0, .int .i64 0, .int .i64 0]) (by simp [results, go_sem, q1, q2, q3, q7]) rfl ?_
   exact ⟨congrArg Ending.returned ((rlV2 F t i).trans (nfV_none HB.out)).symm, below_store4 BB (by omega) _ _ _ _⟩


set_option maxRecDepth 100000 in
set_option maxHeartbeats 8000000 in
theorem namesPlaces_at (v : Value) (n : Nat) (t : Nat → Nd) (F : Int) (L : Nat) (w : World) (hv : TRow w v n t L) :
  Calls Tryz.prog 91 #[v, .int .i64 F] w fun e w' => e = .returned (rlV F t n 0) ∧ Below w.heap.size w w' := by
 obtain ⟨ao, c, rfl, hnc, hc63⟩ := hv.open
 have BB : Below w.heap.size w w := Below.refl _ _
 obtain ⟨Wb0, hW0, hS0, hL0, VR⟩ := V4.lay w 31 (.int .i64 0) (.int .i64 0) (.int .i64 0) (.int .i64 0)
 replace hv := hv.below hL0
 replace BB := BB.trans (hL0.mono BB.size)
 clear hL0
 go_enter Tryz.func91, Tryz.ntmps91
 go_wp2
 rw [← hW0]
 clear hW0 hS0
 have hv0 := hv
 have VR0 := VR
 have BB0 : Hid (Below w.heap.size w Wb0) := BB
 clear hv VR BB
 go_loopw [9] (fun vi wr => ∃ i : Nat, i ≤ n ∧ vi = .int .i64 (i : Int) ∧ Hid (∀ j, j < i → bad0 F t n j = false) ∧ Below Wb0.heap.size Wb0 wr) (fun vi _ => n - (intOf vi).toNat)
 case atStart => exact ⟨0, by omega, rfl, fun j hj => by omega, Below.refl _ _⟩
 case round =>
  obtain ⟨i, hi, rfl, HB, BL⟩ := hrel
  have VR := VR0.below BL
  have BB := BB0.out.trans (BL.mono BB0.out.size)
  by_cases hlt : i < n
  ·have g1 : (i : Int) < (n : Int) := by omega
   have g0 : (0 : Int) ≤ (i : Int) := by omega
   have hv1 := hv0.below BL
   obtain ⟨b, off, cc, p1, a1, n1, c1, b1, m1, d1, p2, a2, n2, c2, b2, m2, d2, p3, a3, n3, c3, b3, m3, d3, hvv, hcc, hc6, NN, r1, r2, r3, i1, i2, i3⟩ := hv1.at hlt
   cases hvv
   clear hv1 r1 r2 r3 i1 i2 i3
   have BLR := BL
   clear BL
   have HP : Hid (bad0 F t n i = (!(t i).leaf && (decide ((t i).feat ≥ F) || decide ((t i).left < 1) || decide ((t i).left ≥ (n : Int)) || decide ((t i).right < 1) || decide ((t i).right ≥ (n : Int))))) := rfl
   obtain ⟨lf, hlf⟩ : ∃ z, (t i).leaf = z := ⟨_, rfl⟩
   obtain ⟨ft, hft⟩ : ∃ z, (t i).feat = z := ⟨_, rfl⟩
   obtain ⟨ll, hll⟩ : ∃ z, (t i).left = z := ⟨_, rfl⟩
   obtain ⟨rr, hrr⟩ : ∃ z, (t i).right = z := ⟨_, rfl⟩
   rw [hlf, hft, hll, hrr] at HP NN
   clear hlf hft hll hrr
   generalize (t i).miss = ms at NN
   cases lf
   ·by_cases h1 : ft ≥ F
    ·have h1b : decide (ft ≥ F) = true := decide_eq_true h1
     obtain ⟨N_0, N_1, N_2, N_3, N_4, N_5, N_6, N_7, N_8, N_9, N_10, N_11, N_12, N_13⟩ := id NN
     obtain ⟨W1, rfl, hS1, hL1, VN, FN⟩ := V14.lay wr 46 (.bool false) (.int .i64 ft) (.bool p1) (.slice a1 n1 c1) (.slice b1 m1 d1) (.int .i64 ll) (.int .i64 rr) (.bool ms) (.bool p2) (.slice a2 n2 c2) (.slice b2 m2 d2) (.bool p3) (.slice a3 n3 c3) (.slice b3 m3 d3)
     replace VR := VR.below hL1
     replace BB := BB.trans (hL1.mono BB.size)
     obtain ⟨V_0, V_1, V_2, V_3, V_4, V_5, V_6, V_7, V_8, V_9, V_10, V_11, V_12, V_13⟩ := id VN
     obtain ⟨⟨q1, q2, q3, q4, q5, q6⟩, q7, q8⟩ := id VR
     go_wp2
     (try simp only [Exit.inBlock, Exit.then])
     refine bodyPost_ret (v := .agg #[.int .i64 8, .int .i64 0, .int .i64 0, .int .i64 (i : Int)]) (by simp [results, go_sem, q1, q2, q3, q7]) rfl ?_
     exact ⟨congrArg Ending.returned ((rlV0 F t n).trans (nfV_some hlt HB.out (by rw [HP.out]; simp [h1b]))).symm, below_store4 BB (by omega) _ _ _ _⟩
    ·have h1b : decide (ft ≥ F) = false := decide_eq_false h1
     obtain ⟨N_0, N_1, N_2, N_3, N_4, N_5, N_6, N_7, N_8, N_9, N_10, N_11, N_12, N_13⟩ := id NN
     obtain ⟨W1, hW1, hS1, hL1, VN, FN⟩ := V14.lay wr 46 (.bool false) (.int .i64 ft) (.bool p1) (.slice a1 n1 c1) (.slice b1 m1 d1) (.int .i64 ll) (.int .i64 rr) (.bool ms) (.bool p2) (.slice a2 n2 c2) (.slice b2 m2 d2) (.bool p3) (.slice a3 n3 c3) (.slice b3 m3 d3)
     replace VR := VR.below hL1
     replace BLR := BLR.trans (hL1.mono BLR.size)
     replace BB := BB.trans (hL1.mono BB.size)
     clear hL1
     obtain ⟨V_0, V_1, V_2, V_3, V_4, V_5, V_6, V_7, V_8, V_9, V_10, V_11, V_12, V_13⟩ := id VN
     rw [hW1] at V_0 V_1 V_2 V_3 V_4 V_5 V_6 V_7 V_8 V_9 V_10 V_11 V_12 V_13
     go_wp2_with fail
     clear V_0 V_1 V_2 V_3 V_4 V_5 V_6 V_7 V_8 V_9 V_10 V_11 V_12 V_13
     clear N_0 N_1 N_2 N_3 N_4 N_5 N_6 N_7 N_8 N_9 N_10 N_11 N_12 N_13
     rw [← hW1]
     generalize wr.heap.size = R1 at *
     clear hW1 hS1
     refine (isChild_at _ _ _ _ _).mono ?_
     rintro e wx ⟨rfl, hwx⟩
     replace hwx := hwx.symm
     subst hwx
     by_cases h2 : 1 ≤ ll ∧ ll < (n : Int)
     ·rw [decide_eq_true h2]
      obtain ⟨V_0, V_1, V_2, V_3, V_4, V_5, V_6, V_7, V_8, V_9, V_10, V_11, V_12, V_13⟩ := id VN
      go_wp2_with fail
      clear V_0 V_1 V_2 V_3 V_4 V_5 V_6 V_7 V_8 V_9 V_10 V_11 V_12 V_13
      refine (isChild_at _ _ _ _ _).mono ?_
      rintro e wx ⟨rfl, hwx⟩
      replace hwx := hwx.symm
      subst hwx
      by_cases h3 : 1 ≤ rr ∧ rr < (n : Int)
      ·rw [decide_eq_true h3]
       have HB2 : Hid (∀ j, j < i + 1 → bad0 F t n j = false) := fun j hj => by
        by_cases e : j = i
        ·subst e; rw [HP.out, h1b]; simp; omega
        ·exact HB.out j (by omega)
       clear HB
       go_wp2
       go_roundw
       case rel => exact ⟨i + 1, by omega, by go_num, HB2, BLR⟩
       case measure => simp [intOf]; omega
      ·rw [decide_eq_false h3]
       obtain ⟨⟨q1, q2, q3, q4, q5, q6⟩, q7, q8⟩ := id VR
       go_wp2
       (try simp only [Exit.inBlock, Exit.then])
       refine bodyPost_ret (v := .agg #[.int .i64 8, .int .i64 0, .int .i64 0, .int .i64 (i : Int)]) (by simp [results, go_sem, q1, q2, q3, q7]) rfl ?_
       exact ⟨congrArg Ending.returned ((rlV0 F t n).trans (nfV_some hlt HB.out (by rw [HP.out]; simp; omega))).symm, below_store4 BB (by omega) _ _ _ _⟩
     ·rw [decide_eq_false h2]
      obtain ⟨⟨q1, q2, q3, q4, q5, q6⟩, q7, q8⟩ := id VR
      go_wp2
      (try simp only [Exit.inBlock, Exit.then])
      refine bodyPost_ret (v := .agg #[.int .i64 8, .int .i64 0, .int .i64 0, .int .i64 (i : Int)]) (by simp [results, go_sem, q1, q2, q3, q7]) rfl ?_
      exact ⟨congrArg Ending.returned ((rlV0 F t n).trans (nfV_some hlt HB.out (by rw [HP.out]; simp; omega))).symm, below_store4 BB (by omega) _ _ _ _⟩
   ·obtain ⟨N_0, N_1, N_2, N_3, N_4, N_5, N_6, N_7, N_8, N_9, N_10, N_11, N_12, N_13⟩ := id NN
    obtain ⟨W1, hW1, hS1, hL1, VN, FN⟩ := V14.lay wr 46 (.bool true) (.int .i64 ft) (.bool p1) (.slice a1 n1 c1) (.slice b1 m1 d1) (.int .i64 ll) (.int .i64 rr) (.bool ms) (.bool p2) (.slice a2 n2 c2) (.slice b2 m2 d2) (.bool p3) (.slice a3 n3 c3) (.slice b3 m3 d3)
    replace VR := VR.below hL1
    replace BLR := BLR.trans (hL1.mono BLR.size)
    replace BB := BB.trans (hL1.mono BB.size)
    clear hL1
    obtain ⟨V_0, V_1, V_2, V_3, V_4, V_5, V_6, V_7, V_8, V_9, V_10, V_11, V_12, V_13⟩ := id VN
    rw [hW1] at V_0 V_1 V_2 V_3 V_4 V_5 V_6 V_7 V_8 V_9 V_10 V_11 V_12 V_13
    go_wp2
    clear V_0 V_1 V_2 V_3 V_4 V_5 V_6 V_7 V_8 V_9 V_10 V_11 V_12 V_13
    clear N_0 N_1 N_2 N_3 N_4 N_5 N_6 N_7 N_8 N_9 N_10 N_11 N_12 N_13
    rw [← hW1]
    generalize wr.heap.size = R1 at *
    clear hW1 hS1
    have HB2 : Hid (∀ j, j < i + 1 → bad0 F t n j = false) := fun j hj => by
     by_cases e : j = i
     ·subst e; rw [HP.out]; rfl
     ·exact HB.out j (by omega)
    clear HB
    go_wp2
    go_roundw
    case rel => exact ⟨i + 1, by omega, by go_num, HB2, BLR⟩
    case measure => simp [intOf]; omega
  ·obtain rfl : i = n := by omega
   have g1 : ¬ (i : Int) < (i : Int) := by omega
   obtain ⟨⟨q1, q2, q3, q4, q5, q6⟩, q7, q8⟩ := id VR
   go_wp2
   (try simp only [Exit.inBlock, Exit.then])
   refine bodyPost_ret (v := .agg #[.int .i64 0, .int .i64 0, .int .i64 0, .int .i64 0]) (by simp [results, go_sem, q1, q2, q3, q7]) rfl ?_
   exact ⟨congrArg Ending.returned ((rlV0 F t i).trans (nfV_none HB.out)).symm, below_store4 BB (by omega) _ _ _ _⟩


set_option maxRecDepth 100000 in
set_option maxHeartbeats 8000000 in
theorem notOnce_at (v : Value) (n f : Nat) (z : Nat → Int) (w : World) (hv : Nums .i64 w v n z) :
  Calls Tryz.prog 142 #[v, .int .i64 (f : Int)] w fun e w' => e = .returned (nfV (bad5 f z) n 11) ∧ Below w.heap.size w w' := by
 obtain ⟨ao, c, rfl, hnc, hc63, hcl⟩ := id hv
 clear hcl
 unfold LIM at hc63
 have BB : Below w.heap.size w w := Below.refl _ _
 obtain ⟨Wb0, hW0, hS0, hL0, VR⟩ := V4.lay w 31 (.int .i64 0) (.int .i64 0) (.int .i64 0) (.int .i64 0)
 replace hv := hv.below hL0
 replace BB := BB.trans (hL0.mono BB.size)
 clear hL0
 go_enter Tryz.func142, Tryz.ntmps142
 go_wp2
 rw [← hW0]
 clear hW0 hS0
 have hv0 := hv
 have VR0 := VR
 have BB0 : Hid (Below w.heap.size w Wb0) := BB
 clear hv VR BB
 go_loopw [9] (fun vi wr => ∃ i : Nat, i ≤ n ∧ vi = .int .i64 (i : Int) ∧ Hid (∀ j, j < i → (bad5 f z) j = false) ∧ Below Wb0.heap.size Wb0 wr) (fun vi _ => n - (intOf vi).toNat)
 case atStart => exact ⟨0, by omega, rfl, fun j hj => by omega, Below.refl _ _⟩
 case round =>
  obtain ⟨i, hi, rfl, HB, BL⟩ := hrel
  have VR := VR0.below BL
  have BB := BB0.out.trans (BL.mono BB0.out.size)
  by_cases hlt : i < n
  ·have g1 : (i : Int) < (n : Int) := by omega
   have g0 : (0 : Int) ≤ (i : Int) := by omega
   have BLR := BL
   obtain ⟨ao2, c2, hvv, _, _, h4⟩ := hv0.below BL
   cases hvv
   obtain ⟨b, off, rfl, hc⟩ := h4 (by omega)
   have XC := hc i hlt
   clear h4 hc BL
   by_cases hf : f ≤ i
   ·have fi : (i : Int) ≥ (f : Int) := by omega
    have fib : decide ((i : Int) ≥ (f : Int)) = true := decide_eq_true fi
    by_cases hz : z i = 1
    ·have hzb : (z i != 1) = false := by simp [hz]
     rw [hz] at XC
     have HB2 : Hid (∀ j, j < i + 1 → (bad5 f z) j = false) := fun j hj => by
      by_cases e : j = i
      ·subst e; unfold bad5; simp [hz]
      ·exact HB.out j (by omega)
     clear HB
     go_wp2
     go_roundw
     case rel => exact ⟨i + 1, by omega, by go_num, HB2, BLR⟩
     case measure => simp [intOf]; omega
    ·have hzb : (z i != 1) = true := by simp [hz]
     obtain ⟨⟨q1, q2, q3, q4, q5, q6⟩, q7, q8⟩ := id VR
     go_wp2
     (try simp only [Exit.inBlock, Exit.then])
     refine bodyPost_ret (v := .agg #[.int .i64 11, .int .i64 0, .int .i64 0, .int .i64 (i : Int)]) (by simp [results, go_sem, q1, q2, q3, q7]) rfl ?_
     exact ⟨congrArg Ending.returned (nfV_some hlt HB.out (by unfold bad5; simp [hz, hf])).symm, below_store4 BB (by omega) _ _ _ _⟩
   ·have fi : ¬ (i : Int) ≥ (f : Int) := by omega
    have fib : decide ((i : Int) ≥ (f : Int)) = false := decide_eq_false fi
    have HB2 : Hid (∀ j, j < i + 1 → (bad5 f z) j = false) := fun j hj => by
     by_cases e : j = i
     ·subst e; unfold bad5; simp; omega
     ·exact HB.out j (by omega)
    clear HB
    go_wp2
    go_roundw
    case rel => exact ⟨i + 1, by omega, by go_num, HB2, BLR⟩
    case measure => simp [intOf]; omega
  ·obtain rfl : i = n := by omega
   have g1 : ¬ (i : Int) < (i : Int) := by omega
   obtain ⟨⟨q1, q2, q3, q4, q5, q6⟩, q7, q8⟩ := id VR
   go_wp2
   (try simp only [Exit.inBlock, Exit.then])
   refine bodyPost_ret (v := .agg #[.int .i64 0, .int .i64 0, .int .i64 0, .int .i64 0]) (by simp [results, go_sem, q1, q2, q3, q7]) rfl ?_
   exact ⟨congrArg Ending.returned (nfV_none HB.out).symm, below_store4 BB (by omega) _ _ _ _⟩

end Go.Proofs.YthkamfddbiheoaaGreatDoor

namespace Go.Proofs.YthkamfddbiheoaaGreatDoor
open Go.RowKit
set_option linter.unusedVariables false

/-- A row of ints of the call's own. -/
def IntOwn (B : Nat) (w : World) (v : Value) (zs : List Nat) : Prop := w.ownsRow B 3 1 v zs.length (zs.map (fun x : Nat => Value.int .i64 (x : Int)))
theorem IntOwn.later {B : Nat} {w w' : World} {v : Value} {zs : List Nat} (h : IntOwn B w v zs) (hb : Below w.heap.size w w') : IntOwn B w' v zs := owns_later h hb
theorem IntOwn.open {B : Nat} {w : World} {v : Value} {zs : List Nat} (h : IntOwn B w v zs) (h0 : 0 < zs.length) : ∃ g c, v = .slice (some ⟨g, 0, none⟩) zs.length c ∧ zs.length ≤ c := by
 rcases h.2 with ⟨_, e⟩ | ⟨g, c, _, e, _, _, hc, _⟩
 ·omega
 ·exact ⟨g, c, e, hc⟩
theorem IntOwn.form {B : Nat} {w : World} {v : Value} {zs : List Nat} (h : IntOwn B w v zs) : ∃ a c, v = .slice a zs.length c ∧ zs.length ≤ c := by
 rcases h.2 with ⟨e, e2⟩ | ⟨g, c, _, e, _, _, hc, _⟩
 ·exact ⟨none, 0, by rw [e, e2], by omega⟩
 ·exact ⟨_, c, e, hc⟩
theorem IntOwn.cell {B : Nat} {w : World} {g c n : Nat} {zs : List Nat} (h : IntOwn B w (.slice (some ⟨g, 0, none⟩) n c) zs) (hn : n = zs.length) {j x : Nat} (hj : zs[j]? = some x) : w.cell? ⟨g, j, none⟩ = some (.int .i64 (x : Int)) := by
 subst hn
 exact owns_cell h (by rw [List.getElem?_map, hj]; rfl)
/-- All but the last. -/
theorem IntOwn.pop {B : Nat} {w : World} {g c n : Nat} {zs : List Nat} {x : Nat} (h : IntOwn B w (.slice (some ⟨g, 0, none⟩) n c) (zs ++ [x])) : IntOwn B w (.slice (some ⟨g, 0, none⟩) zs.length c) zs := by
 unfold IntOwn at h ⊢
 refine ⟨by simp, ?_⟩
 rcases h.2 with ⟨e, _⟩ | ⟨g', c', cur, e, hB, hg, hc, hm, hs, ht⟩
 ·cases e
 ·injection e with e1 e2 e3
  injection e1 with e1
  injection e1 with e1
  subst e1 e3
  refine .inr ⟨g, c, cur, rfl, hB, hg, by simp at hc; omega, hm, hs, ?_⟩
  have := congrArg (List.take (zs.length * 1)) ht
  rw [List.take_take, show min (zs.length * 1) ((zs ++ [x]).length * 1) = zs.length * 1 by simp] at this
  rw [this, List.map_append, List.take_append_of_le_length (by simp), List.take_of_length_le (by simp)]
def AsideI (v1 v2 : Value) : Prop := ∀ g, v1.ownBlock = some g → v2.ownBlock ≠ some g
theorem AsideI.symm {v1 v2 : Value} (h : AsideI v1 v2) : AsideI v2 v1 := fun g h1 h2 => h g h2 h1
theorem IntOwn.stay {B : Nat} {w w' : World} {v x : Value} {zs : List Nat} (h : IntOwn B w v zs) (hg : w.grownBy w' x.ownBlock) (ha : AsideI v x) : IntOwn B w' v zs := by
 refine World.ownsRow.kept h hg ?_
 cases hb : v.ownBlock with
 | none => exact .inl rfl
 | some g => exact .inr (fun e => ha g hb e.symm)
theorem IntOwn.both {B : Nat} {w : World} {v : Value} {zs : List Nat} (h : IntOwn B w v zs) (g : Nat) (hg : v.ownBlock = some g) : B ≤ g ∧ g < w.heap.size := World.ownsRow.lt h g hg
theorem asideI_new {B : Nat} {w : World} {v x : Value} {zs : List Nat} {g5 m c : Nat} (h : IntOwn B w v zs) (ha : AsideI v x) (hat : x.ownBlock = some g5 ∨ g5 = w.heap.size) : AsideI v (.slice (some ⟨g5, 0, none⟩) m c) := by
 intro g hg e
 have e' : g5 = g := by injection e
 subst e'
 rcases hat with h1 | h1
 ·exact ha g5 hg h1
 ·have := (h.both g5 hg).2; omega
theorem IntOwn.nums {B : Nat} {w : World} {v : Value} {zs : List Nat} (h : IntOwn B w v zs) (hl : zs.length ≤ 100000) : Nums .i64 w v zs.length (fun i => (zs.getD i 0 : Int)) := by
 rcases h.2 with ⟨rfl, e⟩ | ⟨g, c, _, rfl, _, _, hc, _⟩
 ·rw [e]; exact Nums.nil _ _ _
 ·refine ⟨_, _, rfl, hc, by unfold LIM; omega, fun _ => ⟨g, 0, rfl, fun i hi => ?_⟩⟩
  rw [Nat.zero_add]
  refine IntOwn.cell h rfl ?_
  rw [List.getD_eq_getElem?_getD, List.getElem?_eq_getElem hi]
  rfl
/-- The first of a row: the slice that a literal makes. -/
theorem int_first (w : World) (x : Nat) (B : Nat) (hB : B ≤ w.heap.size) : IntOwn B (w.alloc (.cells #[.int .i64 (x : Int)] 3)) (.slice (some ⟨w.heap.size, 0, none⟩) 1 1) [x] := by
 have := owns_new w B 1 3 #[.int .i64 (x : Int)] hB rfl
 exact this

end Go.Proofs.YthkamfddbiheoaaGreatDoor

namespace Go.Proofs.YthkamfddbiheoaaGreatDoor
open Go.RowKit
set_option linter.unusedVariables false
set_option linter.unusedSimpArgs false

theorem par_le (t : Nat → Nd) (x : Nat) : ∀ n, par t x n ≤ 2 * n
  | 0 => Nat.le_refl _
  | n + 1 => by
    have := par_le t x n
    have h : kc t x n ≤ 2 := by unfold kc; split <;> split <;> omega
    show par t x n + kc t x n ≤ _
    omega
theorem N14.low {w w' : World} {b o : Nat} {x0 x1 x2 x3 x4 x5 x6 x7 x8 x9 x10 x11 x12 x13 : Value} (h : N14 w b o x0 x1 x2 x3 x4 x5 x6 x7 x8 x9 x10 x11 x12 x13) (hb : Below w.heap.size w w') : N14 w' b o x0 x1 x2 x3 x4 x5 x6 x7 x8 x9 x10 x11 x12 x13 := by
  have hl : b < w.heap.size := World.block_lt_of_cell? _ _ h.c0
  obtain ⟨h0, h1, h2, h3, h4, h5, h6, h7, h8, h9, h10, h11, h12, h13⟩ := h
  exact ⟨(hb.cell hl).trans h0, (hb.cell hl).trans h1, (hb.cell hl).trans h2, (hb.cell hl).trans h3, (hb.cell hl).trans h4, (hb.cell hl).trans h5, (hb.cell hl).trans h6, (hb.cell hl).trans h7, (hb.cell hl).trans h8, (hb.cell hl).trans h9, (hb.cell hl).trans h10, (hb.cell hl).trans h11, (hb.cell hl).trans h12, (hb.cell hl).trans h13⟩
theorem int_more {B : Nat} {w : World} {g c x : Nat} {zs : List Nat} (h : w.ownsRow B 3 1 (.slice (some ⟨g, 0, none⟩) (zs.length + 1) c) (zs.length + 1) (zs.map (fun x : Nat => Value.int .i64 (x : Int)) ++ [.int .i64 (x : Int)])) : IntOwn B w (.slice (some ⟨g, 0, none⟩) (zs.length + 1) c) (zs ++ [x]) := by
  unfold IntOwn
  rw [List.map_append, List.length_append]
  exact h
theorem int_more2 {B : Nat} {w : World} {g c x y k : Nat} {zs : List Nat} (hk : zs.length = k) (h : w.ownsRow B 3 1 (.slice (some ⟨g, 0, none⟩) (k + 2) c) (k + 2) (zs.map (fun x : Nat => Value.int .i64 (x : Int)) ++ [.int .i64 (x : Int), .int .i64 (y : Int)])) : IntOwn B w (.slice (some ⟨g, 0, none⟩) (k + 2) c) (zs ++ [x, y]) := by
  unfold IntOwn
  rw [List.map_append, List.length_append, hk]
  exact h
theorem int_len {B : Nat} {w : World} {v : Value} {k : Nat} {zs : List Nat} (hk : zs.length = k) (h : IntOwn B w v zs) : w.ownsRow B 3 1 v k (zs.map (fun x : Nat => Value.int .i64 (x : Int))) := by
  unfold IntOwn at h
  rw [hk] at h
  exact h
def lenV : Value → Nat
  | .slice _ n _ => n
  | _ => 0
theorem zero_off {w : World} {k : IntKind} {g n : Nat} {f : Nat → Int} (h : Cells w k g 0 n f) {i : Nat} (hi : i < n) : w.cell? ⟨g, i, none⟩ = some (.int k (f i)) := by
  have := h i hi
  rwa [Nat.zero_add] at this
theorem zero_soft {w : World} {g n : Nat} (h : Soft w g 0 n) {i : Nat} (hi : i < n) : w.frozen? ⟨g, i, none⟩ = false := by
  have := h i hi
  rwa [Nat.zero_add] at this
theorem zero_set {w : World} {k : IntKind} {g n : Nat} {f : Nat → Int} (h : Cells w k g 0 n f) {j : Nat} (hj : j < n) (v : Int) : Cells (w.setCell ⟨g, j, none⟩ (.int k v)) k g 0 n (put f j v) := by
  have := h.set j hj v
  rwa [Nat.zero_add] at this


set_option maxRecDepth 100000 in
set_option maxHeartbeats 8000000 in
theorem parents_at (v : Value) (n : Nat) (t : Nat → Nd) (L : Nat) (w : World) (hv : TRow w v n t L) (hN : Named t n) (hn : n ≤ 255) :
    Calls Tryz.prog 143 #[v] w fun e w' => ∃ r, e = .returned r ∧ Nums .i64 w' r n (fun x => (par t x n : Int)) ∧ Below w.heap.size w w' := by
  obtain ⟨ao, c, rfl, hnc, hc63⟩ := hv.open
  obtain ⟨i0, hi, hz0, hz1, hz2⟩ := info_parts info_int
  have BB : Below w.heap.size w w := Below.refl _ _
  go_enter Tryz.func143, Tryz.ntmps143
  go_wp2_with (at_make; refine wpList_make_full _ rfl _ _ 68 rfl _ 3 i0 (.int .i64 0) 1 Tryz.underlying68 hi hz0 hz1 _ _ _ _ n rfl rfl (by omega) (by omega) (by rw [hz2]; omega) (by unfold maxLen; omega) (Nat.le_refl _) ?_; intro w1 hown hgrow)
  obtain ⟨hC, hSf⟩ := mine_made (k := .i64) (w := w) hown (fun _ => 0) (fun i hi => made_zero .i64 n i hi)
  have hG := (World.ownsRow.lt hown w.heap.size rfl).2
  have hb1 := below_grown hgrow
  clear hown hgrow hi hz0 hz1 hz2 BB
  go_wp2
  have HN : Hid (Named t n) := hN
  clear hN
  go_loopw [11] (fun vi wr => ∃ i : Nat, i ≤ n ∧ vi = .int .i64 (i : Int) ∧ Cells wr .i64 w.heap.size 0 n (fun x => (par t x i : Int)) ∧ Soft wr w.heap.size 0 n ∧ w.heap.size < wr.heap.size ∧ Below w.heap.size w wr) (fun vi _ => n - (intOf vi).toNat)
  case atStart => exact ⟨0, by omega, rfl, hC, hSf, hG, hb1⟩
  case round =>
    clear hC hSf hG hb1
    obtain ⟨i, hi, rfl, hC, hSf, hG, BB⟩ := hrel
    by_cases hlt : i < n
    · have g1 : (i : Int) < (n : Int) := by omega
      have g0 : (0 : Int) ≤ (i : Int) := by omega
      have hv1 := hv.below BB
      obtain ⟨b, off, cc, p1, a1, n1, c1, b1, m1, d1, p2, a2, n2, c2, b2, m2, d2, p3, a3, n3, c3, b3, m3, d3, hvv, hcc, hc6, NN, r1, r2, r3, i1, i2, i3⟩ := hv1.at hlt
      cases hvv
      clear hv1 r1 r2 r3 i1 i2 i3
      have HNI := HN.out i hlt
      have HK : Hid (∀ x, kc t x i = (if (t i).leaf = false ∧ (t i).left = (x : Int) then 1 else 0) + (if (t i).leaf = false ∧ (t i).right = (x : Int) then 1 else 0)) := fun x => rfl
      obtain ⟨lf, hlf⟩ : ∃ z, (t i).leaf = z := ⟨_, rfl⟩
      obtain ⟨ll, hll⟩ : ∃ z, (t i).left = z := ⟨_, rfl⟩
      obtain ⟨rr, hrr⟩ : ∃ z, (t i).right = z := ⟨_, rfl⟩
      rw [hlf, hll, hrr] at HNI HK
      rw [hlf, hll, hrr] at NN
      clear hlf hll hrr
      generalize (t i).miss = ms at NN
      generalize (t i).feat = ft at NN
      cases lf
      · obtain ⟨n1_, n2_, n3_, n4_⟩ := HNI rfl
        obtain ⟨l, rfl⟩ : ∃ l : Nat, ll = (l : Int) := ⟨ll.toNat, by omega⟩
        obtain ⟨m, rfl⟩ : ∃ m : Nat, rr = (m : Int) := ⟨rr.toNat, by omega⟩
        have hl1 : l < n := by omega
        have hm1 : m < n := by omega
        have e1 : (0 : Int) ≤ (l : Int) := by omega
        have e3 : (0 : Int) ≤ (m : Int) := by omega
        clear HNI
        have XN := NN
        obtain ⟨N_0, N_1, N_2, N_3, N_4, N_5, N_6, N_7, N_8, N_9, N_10, N_11, N_12, N_13⟩ := id NN
        obtain ⟨W1, hW1, hS1, hL1, VN, FN⟩ := V14.lay wr 46 (.bool false) (.int .i64 ft) (.bool p1) (.slice a1 n1 c1) (.slice b1 m1 d1) (.int .i64 (l : Int)) (.int .i64 (m : Int)) (.bool ms) (.bool p2) (.slice a2 n2 c2) (.slice b2 m2 d2) (.bool p3) (.slice a3 n3 c3) (.slice b3 m3 d3)
        have hC1 := hC.below hL1 hG
        have hSf1 := hSf.below hL1 hG
        have hne : wr.heap.size ≠ w.heap.size := by omega
        subst hW1
        obtain ⟨V_0, V_1, V_2, V_3, V_4, V_5, V_6, V_7, V_8, V_9, V_10, V_11, V_12, V_13⟩ := id VN
        have XL := zero_off hC1 hl1
        have YL := zero_soft hSf1 hl1
        have bl := par_le t l i
        obtain ⟨pl, hpl⟩ : ∃ z, par t l i = z := ⟨_, rfl⟩
        rw [hpl] at XL bl
        have HPL : Hid (par t l i = pl) := hpl
        clear hpl
        have wl : IntKind.i64.wrap ((pl : Int) + 1) = (pl : Int) + 1 := by rw [IntKind.wrap_i64]; omega
        have hC2 := zero_set hC hl1 ((pl : Int) + 1)
        have hSf2 : Soft _ w.heap.size 0 n := hSf.set ⟨w.heap.size, l, none⟩ (.int .i64 ((pl : Int) + 1))
        have hGs : w.heap.size < (wr.setCell ⟨w.heap.size, l, none⟩ (.int .i64 ((pl : Int) + 1))).heap.size := by simpa using hG
        have hLs : Below (wr.setCell ⟨w.heap.size, l, none⟩ (.int .i64 ((pl : Int) + 1))).heap.size _ ((wr.setCell ⟨w.heap.size, l, none⟩ (.int .i64 ((pl : Int) + 1))).alloc (.cells #[.bool false, .int .i64 ft, .bool p1, .slice a1 n1 c1, .slice b1 m1 d1, .int .i64 (l : Int), .int .i64 (m : Int), .bool ms, .bool p2, .slice a2 n2 c2, .slice b2 m2 d2, .bool p3, .slice a3 n3 c3, .slice b3 m3 d3] 46)) := (Below.refl _ _).alloc (Nat.le_refl _) _
        have hC2a := hC2.below hLs hGs
        have hSf2a := hSf2.below hLs hGs
        by_cases hlm : m = l
        · subst hlm
          have wl2 : IntKind.i64.wrap ((pl : Int) + 1 + 1) = (pl : Int) + 1 + 1 := by rw [IntKind.wrap_i64]; omega
          have XM := zero_off hC2a hm1
          have YM := zero_soft hSf2a hm1
          rw [put_same] at XM
          have hC3 := zero_set hC2 hm1 ((pl : Int) + 1 + 1)
          have hSf3 : Soft _ w.heap.size 0 n := hSf2.set ⟨w.heap.size, m, none⟩ (.int .i64 ((pl : Int) + 1 + 1))
          have BB3 : Below w.heap.size w _ := (BB.setCell (p := ⟨w.heap.size, m, none⟩) (Nat.le_refl _) (.int .i64 ((pl : Int) + 1))).setCell (p := ⟨w.heap.size, m, none⟩) (Nat.le_refl _) (.int .i64 ((pl : Int) + 1 + 1))
          have HCG : Hid (∀ x, x < n → put (put (fun x => (par t x i : Int)) m ((pl : Int) + 1)) m ((pl : Int) + 1 + 1) x = ((par t x (i + 1) : Nat) : Int)) := fun x hx => by
            show _ = ((par t x i + kc t x i : Nat) : Int)
            rw [HK.out x]
            by_cases hx1 : x = m
            · subst hx1
              rw [put_same, HPL.out, if_pos ⟨rfl, rfl⟩]
              omega
            · rw [put_other _ _ _ _ hx1, put_other _ _ _ _ hx1, if_neg (fun h => hx1 (by omega))]
              show (par t x i : Int) = _
              omega
          clear HK HPL
          go_wp2
          go_roundw
          case rel => exact ⟨i + 1, by omega, by go_num, (hC3.congr (HCG.out)).below ((Below.refl _ _).alloc (Nat.le_refl _) _) (by simpa using hG), hSf3.below ((Below.refl _ _).alloc (Nat.le_refl _) _) (by simpa using hG), by simp; omega, BB3.alloc BB3.size _⟩
          case measure => simp [intOf]; omega
        · have hml : ¬ l = m := fun e => hlm e.symm
          have bm := par_le t m i
          have XM0 := zero_off hC1 hm1
          have YM0 := zero_soft hSf1 hm1
          obtain ⟨pm, hpm⟩ : ∃ z, par t m i = z := ⟨_, rfl⟩
          rw [hpm] at XM0 bm
          have HPM : Hid (par t m i = pm) := hpm
          clear hpm
          have wm : IntKind.i64.wrap ((pm : Int) + 1) = (pm : Int) + 1 := by rw [IntKind.wrap_i64]; omega
          have XM := zero_off hC2a hm1
          have YM := zero_soft hSf2a hm1
          rw [put_other _ _ _ _ hlm, HPM.out] at XM
          have hC3 := zero_set hC2 hm1 ((pm : Int) + 1)
          have hSf3 : Soft _ w.heap.size 0 n := hSf2.set ⟨w.heap.size, m, none⟩ (.int .i64 ((pm : Int) + 1))
          have BB3 : Below w.heap.size w _ := (BB.setCell (p := ⟨w.heap.size, l, none⟩) (Nat.le_refl _) (.int .i64 ((pl : Int) + 1))).setCell (p := ⟨w.heap.size, m, none⟩) (Nat.le_refl _) (.int .i64 ((pm : Int) + 1))
          have HCG : Hid (∀ x, x < n → put (put (fun x => (par t x i : Int)) l ((pl : Int) + 1)) m ((pm : Int) + 1) x = ((par t x (i + 1) : Nat) : Int)) := fun x hx => by
            show _ = ((par t x i + kc t x i : Nat) : Int)
            rw [HK.out x]
            by_cases hx1 : x = m
            · subst hx1
              rw [put_same, HPM.out, if_neg (fun h => hml (by omega)), if_pos ⟨rfl, rfl⟩]
              omega
            · rw [put_other _ _ _ _ hx1]
              by_cases hx2 : x = l
              · subst hx2
                rw [put_same, HPL.out, if_pos ⟨rfl, rfl⟩, if_neg (fun h => hx1 (by omega))]
                omega
              · rw [put_other _ _ _ _ hx2, if_neg (fun h => hx2 (by omega)), if_neg (fun h => hx1 (by omega))]
                show (par t x i : Int) = _
                omega
          clear HK HPL HPM
          go_wp2
          go_roundw
          case rel => exact ⟨i + 1, by omega, by go_num, (hC3.congr (HCG.out)).below ((Below.refl _ _).alloc (Nat.le_refl _) _) (by simpa using hG), hSf3.below ((Below.refl _ _).alloc (Nat.le_refl _) _) (by simpa using hG), by simp; omega, BB3.alloc BB3.size _⟩
          case measure => simp [intOf]; omega
      · have HCG : Hid (∀ x, x < n → (par t x i : Int) = ((par t x (i + 1) : Nat) : Int)) := fun x hx => by
          show _ = ((par t x i + kc t x i : Nat) : Int)
          rw [HK.out x, if_neg (fun h => absurd h.1 (by decide)), if_neg (fun h => absurd h.1 (by decide))]
          omega
        clear HK HNI
        obtain ⟨N_0, N_1, N_2, N_3, N_4, N_5, N_6, N_7, N_8, N_9, N_10, N_11, N_12, N_13⟩ := id NN
        obtain ⟨W1, hW1, hS1, hL1, VN, FN⟩ := V14.lay wr 46 (.bool true) (.int .i64 ft) (.bool p1) (.slice a1 n1 c1) (.slice b1 m1 d1) (.int .i64 ll) (.int .i64 rr) (.bool ms) (.bool p2) (.slice a2 n2 c2) (.slice b2 m2 d2) (.bool p3) (.slice a3 n3 c3) (.slice b3 m3 d3)
        replace BB := BB.trans (hL1.mono BB.size)
        have hC1 := hC.below hL1 hG
        have hSf1 := hSf.below hL1 hG
        have hG1 : w.heap.size < W1.heap.size := by omega
        subst hW1
        obtain ⟨V_0, V_1, V_2, V_3, V_4, V_5, V_6, V_7, V_8, V_9, V_10, V_11, V_12, V_13⟩ := id VN
        go_wp2
        go_roundw
        case rel => exact ⟨i + 1, by omega, by go_num, hC1.congr HCG.out, hSf1, hG1, BB⟩
        case measure => simp [intOf]; omega
    · obtain rfl : i = n := by omega
      have g1 : ¬ (i : Int) < (i : Int) := by omega
      go_wp2
      go_ret
      exact ⟨_, rfl, ⟨_, _, rfl, Nat.le_refl _, by unfold LIM; omega, fun _ => ⟨_, _, rfl, hC⟩⟩, BB⟩


set_option maxRecDepth 100000 in
set_option maxHeartbeats 8000000 in
theorem reached_at (v : Value) (n : Nat) (t : Nat → Nd) (L : Nat) (w : World) (hv : TRow w v n t L) (hN : Named t n) (hO : Once t n) (hn0 : 0 < n) (hn : n ≤ 255) :
    Calls Tryz.prog 144 #[v] w fun e w' => ∃ r outs, e = .returned r ∧ IntOwn w.heap.size w' r outs ∧ DInv t n outs [] ∧ Below w.heap.size w w' := by
  obtain ⟨ao, c, rfl, hnc, hc63⟩ := hv.open
  have BB : Below w.heap.size w w := Below.refl _ _
  go_enter Tryz.func144, Tryz.ntmps144
  have HI0 : Hid (DInv t n [] [0]) := DInv.start hn0
  have hA0 := int_first w 0 w.heap.size (Nat.le_refl _)
  have hB0 : Below w.heap.size w (w.alloc (.cells #[.int .i64 0] 3)) := BB.alloc (Nat.le_refl _) _
  have HN : Hid (Named t n) := hN
  have HO : Hid (Once t n) := hO
  clear hN hO BB
  go_wp2
  go_loopw [3, 4] (fun vo vw wr => ∃ outs waits : List Nat, IntOwn w.heap.size wr vo outs ∧ IntOwn w.heap.size wr vw waits ∧ AsideI vo vw ∧ Hid (DInv t n outs waits) ∧ Below w.heap.size w wr) (fun vo _ _ => n - lenV vo)
  case atStart => exact ⟨[], [0], World.ownsRow_nil _ _ _ _, hA0, (by intro g h; simp [Value.ownBlock] at h), HI0, hB0⟩
  case round =>
    clear hA0 hB0 HI0
    obtain ⟨outs, waits, hO1, hW1, hAs, HI, BB⟩ := hrel
    have hlen := HI.out.len
    obtain ⟨oo, co_, rfl, hoc⟩ := hO1.form
    rcases List.eq_nil_or_concat waits with rfl | ⟨ws, i, rfl⟩
    · obtain ⟨ow, cw, rfl, hwc⟩ := hW1.form
      go_wp2
      go_ret
      exact ⟨_, outs, rfl, hO1, HI.out, BB⟩
    · rw [List.concat_eq_append] at hW1 HI hlen
      have hil : i < n := HI.out.small i (by simp)
      obtain ⟨gw, cw, rfl, hwc⟩ := hW1.open (by simp)
      obtain ⟨k, hk⟩ : ∃ k, ws.length = k := ⟨_, rfl⟩
      have hk1 : (ws ++ [i]).length = k + 1 := by simp [hk]
      have XW := hW1.cell rfl (j := k) (x := i) (by rw [← hk]; simp)
      have hWp := hW1.pop
      rw [hk] at hWp
      obtain ⟨k1, hk2⟩ : ∃ k1, k1 = k + 1 := ⟨_, rfl⟩
      rw [hk1, ← hk2] at hwc ⊢
      have hk255 : k ≤ 255 := by rw [List.length_append, hk] at hlen; omega
      have f0 : IntKind.i64.wrap (k : Int) = (k : Int) := by rw [IntKind.wrap_i64]; omega
      have f1 : (k1 : Int) > 0 := by omega
      have f2 : (k1 : Int) - 1 = (k : Int) := by omega
      have f3 : (0 : Int) ≤ (k : Int) := by omega
      have f4 : (k : Int) < (k1 : Int) := by omega
      have f5 : (k : Int) ≤ (cw : Int) := by omega
      have f6 : (0 : Int) ≤ (i : Int) := by omega
      have f7 : (i : Int) < (n : Int) := by omega
      have hol : outs.length ≤ 255 := by omega
      have hAs2 : AsideI (.slice oo outs.length co_) (.slice (some ⟨gw, 0, none⟩) k cw) := fun g h1 h2 => hAs g h1 h2
      have HKK : Hid (k1 = k + 1) := hk2
      have HWK : Hid (ws.length = k) := hk
      clear hAs hW1 hk1 hk2 hk
      obtain ⟨b, off, cc, p1, a1, n1, c1, b1, m1, d1, p2, a2, n2, c2, b2, m2, d2, p3, a3, n3, c3, b3, m3, d3, hvv, hcc, hc6, NN, r1, r2, r3, i1, i2, i3⟩ := hv.at hil
      cases hvv
      clear r1 r2 r3 i1 i2 i3
      have g1 : (i : Int) < (n : Int) := by omega
      have g0 : (0 : Int) ≤ (i : Int) := by omega
      have HNI := HN.out i hil
      obtain ⟨lf, hlf⟩ : ∃ z, (t i).leaf = z := ⟨_, rfl⟩
      obtain ⟨ll, hll⟩ : ∃ z, (t i).left = z := ⟨_, rfl⟩
      obtain ⟨rr, hrr⟩ : ∃ z, (t i).right = z := ⟨_, rfl⟩
      have HLF : Hid ((t i).leaf = lf) := hlf
      have HLL : Hid ((t i).left = ll) := hll
      have HRR : Hid ((t i).right = rr) := hrr
      rw [hlf, hll, hrr] at HNI
      rw [hlf, hll, hrr] at NN
      clear hlf hll hrr
      generalize (t i).miss = ms at NN
      generalize (t i).feat = ft at NN
      have hO2 : IntOwn w.heap.size (wr.alloc (.cells #[.int .i64 (i : Int)] 3)) (.slice oo outs.length co_) outs := hO1.later ((Below.refl _ _).alloc (Nat.le_refl _) _)
      have hW2 : IntOwn w.heap.size (wr.alloc (.cells #[.int .i64 (i : Int)] 3)) (.slice (some ⟨gw, 0, none⟩) k cw) ws := hWp.later ((Below.refl _ _).alloc (Nat.le_refl _) _)
      have BB2 : Below w.heap.size w (wr.alloc (.cells #[.int .i64 (i : Int)] 3)) := BB.alloc BB.size _
      have hsz2 : w.heap.size ≤ (wr.alloc (.cells #[.int .i64 (i : Int)] 3)).heap.size := BB2.size
      cases lf
      · obtain ⟨n1_, n2_, n3_, n4_⟩ := HNI rfl
        obtain ⟨l, rfl⟩ : ∃ l : Nat, ll = (l : Int) := ⟨ll.toNat, by omega⟩
        obtain ⟨m, rfl⟩ : ∃ m : Nat, rr = (m : Int) := ⟨rr.toNat, by omega⟩
        have HI2 : Hid (DInv t n (outs ++ [i]) (ws ++ [m, l])) := HI.out.split HO.out HLF.out HLL.out HRR.out (by omega) (by omega) (by omega) (by omega)
        have hl2 := HI2.out.len
        rw [List.length_append, List.length_append] at hl2
        clear HI HNI HLF HLL HRR
        go_wp2_with (first
          | (at_builtin
             refine wpList_append_pureM (Q' := fun _ => False) rfl _ _ _ rfl w.heap.size 3 (.int .i64 0) 1 8 Tryz.underlying68 info_int rfl (by omega) (.slice oo outs.length co_) rfl outs.length (outs.map (fun x : Nat => Value.int .i64 (x : Int))) hO2 (fun _ _ _ _ _ h => h) ⟨wr.heap.size, 0, none⟩ 1 1 (by omega) (by omega) rfl [.int .i64 (i : Int)] rfl (news_block (heap_alloc_new _ _)) (by simp [Value.oneCell']) (by simp) (by simp) (by omega) (by omega) hsz2 ?_
             intro go co2 w2 hO3 hg3 hat3 _ _
             have hW3 := hW2.stay hg3 hAs2.symm
             have hAs3 := (asideI_new hW2 hAs2.symm hat3 (m := outs.length + 1) (c := co2)).symm
             have hO4 := int_more hO3
             have hB3 : Below w.heap.size w w2 := below_grownB BB2 hg3 BB2.size (fun g h => (hO2.both g h).1)
             clear hO3 hg3 hat3 BB2 hO2 hW2 hWp hO1 hAs2 BB XW
             obtain ⟨N_0, N_1, N_2, N_3, N_4, N_5, N_6, N_7, N_8, N_9, N_10, N_11, N_12, N_13⟩ := NN.low hB3
             obtain ⟨W1, hW1, hS1, hL1, VN, FN⟩ := V14.lay w2 46 (.bool false) (.int .i64 ft) (.bool p1) (.slice a1 n1 c1) (.slice b1 m1 d1) (.int .i64 (l : Int)) (.int .i64 (m : Int)) (.bool ms) (.bool p2) (.slice a2 n2 c2) (.slice b2 m2 d2) (.bool p3) (.slice a3 n3 c3) (.slice b3 m3 d3)
             replace hB3 := hB3.trans (hL1.mono hB3.size)
             have hO5 := hO4.later hL1
             have hW5 := hW3.later hL1
             obtain ⟨V_0, V_1, V_2, V_3, V_4, V_5, V_6, V_7, V_8, V_9, V_10, V_11, V_12, V_13⟩ := id VN
             have hA6 : Below W1.heap.size W1 (W1.alloc (.cells #[.int .i64 (m : Int), .int .i64 (l : Int)] 3)) := (Below.refl _ _).alloc (Nat.le_refl _) _
             have hO6 := hO5.later hA6
             have hW6 := hW5.later hA6
             have BB6 : Below w.heap.size w (W1.alloc (.cells #[.int .i64 (m : Int), .int .i64 (l : Int)] 3)) := hB3.alloc hB3.size _
             have hsz6 := BB6.size
             have hnb6 := news_block (heap_alloc_new W1 (.cells #[.int .i64 (m : Int), .int .i64 (l : Int)] 3))
             rw [hS1] at hnb6
             have hW7 := int_len HWK.out hW6
             subst hW1)
          | (at_builtin
             refine wpList_append_pureM (Q' := fun _ => False) rfl _ _ _ rfl w.heap.size 3 (.int .i64 0) 1 8 Tryz.underlying68 info_int rfl (by omega) (.slice (some ⟨gw, 0, none⟩) k cw) rfl k (ws.map (fun x : Nat => Value.int .i64 (x : Int))) hW7 (fun _ _ _ _ _ h => h) ⟨w2.heap.size + 1, 0, none⟩ 2 2 (by omega) (by omega) ?g12 [.int .i64 (m : Int), .int .i64 (l : Int)] rfl hnb6 ?g15 ?g16 ?g17 (by omega) (by omega) hsz6 ?_
             case g12 => (first | (simp; done) | rfl)
             case g15 => simp [Value.oneCell']
             case g16 => simp
             case g17 => simp
             intro gn cn w3 hW8 hg8 hat8 _ _
             have hO9 := hO6.stay hg8 hAs3
             have hAs9 := asideI_new hO6 hAs3 hat8 (m := k + 2) (c := cn)
             have hB9 : Below w.heap.size w w3 := below_grownB BB6 hg8 BB6.size (fun g h => (hW6.both g h).1)
             have hW9 := int_more2 HWK.out hW8
             clear hW8 hg8 hat8 hW7 hO6 hW6 BB6 hA6 hnb6 hsz6 V_0 V_1 V_2 V_3 V_4 V_5 V_6 V_7 V_8 V_9 V_10 V_11 V_12 V_13))
        go_roundw
        case rel => exact ⟨outs ++ [i], ws ++ [m, l], hO9, hW9, hAs9, HI2, hB9⟩
        case measure => simp [lenV]; simp at hl2; omega
      · have HI2 : Hid (DInv t n (outs ++ [i]) ws) := HI.out.leaf HLF.out
        have hl2 := HI2.out.len
        rw [List.length_append] at hl2
        clear HI HNI HLF HLL HRR
        go_wp2_with (first
          | (at_builtin
             refine wpList_append_pureM (Q' := fun _ => False) rfl _ _ _ rfl w.heap.size 3 (.int .i64 0) 1 8 Tryz.underlying68 info_int rfl (by omega) (.slice oo outs.length co_) rfl outs.length (outs.map (fun x : Nat => Value.int .i64 (x : Int))) hO2 (fun _ _ _ _ _ h => h) ⟨wr.heap.size, 0, none⟩ 1 1 (by omega) (by omega) rfl [.int .i64 (i : Int)] rfl (news_block (heap_alloc_new _ _)) (by simp [Value.oneCell']) (by simp) (by simp) (by omega) (by omega) hsz2 ?_
             intro go co2 w2 hO3 hg3 hat3 _ _
             have hW3 := hW2.stay hg3 hAs2.symm
             have hAs3 := (asideI_new hW2 hAs2.symm hat3 (m := outs.length + 1) (c := co2)).symm
             have hO4 := int_more hO3
             have hB3 : Below w.heap.size w w2 := below_grownB BB2 hg3 BB2.size (fun g h => (hO2.both g h).1)
             clear hO3 hg3 hat3 BB2 hO2 hW2 hWp hO1 hAs2 BB XW
             obtain ⟨N_0, N_1, N_2, N_3, N_4, N_5, N_6, N_7, N_8, N_9, N_10, N_11, N_12, N_13⟩ := NN.low hB3
             obtain ⟨W1, hW1, hS1, hL1, VN, FN⟩ := V14.lay w2 46 (.bool true) (.int .i64 ft) (.bool p1) (.slice a1 n1 c1) (.slice b1 m1 d1) (.int .i64 ll) (.int .i64 rr) (.bool ms) (.bool p2) (.slice a2 n2 c2) (.slice b2 m2 d2) (.bool p3) (.slice a3 n3 c3) (.slice b3 m3 d3)
             replace hB3 := hB3.trans (hL1.mono hB3.size)
             have hO5 := hO4.later hL1
             have hW5 := hW3.later hL1
             obtain ⟨V_0, V_1, V_2, V_3, V_4, V_5, V_6, V_7, V_8, V_9, V_10, V_11, V_12, V_13⟩ := id VN
             subst hW1))
        go_roundw
        case rel => exact ⟨outs ++ [i], ws, hO5, by have := HWK.out; unfold IntOwn at hW5 ⊢; rw [this] at hW5 ⊢; exact hW5, hAs3, HI2, hB3⟩
        case measure => simp [lenV]; simp at hl2; omega





theorem ExT.open {w : World} {x y z : Value} {o : Option Rat} (h : ExT w x y z o) : ∃ p a n c b m d, x = .bool p ∧ y = .slice a n c ∧ z = .slice b m d := by
 cases o with
 | none => exact ⟨_, _, _, _, _, _, _, h.1, h.2.1, h.2.2⟩
 | some q =>
  obtain ⟨p, a, n, c, b, m, d, e⟩ := RepQ.open h
  injection e with e
  simp only [Array.mk.injEq, List.cons.injEq, and_true] at e
  exact ⟨p, a, n, c, b, m, d, e.1, e.2.1, e.2.2⟩
theorem TNode.open {w : World} {el : Nat → Value} {d : TidN} (h : TNode w el d) : ∃ lf ft y1 e1 f1 g1 h1 k1 l1 ll rr ms y2 e2 f2 g2 h2 k2 l2 y3 e3 f3 g3 h3 k3 l3, el 0 = .bool lf ∧ el 1 = .int .i64 ft ∧ el 2 = .bool y1 ∧ el 3 = .slice e1 f1 g1 ∧ el 4 = .slice h1 k1 l1 ∧ el 5 = .int .i64 ll ∧ el 6 = .int .i64 rr ∧ el 7 = .bool ms ∧ el 8 = .bool y2 ∧ el 9 = .slice e2 f2 g2 ∧ el 10 = .slice h2 k2 l2 ∧ el 11 = .bool y3 ∧ el 12 = .slice e3 f3 g3 ∧ el 13 = .slice h3 k3 l3 := by
 obtain ⟨h0, h1, h2, h5, h6, h7, h8, h11⟩ := h
 obtain ⟨p1, a1, n1, c1, b1, m1, d1, x2, x3, x4⟩ := h2.open
 obtain ⟨p2, a2, n2, c2, b2, m2, d2, x8, x9, x10⟩ := h8.open
 obtain ⟨p3, a3, n3, c3, b3, m3, d3, x11, x12, x13⟩ := h11.open
 exact ⟨_, _, _, _, _, _, _, _, _, _, _, _, _, _, _, _, _, _, _, _, _, _, _, _, _, _, h0, h1, x2, x3, x4, h5, h6, h7, x8, x9, x10, x11, x12, x13⟩

theorem once_bad1 (t : Nat → Nd) (n j : Nat) : bad5 1 (fun x => (par t x n : Int)) j = bad1 t n j := by
 unfold bad5 bad1
 congr 1
 by_cases h : par t j n = 1
 ·rw [decide_eq_false (by simp [h]), decide_eq_false (by simp [h])]
 ·rw [decide_eq_true (show (par t j n : Int) ≠ 1 by omega), decide_eq_true h]
theorem once_bad2 {t : Nat → Nd} {n : Nat} {outs : List Nat} (h : DInv t n outs []) (ho : Once t n) (j : Nat) (hj : j < n) : bad5 0 (fun x => (outs.count x : Int)) j = bad2 t n j := by
 unfold bad5 bad2
 rw [decide_eq_true (Nat.zero_le _), Bool.true_and]
 have hd : outs.Nodup := by have := h.nodup; simpa using this
 have hm := h.all ho j hj
 by_cases e : j ∈ outs
 ·rw [hm.2 e]
  refine decide_eq_false ?_
  show ¬ ((outs.count j : Nat) : Int) ≠ 1
  rw [hd.count, if_pos e]
  simp
 ·have : lawUp t n (n + 1) j = false := by
   cases g : lawUp t n (n + 1) j with
   | false => rfl
   | true => exact absurd (hm.1 g) e
  rw [this]
  refine decide_eq_true ?_
  show ((outs.count j : Nat) : Int) ≠ 1
  rw [hd.count, if_neg e]
  simp
theorem rlV1_some {F : Int} {t : Nat → Nd} {n j : Nat} (h : fb (bad1 t n) n = some j) : rlV F t n 1 = .agg #[.int .i64 11, .int .i64 0, .int .i64 0, .int .i64 (j : Int)] := by
 rw [rlV1, h]
 show nfV (bad1 t n) n 11 = _
 unfold nfV
 rw [h]
 rfl
theorem rlV1_none {F : Int} {t : Nat → Nd} {n : Nat} (h : fb (bad1 t n) n = none) : rlV F t n 1 = nfV (bad2 t n) n 11 := by rw [rlV1, h]
theorem nfV_agg (p : Nat → Bool) (n : Nat) (e : Int) : ∃ a d : Int, nfV p n e = .agg #[.int .i64 a, .int .i64 0, .int .i64 0, .int .i64 d] := by
 unfold nfV
 cases fb p n with
 | none => exact ⟨0, 0, rfl⟩
 | some j => exact ⟨e, (j : Int), rfl⟩
theorem count_take {outs : List Nat} {k x : Nat} (h : outs[k]? = some x) (y : Nat) : (outs.take (k + 1)).count y = (outs.take k).count y + (if y = x then 1 else 0) := by
 rw [List.take_add_one, h]
 simp only [Option.toList, List.count_append, List.count_singleton]
 by_cases e : y = x
 ·subst e; simp
 ·rw [if_neg e]; simp; exact fun h => e h.symm


set_option maxRecDepth 100000 in
set_option maxHeartbeats 8000000 in
theorem isTree_at (v : Value) (n : Nat) (t : Nat → Nd) (F : Int) (L : Nat) (w : World) (hv : TRow w v n t L) (hN : Named t n) (hn0 : 0 < n) (hn : n ≤ 255) :
  Calls Tryz.prog 92 #[v, .int .i64 F] w fun e w' => e = .returned (rlV F t n 1) ∧ Below w.heap.size w w' := by
 obtain ⟨ao, c, rfl, hnc, hc63⟩ := hv.open
 obtain ⟨i0, hi, hz0, hz1, hz2⟩ := info_parts info_int
 have BB : Below w.heap.size w w := Below.refl _ _
 obtain ⟨Wb0, hW0, hS0, hL0, VR⟩ := V4.lay w 31 (.int .i64 0) (.int .i64 0) (.int .i64 0) (.int .i64 0)
 replace hv := hv.below hL0
 replace BB := BB.trans (hL0.mono BB.size)
 clear hL0
 go_enter Tryz.func92, Tryz.ntmps92
 go_wp2_with fail
 rw [← hW0]
 clear hW0 hS0
 refine (parents_at _ n t L _ hv hN hn).mono ?_
 rintro e w1 ⟨rp, rfl, NP, b1⟩
 replace hv := hv.below b1
 replace VR := VR.below b1
 replace BB := BB.trans (b1.mono BB.size)
 clear b1
 go_wp2_with fail
 refine (notOnce_at _ n 1 (fun x => (par t x n : Int)) _ NP).mono ?_
 rintro e w2 ⟨rfl, b2⟩
 replace hv := hv.below b2
 replace NP := NP.below b2
 replace VR := VR.below b2
 replace BB := BB.trans (b2.mono BB.size)
 clear b2
 rw [nfV_congr (fun j _ => once_bad1 t n j)]
 have HFB : Hid (nfV (bad1 t n) n 11 = fltV ((fb (bad1 t n) n).map (fun i => (11, 0, i)))) := rfl
 rw [HFB.out]
 cases hfb : fb (bad1 t n) n
 clear NP
 ·have HF1 : Hid (fb (bad1 t n) n = none) := hfb
  have HO : Hid (Once t n) := bad1_once hfb
  clear hfb HFB
  rw [show fltV (Option.map (fun i => ((11 : Int), 0, i)) none) = .agg #[.int .i64 0, .int .i64 0, .int .i64 0, .int .i64 0] from rfl]
  obtain ⟨W1, hW1, hS1, hL1, VF⟩ := V4.lay w2 31 (.int .i64 0) (.int .i64 0) (.int .i64 0) (.int .i64 0)
  replace hv := hv.below hL1
  replace VR := VR.below hL1
  replace BB := BB.trans (hL1.mono BB.size)
  obtain ⟨⟨y1, y2, y3, y4, y5, y6⟩, y7, y8⟩ := id VF
  rw [hW1] at y1 y2 y3 y4 y5 y6 y7 y8
  clear VF hS1
  go_wp2_with (at_make; rw [← hW1]; refine wpList_make_full _ rfl _ _ 68 rfl _ 3 i0 (.int .i64 0) 1 Tryz.underlying68 hi hz0 hz1 _ _ _ _ n rfl rfl (by omega) (by omega) (by rw [hz2]; omega) (by unfold maxLen; omega) (Nat.le_refl _) ?_; intro w3 hown hgrow; clear hW1 y1 y2 y3 y4 y5 y6 y7 y8)
  obtain ⟨hC, hSf⟩ := mine_made (k := .i64) (w := W1) hown (fun _ => 0) (fun i hi => made_zero .i64 n i hi)
  have hG := (World.ownsRow.lt hown W1.heap.size rfl).2
  have hb3 := below_grown hgrow
  clear hown hgrow hi hz0 hz1 hz2 hL1
  have hv3 := hv.below hb3
  refine (reached_at _ n t L _ hv3 hN HO.out hn0 hn).mono ?_
  rintro e w4 ⟨r2, outs, rfl, hO, hD, b4⟩
  have HD : Hid (DInv t n outs []) := hD
  have hol := hD.len
  have hsm := hD.small
  clear hD hv3
  have hC4 := hC.below b4 hG
  have hSf4 := hSf.below b4 hG
  have hb4 := hb3.trans (b4.mono hb3.size)
  have hG4 : W1.heap.size < w4.heap.size := Nat.lt_of_lt_of_le hG b4.size
  have HG3 : Hid (W1.heap.size < w3.heap.size) := hG
  simp only [List.append_nil] at hsm
  have HSM : Hid (∀ x, x ∈ outs → x < n) := hsm
  clear hsm hC hSf hb3 b4 hG
  obtain ⟨ro, rc, rfl, hrc⟩ := hO.form
  go_wp2
  go_loopw [22] (fun vi wr => ∃ k : Nat, k ≤ outs.length ∧ vi = .int .i64 (k : Int) ∧ Cells wr .i64 W1.heap.size 0 n (fun x => ((outs.take k).count x : Int)) ∧ Soft wr W1.heap.size 0 n ∧ IntOwn w3.heap.size wr (.slice ro outs.length rc) outs ∧ W1.heap.size < wr.heap.size ∧ Below W1.heap.size W1 wr) (fun vi _ => outs.length - (intOf vi).toNat)
  case atStart => exact ⟨0, by omega, rfl, hC4, hSf4, hO, hG4, hb4⟩
  case round =>
   clear hC4 hSf4 hO hG4 hb4
   obtain ⟨k, hk, rfl, hC, hSf, hO, hG, BL⟩ := hrel
   simp only [List.length_nil, Nat.add_zero] at hol
   by_cases hlt : k < outs.length
   ·obtain ⟨i, hi⟩ : ∃ i, outs[k]? = some i := ⟨outs[k], List.getElem?_eq_getElem hlt⟩
    have hin : i < n := HSM.out i (List.mem_of_getElem? hi)
    obtain ⟨gw, cw, hvv, hwc⟩ := hO.open (by omega)
    cases hvv
    have XO := hO.cell rfl hi
    have XC := zero_off hC hin
    have YC := zero_soft hSf hin
    have g1 : (k : Int) < (outs.length : Int) := by omega
    have g0 : (0 : Int) ≤ (k : Int) := by omega
    have e0 : (0 : Int) ≤ (i : Int) := by omega
    have e1 : (i : Int) < (n : Int) := by omega
    have hcb : (outs.take k).count i ≤ 255 := Nat.le_trans List.count_le_length (by rw [List.length_take]; omega)
    obtain ⟨pc, hpc⟩ : ∃ z, (outs.take k).count i = z := ⟨_, rfl⟩
    rw [hpc] at XC hcb
    have HPC : Hid ((outs.take k).count i = pc) := hpc
    have HI : Hid (outs[k]? = some i) := hi
    clear hpc hi
    have wl : IntKind.i64.wrap ((pc : Int) + 1) = (pc : Int) + 1 := by rw [IntKind.wrap_i64]; omega
    have hC2 := zero_set hC hin ((pc : Int) + 1)
    have hSf2 : Soft _ W1.heap.size 0 n := hSf.set ⟨W1.heap.size, i, none⟩ (.int .i64 ((pc : Int) + 1))
    have hO2 : IntOwn w3.heap.size (wr.setCell ⟨W1.heap.size, i, none⟩ (.int .i64 ((pc : Int) + 1))) _ outs := ownsRow_setCell_below hO HG3.out _
    have BL2 : Below W1.heap.size W1 (wr.setCell ⟨W1.heap.size, i, none⟩ (.int .i64 ((pc : Int) + 1))) := BL.setCell (Nat.le_refl _) _
    have HCG : Hid (∀ x, x < n → put (fun x => ((outs.take k).count x : Int)) i ((pc : Int) + 1) x = ((outs.take (k + 1)).count x : Int)) := fun x hx => by
     rw [count_take HI.out x]
     by_cases e : x = i
     ·subst e; rw [put_same, if_pos rfl, HPC.out]; omega
     ·rw [put_other _ _ _ _ e, if_neg e]; simp
    clear HPC HI
    go_wp2
    go_roundw
    case rel => exact ⟨k + 1, by omega, by go_num, hC2.congr HCG.out, hSf2, hO2, by simpa using hG, BL2⟩
    case measure => simp [intOf]; omega
   ·obtain rfl : k = outs.length := by omega
    have g1 : ¬ (outs.length : Int) < (outs.length : Int) := by omega
    rw [List.take_length] at hC
    have VR2 := VR.below BL
    have BB2 := BB.trans (BL.mono BB.size)
    have NT : Nums .i64 wr (.slice (some ⟨W1.heap.size, 0, none⟩) n n) n (fun x => (outs.count x : Int)) := ⟨_, _, rfl, Nat.le_refl _, by unfold LIM; omega, fun _ => ⟨_, _, rfl, hC⟩⟩
    go_wp2_with fail
    refine (notOnce_at _ n 0 (fun x => (outs.count x : Int)) _ NT).mono ?_
    rintro e w6 ⟨rfl, b6⟩
    replace VR := VR2.below b6
    replace BB := BB2.trans (b6.mono BB2.size)
    rw [nfV_congr (fun j hj => once_bad2 HD.out HO.out j hj), ← rlV1_none (F := F) HF1.out]
    obtain ⟨fa, fd, hfa⟩ := nfV_agg (bad2 t n) n 11
    rw [← rlV1_none (F := F) HF1.out] at hfa
    have HFA : Hid (rlV F t n 1 = .agg #[.int .i64 fa, .int .i64 0, .int .i64 0, .int .i64 fd]) := hfa
    rw [hfa]
    clear hfa
    obtain ⟨⟨q1, q2, q3, q4, q5, q6⟩, q7, q8⟩ := id VR
    go_wp2
    (try simp only [Exit.inBlock, Exit.then])
    refine bodyPost_ret (v := .agg #[.int .i64 fa, .int .i64 0, .int .i64 0, .int .i64 fd]) (by simp [results, go_sem, q1, q2, q3, q7]) rfl ?_
    exact ⟨congrArg Ending.returned (HFA.out).symm, below_store4 BB (by omega) _ _ _ _⟩
 ·rename_i j
  have HF1 : Hid (fb (bad1 t n) n = some j) := hfb
  clear hfb HFB
  rw [show fltV (Option.map (fun i => ((11 : Int), 0, i)) (some j)) = .agg #[.int .i64 11, .int .i64 0, .int .i64 0, .int .i64 (j : Int)] from rfl]
  obtain ⟨W1, rfl, hS1, hL1, VF⟩ := V4.lay w2 31 (.int .i64 11) (.int .i64 0) (.int .i64 0) (.int .i64 (j : Int))
  replace VR := VR.below hL1
  replace BB := BB.trans (hL1.mono BB.size)
  obtain ⟨⟨y1, y2, y3, y4, y5, y6⟩, y7, y8⟩ := id VF
  obtain ⟨⟨q1, q2, q3, q4, q5, q6⟩, q7, q8⟩ := id VR
  go_wp2
  (try simp only [Exit.inBlock, Exit.then])
  refine bodyPost_ret (v := .agg #[.int .i64 11, .int .i64 0, .int .i64 0, .int .i64 (j : Int)]) (by simp [results, go_sem, q1, q2, q3, q7]) rfl ?_
  exact ⟨congrArg Ending.returned (rlV1_some HF1.out).symm, below_store4 BB (by omega) _ _ _ _⟩

theorem N14.below {w w' : World} {b o : Nat} {x0 x1 x2 x3 x4 x5 x6 x7 x8 x9 x10 x11 x12 x13 : Value} (h : N14 w b o x0 x1 x2 x3 x4 x5 x6 x7 x8 x9 x10 x11 x12 x13) (hb : Below w.heap.size w w') : N14 w' b o x0 x1 x2 x3 x4 x5 x6 x7 x8 x9 x10 x11 x12 x13 := h.low hb
theorem bad4_leaf {t : Nat → Nd} {i : Nat} (h : (t i).leaf = true) : bad4 t i = false := by unfold bad4; rw [h]; rfl
theorem bad4_split {t : Nat → Nd} {i l m : Nat} (h : (t i).leaf = false) (hl : (t i).left = (l : Int)) (hm : (t i).right = (m : Int)) : bad4 t i = !decide ((t i).cov = (t l).cov + (t m).cov) := by
 unfold bad4
 rw [h, hl, hm]
 rfl


set_option maxRecDepth 100000 in
set_option maxHeartbeats 8000000 in
theorem addsUp_at (v : Value) (n : Nat) (t : Nat → Nd) (F : Int) (L : Nat) (w : World) (hv : TRow w v n t L) (ht : Tab w) (hN : Named t n) (hL : 1 ≤ L) (hLM : L ≤ 30000) :
  Calls Tryz.prog 94 #[v, .int .i64 F] w fun e w' => e = .returned (rlV F t n 3) ∧ Below w.heap.size w w' := by
 obtain ⟨ao, c, rfl, hnc, hc63⟩ := hv.open
 have BB : Below w.heap.size w w := Below.refl _ _
 obtain ⟨Wb0, hW0, hS0, hL0, VR⟩ := V4.lay w 31 (.int .i64 0) (.int .i64 0) (.int .i64 0) (.int .i64 0)
 replace hv := hv.below hL0
 replace BB := BB.trans (hL0.mono BB.size)
 clear hL0
 go_enter Tryz.func94, Tryz.ntmps94
 go_wp2
 rw [← hW0]
 clear hW0 hS0
 have ht0 := ht
 have hv0 := hv
 have VR0 := VR
 have BB0 : Hid (Below w.heap.size w Wb0) := BB
 clear hv ht VR BB
 have HN : Hid (Named t n) := hN
 clear hN
 go_loopw [9] (fun vi wr => ∃ i : Nat, i ≤ n ∧ vi = .int .i64 (i : Int) ∧ Hid (∀ j, j < i → bad4 t j = false) ∧ Below Wb0.heap.size Wb0 wr) (fun vi _ => n - (intOf vi).toNat)
 case atStart => exact ⟨0, by omega, rfl, fun j hj => by omega, Below.refl _ _⟩
 case round =>
  obtain ⟨i, hi, rfl, HB, BL⟩ := hrel
  have VR := VR0.below BL
  have BB := BB0.out.trans (BL.mono BB0.out.size)
  by_cases hlt : i < n
  ·have g1 : (i : Int) < (n : Int) := by omega
   have g0 : (0 : Int) ≤ (i : Int) := by omega
   have hv1 := hv0.below BL
   obtain ⟨b, off, cc, p1, a1, n1, c1, b1, m1, d1, p2, a2, n2, c2, b2, m2, d2, p3, a3, n3, c3, b3, m3, d3, hvv, hcc, hc6, NN, r1, r2, r3, i1, i2, i3⟩ := hv1.at hlt
   cases hvv
   clear r1 r2 i1 i2 i3
   have BLR := BL
   clear BL
   have HNI := HN.out i hlt
   obtain ⟨lf, hlf⟩ : ∃ z, (t i).leaf = z := ⟨_, rfl⟩
   obtain ⟨ll, hll⟩ : ∃ z, (t i).left = z := ⟨_, rfl⟩
   obtain ⟨rr, hrr⟩ : ∃ z, (t i).right = z := ⟨_, rfl⟩
   have HLF : Hid ((t i).leaf = lf) := hlf
   have HLL : Hid ((t i).left = ll) := hll
   have HRR : Hid ((t i).right = rr) := hrr
   rw [hlf, hll, hrr] at HNI
   rw [hlf, hll, hrr] at NN
   clear hlf hll hrr
   generalize (t i).miss = ms at NN
   generalize (t i).feat = ft at NN
   cases lf
   ·obtain ⟨n1_, n2_, n3_, n4_⟩ := HNI rfl
    obtain ⟨l, rfl⟩ : ∃ l : Nat, ll = (l : Int) := ⟨ll.toNat, by omega⟩
    obtain ⟨m, rfl⟩ : ∃ m : Nat, rr = (m : Int) := ⟨rr.toNat, by omega⟩
    have hl1 : l < n := by omega
    have hm1 : m < n := by omega
    have e1 : (0 : Int) ≤ (l : Int) := by omega
    have e2 : (l : Int) < (n : Int) := by omega
    have e3 : (0 : Int) ≤ (m : Int) := by omega
    have e4 : (m : Int) < (n : Int) := by omega
    clear HNI
    obtain ⟨bL, offL, ccL, p1L, a1L, n1L, c1L, b1L, m1L, d1L, p2L, a2L, n2L, c2L, b2L, m2L, d2L, p3L, a3L, n3L, c3L, b3L, m3L, d3L, hvvL, hccL, hc6L, NNL, r1L, r2L, r3L, i1L, i2L, i3L⟩ := hv1.at hl1
    cases hvvL
    obtain ⟨bM, offM, ccM, p1M, a1M, n1M, c1M, b1M, m1M, d1M, p2M, a2M, n2M, c2M, b2M, m2M, d2M, p3M, a3M, n3M, c3M, b3M, m3M, d3M, hvvM, hccM, hc6M, NNM, r1M, r2M, r3M, i1M, i2M, i3M⟩ := hv1.at hm1
    cases hvvM
    clear hv1 r1L r2L r1M r2M i1L i2L i3L i1M i2M i3M
    have HP : Hid (bad4 t i = !decide ((t i).cov = (t l).cov + (t m).cov)) := bad4_split HLF.out HLL.out HRR.out
    have sl := r3L.qsz hL
    have sm := r3M.qsz hL
    have sS : qsz ((t l).cov + (t m).cov) ≤ L + L + 1 := qsz_add _ _ sl sm
    clear HLF HLL HRR
    have ht1 := ht0.below BB
    obtain ⟨N_0, N_1, N_2, N_3, N_4, N_5, N_6, N_7, N_8, N_9, N_10, N_11, N_12, N_13⟩ := id NN
    obtain ⟨W21, hW21, hS21, hL21, VN, FN⟩ := V14.lay wr 46 (.bool false) (.int .i64 ft) (.bool p1) (.slice a1 n1 c1) (.slice b1 m1 d1) (.int .i64 (l : Int)) (.int .i64 (m : Int)) (.bool ms) (.bool p2) (.slice a2 n2 c2) (.slice b2 m2 d2) (.bool p3) (.slice a3 n3 c3) (.slice b3 m3 d3)
    replace VR := VR.below hL21
    replace NNL := NNL.below hL21
    replace NNM := NNM.below hL21
    replace r3 := r3.below hL21
    replace r3L := r3L.below hL21
    replace r3M := r3M.below hL21
    replace ht1 := ht1.below hL21
    replace BLR := BLR.trans (hL21.mono BLR.size)
    replace BB := BB.trans (hL21.mono BB.size)
    clear hL21
    obtain ⟨V_0, V_1, V_2, V_3, V_4, V_5, V_6, V_7, V_8, V_9, V_10, V_11, V_12, V_13⟩ := id VN
    rw [hW21] at V_0 V_1 V_2 V_3 V_4 V_5 V_6 V_7 V_8 V_9 V_10 V_11 V_12 V_13
    go_wp2
    clear V_0 V_1 V_2 V_3 V_4 V_5 V_6 V_7 V_8 V_9 V_10 V_11 V_12 V_13
    clear N_0 N_1 N_2 N_3 N_4 N_5 N_6 N_7 N_8 N_9 N_10 N_11 N_12 N_13
    rw [← hW21]
    generalize wr.heap.size = R21 at *
    clear hW21 hS21
    by_cases hq : (t i).cov = (t l).cov + (t m).cov
    ·have hDr : Below W21.heap.size W21 W21.drew := (Below.refl _ _).drew
     replace VR := VR.below hDr
     replace NNL := NNL.below hDr
     replace NNM := NNM.below hDr
     replace r3 := r3.below hDr
     replace r3L := r3L.below hDr
     replace r3M := r3M.below hDr
     replace ht1 := ht1.below hDr
     replace VN := VN.below hDr
     replace BB := BB.trans (hDr.mono BB.size)
     replace BLR := BLR.trans (hDr.mono BLR.size)
     clear hDr
     refine wp_region_held_drew (S := (fun w' => w'.cell? ⟨R21, 0, none⟩ = some (.bool false) ∧ w'.cell? ⟨R21, 5, none⟩ = some (.int .i64 (l : Int)) ∧ w'.cell? ⟨R21, 6, none⟩ = some (.int .i64 (m : Int)) ∧ w'.cell? ⟨R21, 11, none⟩ = some (.bool p3) ∧ w'.cell? ⟨R21, 12, none⟩ = some (.slice a3 n3 c3) ∧ w'.cell? ⟨R21, 13, none⟩ = some (.slice b3 m3 d3) ∧ w'.cell? ⟨b, off + l * 14 + 11, none⟩ = some (.bool p3L) ∧ w'.cell? ⟨b, off + l * 14 + 12, none⟩ = some (.slice a3L n3L c3L) ∧ w'.cell? ⟨b, off + l * 14 + 13, none⟩ = some (.slice b3L m3L d3L) ∧ w'.cell? ⟨b, off + m * 14 + 11, none⟩ = some (.bool p3M) ∧ w'.cell? ⟨b, off + m * 14 + 12, none⟩ = some (.slice a3M n3M c3M) ∧ w'.cell? ⟨b, off + m * 14 + 13, none⟩ = some (.slice b3M m3M d3M))) (by kernel_rfl) ?_ (fun hHeld => ?_)
     ·exact ⟨VN.c0, VN.c5, VN.c6, VN.c11, VN.c12, VN.c13, NNL.c11, NNL.c12, NNL.c13, NNM.c11, NNM.c12, NNM.c13⟩
     generalize W21.drew = W22 at *
     refine wpAnyH_take (i := 0) (v := ?_) (by simp only [xL1, xL2, xL3]; rfl) (by kernel_rfl) (by kernel_rfl) (by kernel_rfl) (by exact fun _ _ _ h => h) (Or.inl ⟨by rfl, ?_⟩) (by assumption) ?_
     rotate_left
     ·(intro w hSw; (try dsimp only at hSw); go_simp; (try with_reducible rfl))
     (try simp only [Act.put, xL4, xL5, xL6])
     refine wpAnyH_take (i := 1) (v := ?_) (by simp only [xL1, xL2, xL3]; rfl) (by kernel_rfl) (by kernel_rfl) (by kernel_rfl) (by exact fun _ _ _ h => h) (Or.inl ⟨by rfl, ?_⟩) (by assumption) ?_
     rotate_left
     ·(intro w hSw; (try dsimp only at hSw); go_simp; (try with_reducible rfl))
     (try simp only [Act.put, xL4, xL5, xL6])
     refine wpAnyH_take (i := 2) (v := ?_) (by simp only [xL1, xL2, xL3]; rfl) (by kernel_rfl) (by kernel_rfl) (by kernel_rfl) (by exact fun _ _ _ h => h) (Or.inl ⟨by rfl, ?_⟩) (by assumption) ?_
     rotate_left
     ·(intro w hSw; (try dsimp only at hSw); go_simp; (try with_reducible rfl))
     (try simp only [Act.put, xL4, xL5, xL6])
     refine wpAnyH_take (i := 3) (v := ?_) (by simp only [xL1, xL2, xL3]; rfl) (by kernel_rfl) (by kernel_rfl) (by kernel_rfl) (by exact fun _ _ _ h => h) (Or.inl ⟨by rfl, ?_⟩) (by assumption) ?_
     rotate_left
     ·(intro w hSw; (try dsimp only at hSw); go_simp; (try with_reducible rfl))
     (try simp only [Act.put, xL4, xL5, xL6])
     refine wpAnyH_take (i := 4) (v := ?_) (by simp only [xL1, xL2, xL3]; rfl) (by kernel_rfl) (by kernel_rfl) (by kernel_rfl) (by exact fun _ _ _ h => h) (Or.inl ⟨by rfl, ?_⟩) (by assumption) ?_
     rotate_left
     ·(intro w hSw; (try dsimp only at hSw); go_simp; (try with_reducible rfl))
     (try simp only [Act.put, xL4, xL5, xL6])
     refine wpAnyH_take (i := 5) (v := ?_) (by simp only [xL1, xL2, xL3]; rfl) (by kernel_rfl) (by kernel_rfl) (by kernel_rfl) (by exact fun _ _ _ h => h) (Or.inl ⟨by rfl, ?_⟩) (by assumption) ?_
     rotate_left
     ·(intro w hSw; (try dsimp only at hSw); go_simp; (try with_reducible rfl))
     (try simp only [Act.put, xL4, xL5, xL6])
     refine wpAnyH_take (i := 6) (v := ?_) (by simp only [xL1, xL2, xL3]; rfl) (by kernel_rfl) (by kernel_rfl) (by kernel_rfl) (by exact fun _ _ _ h => h) (Or.inl ⟨by rfl, ?_⟩) (by assumption) ?_
     rotate_left
     ·(intro w hSw; (try dsimp only at hSw); go_simp; (try with_reducible rfl))
     (try simp only [Act.put, xL4, xL5, xL6])
     refine wpAnyH_take (i := 7) (v := ?_) (by simp only [xL1, xL2, xL3]; rfl) (by kernel_rfl) (by kernel_rfl) (by kernel_rfl) (by exact fun _ _ _ h => h) (Or.inl ⟨by rfl, ?_⟩) (by assumption) ?_
     rotate_left
     ·(intro w hSw; (try dsimp only at hSw); go_simp; (try with_reducible rfl))
     (try simp only [Act.put, xL4, xL5, xL6])
     refine wpAnyH_take (i := 8) (v := ?_) (by simp only [xL1, xL2, xL3]; rfl) (by kernel_rfl) (by kernel_rfl) (by kernel_rfl) (by exact fun _ _ _ h => h) (Or.inl ⟨by rfl, ?_⟩) (by assumption) ?_
     rotate_left
     ·(intro w hSw; (try dsimp only at hSw); go_simp; (try with_reducible rfl))
     (try simp only [Act.put, xL4, xL5, xL6])
     refine wpAnyH_take (i := 9) (v := ?_) (by simp only [xL1, xL2, xL3]; rfl) (by kernel_rfl) (by kernel_rfl) (by kernel_rfl) (by exact fun _ _ _ h => h) (Or.inl ⟨by rfl, ?_⟩) (by assumption) ?_
     rotate_left
     ·(intro w hSw; (try dsimp only at hSw); go_simp; (try with_reducible rfl))
     (try simp only [Act.put, xL4, xL5, xL6])
     refine wpAnyH_take (i := 10) (v := ?_) (by simp only [xL1, xL2, xL3]; rfl) (by kernel_rfl) (by kernel_rfl) (by kernel_rfl) (by exact fun _ _ _ h => h) (Or.inl ⟨by rfl, ?_⟩) (by assumption) ?_
     rotate_left
     ·(intro w hSw; (try dsimp only at hSw); go_simp; (try with_reducible rfl))
     (try simp only [Act.put, xL4, xL5, xL6])
     refine wpAnyH_take (i := 11) (v := ?_) (by simp only [xL1, xL2, xL3]; rfl) (by kernel_rfl) (by kernel_rfl) (by kernel_rfl) (by exact fun _ _ _ h => h) (Or.inl ⟨by rfl, ?_⟩) (by assumption) ?_
     rotate_left
     ·(intro w hSw; (try dsimp only at hSw); go_simp; (try with_reducible rfl))
     (try simp only [Act.put, xL4, xL5, xL6])
     refine wpAnyH_take (i := 12) (v := ?_) (by simp only [xL1, xL2, xL3]; rfl) (by kernel_rfl) (by kernel_rfl) (by kernel_rfl) (by exact fun _ _ _ h => h) (Or.inl ⟨by rfl, ?_⟩) (by assumption) ?_
     rotate_left
     ·(intro w hSw; (try dsimp only at hSw); go_simp; (try with_reducible rfl))
     (try simp only [Act.put, xL4, xL5, xL6])
     refine wpAnyH_take (i := 13) (v := ?_) (by simp only [xL1, xL2, xL3]; rfl) (by kernel_rfl) (by kernel_rfl) (by kernel_rfl) (by exact fun _ _ _ h => h) (Or.inl ⟨by rfl, ?_⟩) (by assumption) ?_
     rotate_left
     ·(intro w hSw; (try dsimp only at hSw); go_simp; (try with_reducible rfl))
     (try simp only [Act.put, xL4, xL5, xL6])
     refine wpAnyH_take (i := 14) (v := ?_) (by simp only [xL1, xL2, xL3]; rfl) (by kernel_rfl) (by kernel_rfl) (by kernel_rfl) (by exact fun _ _ _ h => h) (Or.inl ⟨by rfl, ?_⟩) (by assumption) ?_
     rotate_left
     ·(intro w hSw; (try dsimp only at hSw); go_simp; (try with_reducible rfl))
     (try simp only [Act.put, xL4, xL5, xL6])
     refine wpAnyH_take (i := 15) (v := ?_) (by simp only [xL1, xL2, xL3]; rfl) (by kernel_rfl) (by kernel_rfl) (by kernel_rfl) (by exact fun _ _ _ h => h) (Or.inl ⟨by rfl, ?_⟩) (by assumption) ?_
     rotate_left
     ·(intro w hSw; (try dsimp only at hSw); go_simp; (try with_reducible rfl))
     (try simp only [Act.put, xL4, xL5, xL6])
     refine wpAnyH_take (i := 16) (v := ?_) (by simp only [xL1, xL2, xL3]; rfl) (by kernel_rfl) (by kernel_rfl) (by kernel_rfl) (by exact fun _ _ _ h => h) (Or.inl ⟨by rfl, ?_⟩) (by assumption) ?_
     rotate_left
     ·(intro w hSw; (try dsimp only at hSw); go_simp; (try with_reducible rfl))
     (try simp only [Act.put, xL4, xL5, xL6])
     refine wpAnyH_take (i := 17) (v := ?_) (by simp only [xL1, xL2, xL3]; rfl) (by kernel_rfl) (by kernel_rfl) (by kernel_rfl) (by exact fun _ _ _ h => h) (Or.inl ⟨by rfl, ?_⟩) (by assumption) ?_
     rotate_left
     ·(intro w hSw; (try dsimp only at hSw); go_simp; (try with_reducible rfl))
     (try simp only [Act.put, xL4, xL5, xL6])
     refine wpAnyH_ready (rs := [18]) (by kernel_rfl) (by simp) ?_
     refine AllReadyH.cons (by simp only [xL1, xL2, xL3]; rfl) (fun K hK => ?_) AllReadyH.nil
     go_simp
     refine (qadd_at _ _ (t l).cov (t m).cov L _ r3L r3M hL (by omega) ht1).mono ?_
     rintro e w21 ⟨x18, rfl, h18, b21⟩
     go_wp2_with fail
     replace VR := VR.below b21
     replace NNL := NNL.below b21
     replace NNM := NNM.below b21
     replace r3 := r3.below b21
     replace r3L := r3L.below b21
     replace r3M := r3M.below b21
     replace ht1 := ht1.below b21
     replace VN := VN.below b21
     replace BB := BB.trans (b21.mono BB.size)
     replace BLR := BLR.trans (b21.mono BLR.size)
     clear b21
     refine hK.out _ _ ?_ (fun hH1 => ?_)
     ·exact ⟨VN.c0, VN.c5, VN.c6, VN.c11, VN.c12, VN.c13, NNL.c11, NNL.c12, NNL.c13, NNM.c11, NNM.c12, NNM.c13⟩
     clear hK K hHeld
     (try simp only [Act.put, xL4, xL5, xL6])
     refine wpAnyH_ready (rs := [19]) (by kernel_rfl) (by simp) ?_
     refine AllReadyH.cons (by simp only [xL1, xL2, xL3]; rfl) (fun K hK => ?_) AllReadyH.nil
     go_simp
     refine (qsame_at _ _ (t i).cov ((t l).cov + (t m).cov) (L + L + 1) _ (r3.le (by omega)) (h18.at (L + L + 1) sS) (by omega) (by omega)).mono ?_
     rintro e w22 ⟨rfl, b22⟩
     rw [decide_eq_true hq]
     go_wp2_with fail
     replace VR := VR.below b22
     replace NNL := NNL.below b22
     replace NNM := NNM.below b22
     replace r3 := r3.below b22
     replace r3L := r3L.below b22
     replace r3M := r3M.below b22
     replace ht1 := ht1.below b22
     replace VN := VN.below b22
     replace h18 := h18.below b22
     replace BB := BB.trans (b22.mono BB.size)
     replace BLR := BLR.trans (b22.mono BLR.size)
     clear b22
     refine hK.out _ _ ?_ (fun hH2 => ?_)
     ·exact ⟨VN.c0, VN.c5, VN.c6, VN.c11, VN.c12, VN.c13, NNL.c11, NNL.c12, NNL.c13, NNM.c11, NNM.c12, NNM.c13⟩
     clear hK K hH1
     (try simp only [Act.put, xL4, xL5, xL6])
     refine wpAnyH_take (i := 20) (v := ?_) (by simp only [xL1, xL2, xL3]; rfl) (by kernel_rfl) (by kernel_rfl) (by kernel_rfl) (by exact fun _ _ _ h => h) (Or.inl ⟨by rfl, ?_⟩) (by assumption) ?_
     rotate_left
     ·(intro w hSw; (try dsimp only at hSw); go_simp; (try with_reducible rfl))
     (try simp only [Act.put, xL4, xL5, xL6])
     refine wpAnyH_take (i := 21) (v := ?_) (by simp only [xL1, xL2, xL3]; rfl) (by kernel_rfl) (by kernel_rfl) (by kernel_rfl) (by exact fun _ _ _ h => h) (Or.inl ⟨by rfl, ?_⟩) (by assumption) ?_
     rotate_left
     ·(intro w hSw; (try dsimp only at hSw); go_simp; (try with_reducible rfl))
     (try simp only [Act.put, xL4, xL5, xL6])
     refine wpAnyH_done (by kernel_rfl) ?_ _
     clear hH2
     have HB2 : Hid (∀ j, j < i + 1 → bad4 t j = false) := fun j hj => by
      by_cases e : j = i
      ·subst e; rw [HP.out, decide_eq_true hq]; rfl
      ·exact HB.out j (by omega)
     clear HB
     go_wp2
     go_roundw
     case rel => exact ⟨i + 1, by omega, by go_num, HB2, BLR⟩
     case measure => simp [intOf]; omega
    ·have hDr : Below W21.heap.size W21 W21.drew := (Below.refl _ _).drew
     replace VR := VR.below hDr
     replace NNL := NNL.below hDr
     replace NNM := NNM.below hDr
     replace r3 := r3.below hDr
     replace r3L := r3L.below hDr
     replace r3M := r3M.below hDr
     replace ht1 := ht1.below hDr
     replace VN := VN.below hDr
     replace BB := BB.trans (hDr.mono BB.size)
     replace BLR := BLR.trans (hDr.mono BLR.size)
     clear hDr
     refine wp_region_held_drew (S := (fun w' => w'.cell? ⟨R21, 0, none⟩ = some (.bool false) ∧ w'.cell? ⟨R21, 5, none⟩ = some (.int .i64 (l : Int)) ∧ w'.cell? ⟨R21, 6, none⟩ = some (.int .i64 (m : Int)) ∧ w'.cell? ⟨R21, 11, none⟩ = some (.bool p3) ∧ w'.cell? ⟨R21, 12, none⟩ = some (.slice a3 n3 c3) ∧ w'.cell? ⟨R21, 13, none⟩ = some (.slice b3 m3 d3) ∧ w'.cell? ⟨b, off + l * 14 + 11, none⟩ = some (.bool p3L) ∧ w'.cell? ⟨b, off + l * 14 + 12, none⟩ = some (.slice a3L n3L c3L) ∧ w'.cell? ⟨b, off + l * 14 + 13, none⟩ = some (.slice b3L m3L d3L) ∧ w'.cell? ⟨b, off + m * 14 + 11, none⟩ = some (.bool p3M) ∧ w'.cell? ⟨b, off + m * 14 + 12, none⟩ = some (.slice a3M n3M c3M) ∧ w'.cell? ⟨b, off + m * 14 + 13, none⟩ = some (.slice b3M m3M d3M))) (by kernel_rfl) ?_ (fun hHeld => ?_)
     ·exact ⟨VN.c0, VN.c5, VN.c6, VN.c11, VN.c12, VN.c13, NNL.c11, NNL.c12, NNL.c13, NNM.c11, NNM.c12, NNM.c13⟩
     generalize W21.drew = W22 at *
     refine wpAnyH_take (i := 0) (v := ?_) (by simp only [xL1, xL2, xL3]; rfl) (by kernel_rfl) (by kernel_rfl) (by kernel_rfl) (by exact fun _ _ _ h => h) (Or.inl ⟨by rfl, ?_⟩) (by assumption) ?_
     rotate_left
     ·(intro w hSw; (try dsimp only at hSw); go_simp; (try with_reducible rfl))
     (try simp only [Act.put, xL4, xL5, xL6])
     refine wpAnyH_take (i := 1) (v := ?_) (by simp only [xL1, xL2, xL3]; rfl) (by kernel_rfl) (by kernel_rfl) (by kernel_rfl) (by exact fun _ _ _ h => h) (Or.inl ⟨by rfl, ?_⟩) (by assumption) ?_
     rotate_left
     ·(intro w hSw; (try dsimp only at hSw); go_simp; (try with_reducible rfl))
     (try simp only [Act.put, xL4, xL5, xL6])
     refine wpAnyH_take (i := 2) (v := ?_) (by simp only [xL1, xL2, xL3]; rfl) (by kernel_rfl) (by kernel_rfl) (by kernel_rfl) (by exact fun _ _ _ h => h) (Or.inl ⟨by rfl, ?_⟩) (by assumption) ?_
     rotate_left
     ·(intro w hSw; (try dsimp only at hSw); go_simp; (try with_reducible rfl))
     (try simp only [Act.put, xL4, xL5, xL6])
     refine wpAnyH_take (i := 3) (v := ?_) (by simp only [xL1, xL2, xL3]; rfl) (by kernel_rfl) (by kernel_rfl) (by kernel_rfl) (by exact fun _ _ _ h => h) (Or.inl ⟨by rfl, ?_⟩) (by assumption) ?_
     rotate_left
     ·(intro w hSw; (try dsimp only at hSw); go_simp; (try with_reducible rfl))
     (try simp only [Act.put, xL4, xL5, xL6])
     refine wpAnyH_take (i := 4) (v := ?_) (by simp only [xL1, xL2, xL3]; rfl) (by kernel_rfl) (by kernel_rfl) (by kernel_rfl) (by exact fun _ _ _ h => h) (Or.inl ⟨by rfl, ?_⟩) (by assumption) ?_
     rotate_left
     ·(intro w hSw; (try dsimp only at hSw); go_simp; (try with_reducible rfl))
     (try simp only [Act.put, xL4, xL5, xL6])
     refine wpAnyH_take (i := 5) (v := ?_) (by simp only [xL1, xL2, xL3]; rfl) (by kernel_rfl) (by kernel_rfl) (by kernel_rfl) (by exact fun _ _ _ h => h) (Or.inl ⟨by rfl, ?_⟩) (by assumption) ?_
     rotate_left
     ·(intro w hSw; (try dsimp only at hSw); go_simp; (try with_reducible rfl))
     (try simp only [Act.put, xL4, xL5, xL6])
     refine wpAnyH_take (i := 6) (v := ?_) (by simp only [xL1, xL2, xL3]; rfl) (by kernel_rfl) (by kernel_rfl) (by kernel_rfl) (by exact fun _ _ _ h => h) (Or.inl ⟨by rfl, ?_⟩) (by assumption) ?_
     rotate_left
     ·(intro w hSw; (try dsimp only at hSw); go_simp; (try with_reducible rfl))
     (try simp only [Act.put, xL4, xL5, xL6])
     refine wpAnyH_take (i := 7) (v := ?_) (by simp only [xL1, xL2, xL3]; rfl) (by kernel_rfl) (by kernel_rfl) (by kernel_rfl) (by exact fun _ _ _ h => h) (Or.inl ⟨by rfl, ?_⟩) (by assumption) ?_
     rotate_left
     ·(intro w hSw; (try dsimp only at hSw); go_simp; (try with_reducible rfl))
     (try simp only [Act.put, xL4, xL5, xL6])
     refine wpAnyH_take (i := 8) (v := ?_) (by simp only [xL1, xL2, xL3]; rfl) (by kernel_rfl) (by kernel_rfl) (by kernel_rfl) (by exact fun _ _ _ h => h) (Or.inl ⟨by rfl, ?_⟩) (by assumption) ?_
     rotate_left
     ·(intro w hSw; (try dsimp only at hSw); go_simp; (try with_reducible rfl))
     (try simp only [Act.put, xL4, xL5, xL6])
     refine wpAnyH_take (i := 9) (v := ?_) (by simp only [xL1, xL2, xL3]; rfl) (by kernel_rfl) (by kernel_rfl) (by kernel_rfl) (by exact fun _ _ _ h => h) (Or.inl ⟨by rfl, ?_⟩) (by assumption) ?_
     rotate_left
     ·(intro w hSw; (try dsimp only at hSw); go_simp; (try with_reducible rfl))
     (try simp only [Act.put, xL4, xL5, xL6])
     refine wpAnyH_take (i := 10) (v := ?_) (by simp only [xL1, xL2, xL3]; rfl) (by kernel_rfl) (by kernel_rfl) (by kernel_rfl) (by exact fun _ _ _ h => h) (Or.inl ⟨by rfl, ?_⟩) (by assumption) ?_
     rotate_left
     ·(intro w hSw; (try dsimp only at hSw); go_simp; (try with_reducible rfl))
     (try simp only [Act.put, xL4, xL5, xL6])
     refine wpAnyH_take (i := 11) (v := ?_) (by simp only [xL1, xL2, xL3]; rfl) (by kernel_rfl) (by kernel_rfl) (by kernel_rfl) (by exact fun _ _ _ h => h) (Or.inl ⟨by rfl, ?_⟩) (by assumption) ?_
     rotate_left
     ·(intro w hSw; (try dsimp only at hSw); go_simp; (try with_reducible rfl))
     (try simp only [Act.put, xL4, xL5, xL6])
     refine wpAnyH_take (i := 12) (v := ?_) (by simp only [xL1, xL2, xL3]; rfl) (by kernel_rfl) (by kernel_rfl) (by kernel_rfl) (by exact fun _ _ _ h => h) (Or.inl ⟨by rfl, ?_⟩) (by assumption) ?_
     rotate_left
     ·(intro w hSw; (try dsimp only at hSw); go_simp; (try with_reducible rfl))
     (try simp only [Act.put, xL4, xL5, xL6])
     refine wpAnyH_take (i := 13) (v := ?_) (by simp only [xL1, xL2, xL3]; rfl) (by kernel_rfl) (by kernel_rfl) (by kernel_rfl) (by exact fun _ _ _ h => h) (Or.inl ⟨by rfl, ?_⟩) (by assumption) ?_
     rotate_left
     ·(intro w hSw; (try dsimp only at hSw); go_simp; (try with_reducible rfl))
     (try simp only [Act.put, xL4, xL5, xL6])
     refine wpAnyH_take (i := 14) (v := ?_) (by simp only [xL1, xL2, xL3]; rfl) (by kernel_rfl) (by kernel_rfl) (by kernel_rfl) (by exact fun _ _ _ h => h) (Or.inl ⟨by rfl, ?_⟩) (by assumption) ?_
     rotate_left
     ·(intro w hSw; (try dsimp only at hSw); go_simp; (try with_reducible rfl))
     (try simp only [Act.put, xL4, xL5, xL6])
     refine wpAnyH_take (i := 15) (v := ?_) (by simp only [xL1, xL2, xL3]; rfl) (by kernel_rfl) (by kernel_rfl) (by kernel_rfl) (by exact fun _ _ _ h => h) (Or.inl ⟨by rfl, ?_⟩) (by assumption) ?_
     rotate_left
     ·(intro w hSw; (try dsimp only at hSw); go_simp; (try with_reducible rfl))
     (try simp only [Act.put, xL4, xL5, xL6])
     refine wpAnyH_take (i := 16) (v := ?_) (by simp only [xL1, xL2, xL3]; rfl) (by kernel_rfl) (by kernel_rfl) (by kernel_rfl) (by exact fun _ _ _ h => h) (Or.inl ⟨by rfl, ?_⟩) (by assumption) ?_
     rotate_left
     ·(intro w hSw; (try dsimp only at hSw); go_simp; (try with_reducible rfl))
     (try simp only [Act.put, xL4, xL5, xL6])
     refine wpAnyH_take (i := 17) (v := ?_) (by simp only [xL1, xL2, xL3]; rfl) (by kernel_rfl) (by kernel_rfl) (by kernel_rfl) (by exact fun _ _ _ h => h) (Or.inl ⟨by rfl, ?_⟩) (by assumption) ?_
     rotate_left
     ·(intro w hSw; (try dsimp only at hSw); go_simp; (try with_reducible rfl))
     (try simp only [Act.put, xL4, xL5, xL6])
     refine wpAnyH_ready (rs := [18]) (by kernel_rfl) (by simp) ?_
     refine AllReadyH.cons (by simp only [xL1, xL2, xL3]; rfl) (fun K hK => ?_) AllReadyH.nil
     go_simp
     refine (qadd_at _ _ (t l).cov (t m).cov L _ r3L r3M hL (by omega) ht1).mono ?_
     rintro e w21 ⟨x18, rfl, h18, b21⟩
     go_wp2_with fail
     replace VR := VR.below b21
     replace NNL := NNL.below b21
     replace NNM := NNM.below b21
     replace r3 := r3.below b21
     replace r3L := r3L.below b21
     replace r3M := r3M.below b21
     replace ht1 := ht1.below b21
     replace VN := VN.below b21
     replace BB := BB.trans (b21.mono BB.size)
     replace BLR := BLR.trans (b21.mono BLR.size)
     clear b21
     refine hK.out _ _ ?_ (fun hH1 => ?_)
     ·exact ⟨VN.c0, VN.c5, VN.c6, VN.c11, VN.c12, VN.c13, NNL.c11, NNL.c12, NNL.c13, NNM.c11, NNM.c12, NNM.c13⟩
     clear hK K hHeld
     (try simp only [Act.put, xL4, xL5, xL6])
     refine wpAnyH_ready (rs := [19]) (by kernel_rfl) (by simp) ?_
     refine AllReadyH.cons (by simp only [xL1, xL2, xL3]; rfl) (fun K hK => ?_) AllReadyH.nil
     go_simp
     refine (qsame_at _ _ (t i).cov ((t l).cov + (t m).cov) (L + L + 1) _ (r3.le (by omega)) (h18.at (L + L + 1) sS) (by omega) (by omega)).mono ?_
     rintro e w22 ⟨rfl, b22⟩
     rw [decide_eq_false hq]
     go_wp2_with fail
     replace VR := VR.below b22
     replace NNL := NNL.below b22
     replace NNM := NNM.below b22
     replace r3 := r3.below b22
     replace r3L := r3L.below b22
     replace r3M := r3M.below b22
     replace ht1 := ht1.below b22
     replace VN := VN.below b22
     replace h18 := h18.below b22
     replace BB := BB.trans (b22.mono BB.size)
     replace BLR := BLR.trans (b22.mono BLR.size)
     clear b22
     refine hK.out _ _ ?_ (fun hH2 => ?_)
     ·exact ⟨VN.c0, VN.c5, VN.c6, VN.c11, VN.c12, VN.c13, NNL.c11, NNL.c12, NNL.c13, NNM.c11, NNM.c12, NNM.c13⟩
     clear hK K hH1
     (try simp only [Act.put, xL4, xL5, xL6])
     refine wpAnyH_take (i := 20) (v := ?_) (by simp only [xL1, xL2, xL3]; rfl) (by kernel_rfl) (by kernel_rfl) (by kernel_rfl) (by exact fun _ _ _ h => h) (Or.inl ⟨by rfl, ?_⟩) (by assumption) ?_
     rotate_left
     ·(intro w hSw; (try dsimp only at hSw); go_simp; (try with_reducible rfl))
     (try simp only [Act.put, xL4, xL5, xL6])
     refine wpAnyH_take (i := 21) (v := ?_) (by simp only [xL1, xL2, xL3]; rfl) (by kernel_rfl) (by kernel_rfl) (by kernel_rfl) (by exact fun _ _ _ h => h) (Or.inl ⟨by rfl, ?_⟩) (by assumption) ?_
     rotate_left
     ·(intro w hSw; (try dsimp only at hSw); go_simp; (try with_reducible rfl))
     (try simp only [Act.put, xL4, xL5, xL6])
     refine wpAnyH_done (by kernel_rfl) ?_ _
     clear hH2
     obtain ⟨⟨q1, q2, q3, q4, q5, q6⟩, q7, q8⟩ := id VR
     go_wp2
     (try simp only [Exit.inBlock, Exit.then])
     refine bodyPost_ret (v := .agg #[.int .i64 13, .int .i64 0, .int .i64 0, .int .i64 (i : Int)]) (by simp [results, go_sem, q1, q2, q3, q7]) rfl ?_
     exact ⟨congrArg Ending.returned ((rlV3 F t n).trans (nfV_some hlt HB.out (by rw [HP.out, decide_eq_false hq]; rfl))).symm, below_store4 BB (by omega) _ _ _ _⟩
   ·obtain ⟨N_0, N_1, N_2, N_3, N_4, N_5, N_6, N_7, N_8, N_9, N_10, N_11, N_12, N_13⟩ := id NN
    obtain ⟨W1, hW1, hS1, hL1, VN, FN⟩ := V14.lay wr 46 (.bool true) (.int .i64 ft) (.bool p1) (.slice a1 n1 c1) (.slice b1 m1 d1) (.int .i64 ll) (.int .i64 rr) (.bool ms) (.bool p2) (.slice a2 n2 c2) (.slice b2 m2 d2) (.bool p3) (.slice a3 n3 c3) (.slice b3 m3 d3)
    replace VR := VR.below hL1
    replace BLR := BLR.trans (hL1.mono BLR.size)
    replace BB := BB.trans (hL1.mono BB.size)
    clear hL1
    obtain ⟨V_0, V_1, V_2, V_3, V_4, V_5, V_6, V_7, V_8, V_9, V_10, V_11, V_12, V_13⟩ := id VN
    rw [hW1] at V_0 V_1 V_2 V_3 V_4 V_5 V_6 V_7 V_8 V_9 V_10 V_11 V_12 V_13
    go_wp2
    clear V_0 V_1 V_2 V_3 V_4 V_5 V_6 V_7 V_8 V_9 V_10 V_11 V_12 V_13
    clear N_0 N_1 N_2 N_3 N_4 N_5 N_6 N_7 N_8 N_9 N_10 N_11 N_12 N_13
    rw [← hW1]
    generalize wr.heap.size = R1 at *
    clear hW1 hS1
    have hDr : Below W1.heap.size W1 W1.drew := (Below.refl _ _).drew
    replace VR := VR.below hDr
    replace VN := VN.below hDr
    replace BB := BB.trans (hDr.mono BB.size)
    replace BLR := BLR.trans (hDr.mono BLR.size)
    clear hDr
    refine wp_region_held_drew (S := (fun w' => w'.cell? ⟨R1, 0, none⟩ = some (.bool true))) (by kernel_rfl) ?_ (fun hHeld => ?_)
    ·exact VN.c0
    generalize W1.drew = W2 at *
    refine wpAnyH_take (i := 0) (v := ?_) (by simp only [xL1, xL2, xL3]; rfl) (by kernel_rfl) (by kernel_rfl) (by kernel_rfl) (by exact fun _ _ _ h => h) (Or.inl ⟨by rfl, ?_⟩) (by assumption) ?_
    rotate_left
    ·(intro w hSw; (try dsimp only at hSw); go_simp; (try with_reducible rfl))
    (try simp only [Act.put, xL4, xL5, xL6])
    refine wpAnyH_take (i := 1) (v := ?_) (by simp only [xL1, xL2, xL3]; rfl) (by kernel_rfl) (by kernel_rfl) (by kernel_rfl) (by exact fun _ _ _ h => h) (Or.inl ⟨by rfl, ?_⟩) (by assumption) ?_
    rotate_left
    ·(intro w hSw; (try dsimp only at hSw); go_simp; (try with_reducible rfl))
    (try simp only [Act.put, xL4, xL5, xL6])
    refine wpAnyH_take (i := 2) (v := ?_) (by simp only [xL1, xL2, xL3]; rfl) (by kernel_rfl) (by kernel_rfl) (by kernel_rfl) (by exact fun _ _ _ h => h) (Or.inl ⟨by rfl, ?_⟩) (by assumption) ?_
    rotate_left
    ·(intro w hSw; (try dsimp only at hSw); go_simp; (try with_reducible rfl))
    (try simp only [Act.put, xL4, xL5, xL6])
    refine wpAnyH_take (i := 3) (v := ?_) (by simp only [xL1, xL2, xL3]; rfl) (by kernel_rfl) (by kernel_rfl) (by kernel_rfl) (by exact fun _ _ _ h => h) (Or.inl ⟨by rfl, ?_⟩) (by assumption) ?_
    rotate_left
    ·(intro w hSw; (try dsimp only at hSw); go_simp; (try with_reducible rfl))
    (try simp only [Act.put, xL4, xL5, xL6])
    refine wpAnyH_take (i := 4) (v := undef) (by simp only [xL1, xL2, xL3]; rfl) (by kernel_rfl) (by kernel_rfl) (by kernel_rfl) (by exact fun _ _ _ h => h) (Or.inr ⟨by rfl, rfl⟩) (by assumption) ?_
    (try simp only [Act.put, xL4, xL5, xL6])
    refine wpAnyH_take (i := 5) (v := undef) (by simp only [xL1, xL2, xL3]; rfl) (by kernel_rfl) (by kernel_rfl) (by kernel_rfl) (by exact fun _ _ _ h => h) (Or.inr ⟨by rfl, rfl⟩) (by assumption) ?_
    (try simp only [Act.put, xL4, xL5, xL6])
    refine wpAnyH_take (i := 6) (v := undef) (by simp only [xL1, xL2, xL3]; rfl) (by kernel_rfl) (by kernel_rfl) (by kernel_rfl) (by exact fun _ _ _ h => h) (Or.inr ⟨by rfl, rfl⟩) (by assumption) ?_
    (try simp only [Act.put, xL4, xL5, xL6])
    refine wpAnyH_take (i := 7) (v := undef) (by simp only [xL1, xL2, xL3]; rfl) (by kernel_rfl) (by kernel_rfl) (by kernel_rfl) (by exact fun _ _ _ h => h) (Or.inr ⟨by rfl, rfl⟩) (by assumption) ?_
    (try simp only [Act.put, xL4, xL5, xL6])
    refine wpAnyH_take (i := 8) (v := undef) (by simp only [xL1, xL2, xL3]; rfl) (by kernel_rfl) (by kernel_rfl) (by kernel_rfl) (by exact fun _ _ _ h => h) (Or.inr ⟨by rfl, rfl⟩) (by assumption) ?_
    (try simp only [Act.put, xL4, xL5, xL6])
    refine wpAnyH_take (i := 9) (v := undef) (by simp only [xL1, xL2, xL3]; rfl) (by kernel_rfl) (by kernel_rfl) (by kernel_rfl) (by exact fun _ _ _ h => h) (Or.inr ⟨by rfl, rfl⟩) (by assumption) ?_
    (try simp only [Act.put, xL4, xL5, xL6])
    refine wpAnyH_take (i := 10) (v := undef) (by simp only [xL1, xL2, xL3]; rfl) (by kernel_rfl) (by kernel_rfl) (by kernel_rfl) (by exact fun _ _ _ h => h) (Or.inr ⟨by rfl, rfl⟩) (by assumption) ?_
    (try simp only [Act.put, xL4, xL5, xL6])
    refine wpAnyH_take (i := 11) (v := undef) (by simp only [xL1, xL2, xL3]; rfl) (by kernel_rfl) (by kernel_rfl) (by kernel_rfl) (by exact fun _ _ _ h => h) (Or.inr ⟨by rfl, rfl⟩) (by assumption) ?_
    (try simp only [Act.put, xL4, xL5, xL6])
    refine wpAnyH_take (i := 12) (v := undef) (by simp only [xL1, xL2, xL3]; rfl) (by kernel_rfl) (by kernel_rfl) (by kernel_rfl) (by exact fun _ _ _ h => h) (Or.inr ⟨by rfl, rfl⟩) (by assumption) ?_
    (try simp only [Act.put, xL4, xL5, xL6])
    refine wpAnyH_take (i := 13) (v := undef) (by simp only [xL1, xL2, xL3]; rfl) (by kernel_rfl) (by kernel_rfl) (by kernel_rfl) (by exact fun _ _ _ h => h) (Or.inr ⟨by rfl, rfl⟩) (by assumption) ?_
    (try simp only [Act.put, xL4, xL5, xL6])
    refine wpAnyH_take (i := 14) (v := undef) (by simp only [xL1, xL2, xL3]; rfl) (by kernel_rfl) (by kernel_rfl) (by kernel_rfl) (by exact fun _ _ _ h => h) (Or.inr ⟨by rfl, rfl⟩) (by assumption) ?_
    (try simp only [Act.put, xL4, xL5, xL6])
    refine wpAnyH_take (i := 15) (v := undef) (by simp only [xL1, xL2, xL3]; rfl) (by kernel_rfl) (by kernel_rfl) (by kernel_rfl) (by exact fun _ _ _ h => h) (Or.inr ⟨by rfl, rfl⟩) (by assumption) ?_
    (try simp only [Act.put, xL4, xL5, xL6])
    refine wpAnyH_take (i := 16) (v := undef) (by simp only [xL1, xL2, xL3]; rfl) (by kernel_rfl) (by kernel_rfl) (by kernel_rfl) (by exact fun _ _ _ h => h) (Or.inr ⟨by rfl, rfl⟩) (by assumption) ?_
    (try simp only [Act.put, xL4, xL5, xL6])
    refine wpAnyH_take (i := 17) (v := undef) (by simp only [xL1, xL2, xL3]; rfl) (by kernel_rfl) (by kernel_rfl) (by kernel_rfl) (by exact fun _ _ _ h => h) (Or.inr ⟨by rfl, rfl⟩) (by assumption) ?_
    (try simp only [Act.put, xL4, xL5, xL6])
    refine wpAnyH_take (i := 18) (v := undef) (by simp only [xL1, xL2, xL3]; rfl) (by kernel_rfl) (by kernel_rfl) (by kernel_rfl) (by exact fun _ _ _ h => h) (Or.inr ⟨by rfl, rfl⟩) (by assumption) ?_
    (try simp only [Act.put, xL4, xL5, xL6])
    refine wpAnyH_take (i := 19) (v := undef) (by simp only [xL1, xL2, xL3]; rfl) (by kernel_rfl) (by kernel_rfl) (by kernel_rfl) (by exact fun _ _ _ h => h) (Or.inr ⟨by rfl, rfl⟩) (by assumption) ?_
    (try simp only [Act.put, xL4, xL5, xL6])
    refine wpAnyH_take (i := 20) (v := undef) (by simp only [xL1, xL2, xL3]; rfl) (by kernel_rfl) (by kernel_rfl) (by kernel_rfl) (by exact fun _ _ _ h => h) (Or.inr ⟨by rfl, rfl⟩) (by assumption) ?_
    (try simp only [Act.put, xL4, xL5, xL6])
    refine wpAnyH_take (i := 21) (v := ?_) (by simp only [xL1, xL2, xL3]; rfl) (by kernel_rfl) (by kernel_rfl) (by kernel_rfl) (by exact fun _ _ _ h => h) (Or.inl ⟨by rfl, ?_⟩) (by assumption) ?_
    rotate_left
    ·(intro w hSw; (try dsimp only at hSw); go_simp; (try with_reducible rfl))
    (try simp only [Act.put, xL4, xL5, xL6])
    refine wpAnyH_done (by kernel_rfl) ?_ _
    clear hHeld
    have HB2 : Hid (∀ j, j < i + 1 → bad4 t j = false) := fun j hj => by
     by_cases e : j = i
     ·subst e; exact bad4_leaf HLF.out
     ·exact HB.out j (by omega)
    clear HB
    go_wp2
    go_roundw
    case rel => exact ⟨i + 1, by omega, by go_num, HB2, BLR⟩
    case measure => simp [intOf]; omega
  ·obtain rfl : i = n := by omega
   have g1 : ¬ (i : Int) < (i : Int) := by omega
   obtain ⟨⟨q1, q2, q3, q4, q5, q6⟩, q7, q8⟩ := id VR
   go_wp2
   (try simp only [Exit.inBlock, Exit.then])
   refine bodyPost_ret (v := .agg #[.int .i64 0, .int .i64 0, .int .i64 0, .int .i64 0]) (by simp [results, go_sem, q1, q2, q3, q7]) rfl ?_
   exact ⟨congrArg Ending.returned ((rlV3 F t i).trans (nfV_none HB.out)).symm, below_store4 BB (by omega) _ _ _ _⟩

theorem below_drewS {B : Nat} {a w : World} (h : Below B a w) (n : Nat) : Below B a (w.drewN n) := h.trans ⟨rfl, rfl, rfl, Nat.le_refl _, fun _ _ => rfl⟩
/-- Two numbers that are told alike have the same limbs. -/
theorem ExT.two {w : World} {x y z x' y' z' : Value} {o : Option Rat} (h : ExT w x y z o) (h' : ExT w x' y' z' o) : ∃ p n m f g, x = .bool p ∧ x' = .bool p ∧ Nums .u64 w y n f ∧ Nums .u64 w z m g ∧ Nums .u64 w y' n f ∧ Nums .u64 w z' m g := by
 cases o with
 | none =>
  obtain ⟨rfl, rfl, rfl⟩ := h
  obtain ⟨rfl, rfl, rfl⟩ := h'
  exact ⟨false, 0, 0, fun _ => 0, fun _ => 0, rfl, rfl, Nums.nil _ _ _, Nums.nil _ _ _, Nums.nil _ _ _, Nums.nil _ _ _⟩
 | some q =>
  obtain ⟨p, a, n, c, b, m, d, e, ⟨a1, c1, e1, r1⟩, r2⟩ := h
  obtain ⟨p', a', n', c', b', m', d', e', ⟨a1', c1', e1', r1'⟩, r2'⟩ := h'
  simp only [Value.agg.injEq, Array.mk.injEq, List.cons.injEq, and_true] at e e' e1 e1'
  obtain ⟨rfl, rfl, rfl⟩ := e
  obtain ⟨rfl, rfl, rfl⟩ := e'
  obtain ⟨hp, hs⟩ := e1
  obtain ⟨hp', hs'⟩ := e1'
  rw [← hs] at r1
  rw [← hs'] at r1'
  exact ⟨_, _, _, _, _, hp, hp', r1, r2, r1', r2'⟩
/-- The cells of one tree's k-th node. -/
theorem TTr.cells {B : Nat} {w : World} {u : Value} {l : List TidN} (h : TTr B w u l) {k : Nat} {d : TidN} (hk : l[k]? = some d) : ∃ b o c lf ft y1 e1 f1 g1 h1 k1 l1 ll rr ms y2 e2 f2 g2 h2 k2 l2 y3 e3 f3 g3 h3 k3 l3, u = .slice (some ⟨b, o, none⟩) l.length c ∧ N14 w b (o + k * 14) (.bool lf) (.int .i64 ft) (.bool y1) (.slice e1 f1 g1) (.slice h1 k1 l1) (.int .i64 ll) (.int .i64 rr) (.bool ms) (.bool y2) (.slice e2 f2 g2) (.slice h2 k2 l2) (.bool y3) (.slice e3 f3 g3) (.slice h3 k3 l3) ∧ lf = d.leaf ∧ ft = d.feat ∧ ll = d.left ∧ rr = d.right ∧ ms = d.miss ∧ ExT w (.bool y1) (.slice e1 f1 g1) (.slice h1 k1 l1) d.cut ∧ ExT w (.bool y2) (.slice e2 f2 g2) (.slice h2 k2 l2) d.val ∧ ExT w (.bool y3) (.slice e3 f3 g3) (.slice h3 k3 l3) d.cov := by
 obtain ⟨b, o, c, e, h1, _, hc, hn⟩ := (GOwn.row h tnodeEl).at hk
 have hn0 := hn
 obtain ⟨lf, ft, y1, e1, f1, g1, h1', k1, l1, ll, rr, ms, y2, e2, f2, g2, h2, k2, l2, y3, e3, f3, g3, h3, k3, l3, z0, z1, z2, z3, z4, z5, z6, z7, z8, z9, z10, z11, z12, z13⟩ := hn.open
 obtain ⟨a0, a1, a2, a5, a6, a7, a8, a11⟩ := hn0
 rw [z0] at a0; rw [z1] at a1; rw [z2, z3, z4] at a2; rw [z5] at a5; rw [z6] at a6; rw [z7] at a7; rw [z8, z9, z10] at a8; rw [z11, z12, z13] at a11
 simp only [Value.bool.injEq, Value.int.injEq, true_and] at a0 a1 a5 a6 a7
 refine ⟨b, o, c, lf, ft, y1, e1, f1, g1, h1', k1, l1, ll, rr, ms, y2, e2, f2, g2, h2, k2, l2, y3, e3, f3, g3, h3, k3, l3, h1, ?_, a0, a1, a5, a6, a7, a2, a8, a11⟩
 exact ⟨by rw [← z0]; exact hc 0 (by omega), by rw [← z1]; exact hc 1 (by omega), by rw [← z2]; exact hc 2 (by omega), by rw [← z3]; exact hc 3 (by omega), by rw [← z4]; exact hc 4 (by omega), by rw [← z5]; exact hc 5 (by omega), by rw [← z6]; exact hc 6 (by omega), by rw [← z7]; exact hc 7 (by omega), by rw [← z8]; exact hc 8 (by omega), by rw [← z9]; exact hc 9 (by omega), by rw [← z10]; exact hc 10 (by omega), by rw [← z11]; exact hc 11 (by omega), by rw [← z12]; exact hc 12 (by omega), by rw [← z13]; exact hc 13 (by omega)⟩


set_option maxRecDepth 100000 in
set_option maxHeartbeats 8000000 in
theorem same7_at (F : Int) (v u : Value) (B B2 : Nat) (ls : List (List TidN)) (w : World) (hv : TMo B w v ls) (hu : TMo B2 w u ls) (hk : ls.length ≤ 1000) (hm : ∀ l ∈ ls, l.length ≤ 1000) :
  Calls Tryz.prog 11 #[.agg #[.int .i64 F, v], .agg #[.int .i64 F, u]] w fun e w' => e = .returned (.bool true) ∧ Below w.heap.size w w' := by
 obtain ⟨av, cv, rfl, hcv⟩ := hv.form
 obtain ⟨au, cu, rfl, hcu⟩ := hu.form
 have BB : Below w.heap.size w w := Below.refl _ _
 obtain ⟨W0, hW0, hS0, hL0, VA⟩ := V2.lay w 24 (.int .i64 F) (.slice av ls.length cv)
 replace BB := BB.trans (hL0.mono BB.size)
 replace hv := hv.below hL0
 replace hu := hu.below hL0
 obtain ⟨W1, hW1, hS1, hL1, VB⟩ := V2.lay W0 24 (.int .i64 F) (.slice au ls.length cu)
 rw [hS0] at VB hS1
 replace VA := VA.below hL1
 replace BB := BB.trans (hL1.mono BB.size)
 replace hv := hv.below hL1
 replace hu := hu.below hL1
 obtain ⟨A_0, A_1, A_2, A_3⟩ := id VA
 obtain ⟨B_0, B_1, B_2, B_3⟩ := id VB
 rw [hW1, hW0] at A_0 A_1 A_2 A_3 B_0 B_1 B_2 B_3
 obtain ⟨n, hn⟩ : ∃ n, ls.length = n := ⟨_, rfl⟩
 have HN : Hid (ls.length = n) := hn
 rw [hn] at VA VB A_0 A_1 A_2 A_3 B_0 B_1 B_2 B_3 hk hW0 hW1
 rw [hn]
 clear hn
 go_enter Tryz.func11, Tryz.ntmps11
 go_wp2
 clear A_0 A_1 A_2 A_3 B_0 B_1 B_2 B_3
 rw [← hW0, ← hW1]
 clear hW0 hW1 hL0 hL1 hS0 hS1
 have HBW : Hid (Below w.heap.size w W1) := BB
 clear BB
 have BLS : Below W1.heap.size W1 W1 := Below.refl _ _
 go_loopw [5] (fun vi wr => ∃ i : Nat, i ≤ n ∧ vi = .int .i64 (i : Int) ∧ Below W1.heap.size W1 wr) (fun vi _ => n - (intOf vi).toNat)
 case atStart => exact ⟨0, by omega, rfl, BLS⟩
 case round =>
  clear BLS
  obtain ⟨i, hi, rfl, BL⟩ := hrel
  have VAi := VA.below BL
  have VBi := VB.below BL
  obtain ⟨A_0, A_1, A_2, A_3⟩ := id VAi
  obtain ⟨B_0, B_1, B_2, B_3⟩ := id VBi
  by_cases hlt : i < n
  ·have g1 : (i : Int) < (n : Int) := by omega
   have g0 : (0 : Int) ≤ (i : Int) := by omega
   obtain ⟨l, hl⟩ : ∃ l, ls[i]? = some l := ⟨_, List.getElem?_eq_getElem (by rw [HN.out]; exact hlt)⟩
   obtain ⟨ga, ca, ua, ea, hca, CA, TA⟩ := hv.at hl
   obtain ⟨gb, cb, ub, eb, hcb, CB, TB⟩ := hu.at hl
   cases ea
   cases eb
   obtain ⟨aa, sa, rfl, hsa⟩ := GOwn.form TA
   obtain ⟨ab, sb, rfl, hsb⟩ := GOwn.form TB
   have hlm := hm l (List.mem_of_getElem? hl)
   obtain ⟨m, hme⟩ : ∃ m, l.length = m := ⟨_, rfl⟩
   have HM : Hid (l.length = m) := hme
   rw [hme] at CA CB hlm
   clear hme
   have CAo := CA
   have CBo := CB
   replace CA := cell_later BL CA
   replace CB := cell_later BL CB
   go_wp2
   go_quiet (fail)
   go_wp2_with fail
   clear A_0 A_1 A_2 A_3 B_0 B_1 B_2 B_3
   go_loopw [6] (fun vk wr => ∃ k : Nat, k ≤ m ∧ vk = .int .i64 (k : Int) ∧ Below W1.heap.size W1 wr) (fun vk _ => m - (intOf vk).toNat)
   case atStart => exact ⟨0, by omega, rfl, below_drewS BL _⟩
   case round =>
    clear CA CB VAi VBi
    obtain ⟨k, hkm, rfl, BI⟩ := hrel
    have VAk := VA.below BI
    have VBk := VB.below BI
    have CA := cell_later BI CAo
    have CB := cell_later BI CBo
    obtain ⟨A_0, A_1, A_2, A_3⟩ := id VAk
    obtain ⟨B_0, B_1, B_2, B_3⟩ := id VBk
    by_cases hlk : k < m
    ·have e1 : (k : Int) < (m : Int) := by omega
     have e0 : (0 : Int) ≤ (k : Int) := by omega
     obtain ⟨d, hd⟩ : ∃ d, l[k]? = some d := ⟨_, List.getElem?_eq_getElem (by rw [HM.out]; exact hlk)⟩
     obtain ⟨ba, oa, xa, lfa, fta, y1a, e1a, f1a, g1a, h1a, k1a, l1a, lla, rra, msa, y2a, e2a, f2a, g2a, h2a, k2a, l2a, y3a, e3a, f3a, g3a, h3a, k3a, l3a, eva, NA, rfl, rfl, rfl, rfl, rfl, xa1, xa2, xa3⟩ := (TTr.below TA BI).cells hd
     obtain ⟨bb, ob, xb, lfb, ftb, y1b, e1b, f1b, g1b, h1b, k1b, l1b, llb, rrb, msb, y2b, e2b, f2b, g2b, h2b, k2b, l2b, y3b, e3b, f3b, g3b, h3b, k3b, l3b, evb, NB, hlf, hft, hll, hrr, hms, xb1, xb2, xb3⟩ := (TTr.below TB BI).cells hd
     rw [hlf, hft, hll, hrr, hms] at NB
     clear hlf hft hll hrr hms
     cases eva
     cases evb
     obtain ⟨p1, n1, m1, q1, t1, ep1, ep1b, na1, na2, nb1, nb2⟩ := xa1.two xb1
     obtain ⟨p2, n2, m2, q2, t2, ep2, ep2b, na3, na4, nb3, nb4⟩ := xa2.two xb2
     obtain ⟨p3, n3, m3, q3, t3, ep3, ep3b, na5, na6, nb5, nb6⟩ := xa3.two xb3
     cases ep1
     cases ep2
     cases ep3
     cases ep1b
     cases ep2b
     cases ep3b
     generalize d.leaf = lf at *
     generalize d.feat = ft at *
     generalize d.left = ll at *
     generalize d.right = rr at *
     generalize d.miss = ms at *
     clear xa1 xa2 xa3 xb1 xb2 xb3 hd
     obtain ⟨W3, hW3, hS3, hL3, VX, FX⟩ := V14.lay wr 46 (.bool lf) (.int .i64 ft) (.bool y1a) (.slice e1a f1a g1a) (.slice h1a k1a l1a) (.int .i64 ll) (.int .i64 rr) (.bool ms) (.bool y2a) (.slice e2a f2a g2a) (.slice h2a k2a l2a) (.bool y3a) (.slice e3a f3a g3a) (.slice h3a k3a l3a)
     obtain ⟨W4, hW4, hS4, hL4, VY, FY⟩ := V14.lay W3 46 (.bool lf) (.int .i64 ft) (.bool y1a) (.slice e1b f1b g1b) (.slice h1b k1b l1b) (.int .i64 ll) (.int .i64 rr) (.bool ms) (.bool y2a) (.slice e2b f2b g2b) (.slice h2b k2b l2b) (.bool y3a) (.slice e3b f3b g3b) (.slice h3b k3b l3b)
     rw [hS3] at VY
     have VX4 := VX.below hL4
     replace na1 := (na1.below hL3).below hL4
     replace na2 := (na2.below hL3).below hL4
     replace na3 := (na3.below hL3).below hL4
     replace na4 := (na4.below hL3).below hL4
     replace na5 := (na5.below hL3).below hL4
     replace na6 := (na6.below hL3).below hL4
     replace nb1 := (nb1.below hL3).below hL4
     replace nb2 := (nb2.below hL3).below hL4
     replace nb3 := (nb3.below hL3).below hL4
     replace nb4 := (nb4.below hL3).below hL4
     replace nb5 := (nb5.below hL3).below hL4
     replace nb6 := (nb6.below hL3).below hL4
     obtain ⟨NA_0, NA_1, NA_2, NA_3, NA_4, NA_5, NA_6, NA_7, NA_8, NA_9, NA_10, NA_11, NA_12, NA_13⟩ := id NA
     obtain ⟨NB_0, NB_1, NB_2, NB_3, NB_4, NB_5, NB_6, NB_7, NB_8, NB_9, NB_10, NB_11, NB_12, NB_13⟩ := id NB
     have NB3 := NB.below hL3
     obtain ⟨NC_0, NC_1, NC_2, NC_3, NC_4, NC_5, NC_6, NC_7, NC_8, NC_9, NC_10, NC_11, NC_12, NC_13⟩ := id NB3
     rw [hW3] at NC_0 NC_1 NC_2 NC_3 NC_4 NC_5 NC_6 NC_7 NC_8 NC_9 NC_10 NC_11 NC_12 NC_13
     have A3 := VAk.below hL3
     have B3 := VBk.below hL3
     have CB3 := cell_later hL3 CB
     have CA3 := cell_later hL3 CA
     obtain ⟨A3_0, A3_1, A3_2, A3_3⟩ := id A3
     obtain ⟨B3_0, B3_1, B3_2, B3_3⟩ := id B3
     rw [hW3] at A3_0 A3_1 A3_2 A3_3 B3_0 B3_1 B3_2 B3_3 CA3 CB3
     obtain ⟨X_0, X_1, X_2, X_3, X_4, X_5, X_6, X_7, X_8, X_9, X_10, X_11, X_12, X_13⟩ := id VX4
     obtain ⟨Y_0, Y_1, Y_2, Y_3, Y_4, Y_5, Y_6, Y_7, Y_8, Y_9, Y_10, Y_11, Y_12, Y_13⟩ := id VY
     rw [hW4, hW3] at X_0 X_1 X_2 X_3 X_4 X_5 X_6 X_7 X_8 X_9 X_10 X_11 X_12 X_13 Y_0 Y_1 Y_2 Y_3 Y_4 Y_5 Y_6 Y_7 Y_8 Y_9 Y_10 Y_11 Y_12 Y_13
     have FX3 := FX
     have FY3 := FY
     go_wp2_with fail
     clear NA NB NB3 A3 B3 CB3 CA3 A3_0 A3_1 A3_2 A3_3 B3_0 B3_1 B3_2 B3_3 NA_0 NB_0 NC_0 X_0 Y_0 NA_1 NB_1 NC_1 X_1 Y_1 NA_2 NB_2 NC_2 X_2 Y_2 NA_3 NB_3 NC_3 X_3 Y_3 NA_4 NB_4 NC_4 X_4 Y_4 NA_5 NB_5 NC_5 X_5 Y_5 NA_6 NB_6 NC_6 X_6 Y_6 NA_7 NB_7 NC_7 X_7 Y_7 NA_8 NB_8 NC_8 X_8 Y_8 NA_9 NB_9 NC_9 X_9 Y_9 NA_10 NB_10 NC_10 X_10 Y_10 NA_11 NB_11 NC_11 X_11 Y_11 NA_12 NB_12 NC_12 X_12 Y_12 NA_13 NB_13 NC_13 X_13 Y_13
     have hws : W3.heap.size = wr.heap.size + 1 := hS3
     rw [← hW3, ← hW4]
     have B4 : Below wr.heap.size wr W4 := hL3.trans (hL4.mono (by omega))
     have BZ : Below W1.heap.size W1 W4 := BI.trans (B4.mono BI.size)
     clear hW3 hW4 hS3 hS4 hL3 hL4 B4 VX BI
     obtain ⟨RX, hRX⟩ : ∃ R, wr.heap.size = R := ⟨_, rfl⟩
     rw [hRX] at VX4 VY
     rw [hRX]
     clear hRX hws
     refine (exact_at y1a _ _ _ _ _ _ _ _ _ na1 na2 nb1 nb2).mono ?_
     rintro e W5 ⟨rfl, bx⟩
     replace VX4 := VX4.below bx
     replace VY := VY.below bx
     replace na1 := na1.below bx
     replace na2 := na2.below bx
     replace na3 := na3.below bx
     replace na4 := na4.below bx
     replace na5 := na5.below bx
     replace na6 := na6.below bx
     replace nb1 := nb1.below bx
     replace nb2 := nb2.below bx
     replace nb3 := nb3.below bx
     replace nb4 := nb4.below bx
     replace nb5 := nb5.below bx
     replace nb6 := nb6.below bx
     replace BZ := BZ.trans (bx.mono BZ.size)
     clear bx
     obtain ⟨X_0, X_1, X_2, X_3, X_4, X_5, X_6, X_7, X_8, X_9, X_10, X_11, X_12, X_13⟩ := id VX4
     obtain ⟨Y_0, Y_1, Y_2, Y_3, Y_4, Y_5, Y_6, Y_7, Y_8, Y_9, Y_10, Y_11, Y_12, Y_13⟩ := id VY
     go_wp2_with fail
     clear X_0 Y_0 X_1 Y_1 X_2 Y_2 X_3 Y_3 X_4 Y_4 X_5 Y_5 X_6 Y_6 X_7 Y_7 X_8 Y_8 X_9 Y_9 X_10 Y_10 X_11 Y_11 X_12 Y_12 X_13 Y_13
     refine (exact_at y2a _ _ _ _ _ _ _ _ _ na3 na4 nb3 nb4).mono ?_
     rintro e W6 ⟨rfl, bx⟩
     replace VX4 := VX4.below bx
     replace VY := VY.below bx
     replace na1 := na1.below bx
     replace na2 := na2.below bx
     replace na3 := na3.below bx
     replace na4 := na4.below bx
     replace na5 := na5.below bx
     replace na6 := na6.below bx
     replace nb1 := nb1.below bx
     replace nb2 := nb2.below bx
     replace nb3 := nb3.below bx
     replace nb4 := nb4.below bx
     replace nb5 := nb5.below bx
     replace nb6 := nb6.below bx
     replace BZ := BZ.trans (bx.mono BZ.size)
     clear bx
     obtain ⟨X_0, X_1, X_2, X_3, X_4, X_5, X_6, X_7, X_8, X_9, X_10, X_11, X_12, X_13⟩ := id VX4
     obtain ⟨Y_0, Y_1, Y_2, Y_3, Y_4, Y_5, Y_6, Y_7, Y_8, Y_9, Y_10, Y_11, Y_12, Y_13⟩ := id VY
     go_wp2_with fail
     clear X_0 Y_0 X_1 Y_1 X_2 Y_2 X_3 Y_3 X_4 Y_4 X_5 Y_5 X_6 Y_6 X_7 Y_7 X_8 Y_8 X_9 Y_9 X_10 Y_10 X_11 Y_11 X_12 Y_12 X_13 Y_13
     refine (exact_at y3a _ _ _ _ _ _ _ _ _ na5 na6 nb5 nb6).mono ?_
     rintro e W7 ⟨rfl, bx⟩
     replace VX4 := VX4.below bx
     replace VY := VY.below bx
     replace na1 := na1.below bx
     replace na2 := na2.below bx
     replace na3 := na3.below bx
     replace na4 := na4.below bx
     replace na5 := na5.below bx
     replace na6 := na6.below bx
     replace nb1 := nb1.below bx
     replace nb2 := nb2.below bx
     replace nb3 := nb3.below bx
     replace nb4 := nb4.below bx
     replace nb5 := nb5.below bx
     replace nb6 := nb6.below bx
     replace BZ := BZ.trans (bx.mono BZ.size)
     clear bx
     obtain ⟨X_0, X_1, X_2, X_3, X_4, X_5, X_6, X_7, X_8, X_9, X_10, X_11, X_12, X_13⟩ := id VX4
     obtain ⟨Y_0, Y_1, Y_2, Y_3, Y_4, Y_5, Y_6, Y_7, Y_8, Y_9, Y_10, Y_11, Y_12, Y_13⟩ := id VY
     go_wp2_with fail
     clear X_0 Y_0 X_1 Y_1 X_2 Y_2 X_3 Y_3 X_4 Y_4 X_5 Y_5 X_6 Y_6 X_7 Y_7 X_8 Y_8 X_9 Y_9 X_10 Y_10 X_11 Y_11 X_12 Y_12 X_13 Y_13
     go_roundw
     case rel => exact ⟨k + 1, by omega, by go_num, BZ⟩
     case measure => simp [intOf]; omega
    ·obtain rfl : k = m := by omega
     have e1 : ¬ (k : Int) < (k : Int) := by omega
     go_wp2
     go_roundw
     case rel => exact ⟨i + 1, by omega, by go_num, BI⟩
     case measure => simp [intOf]; omega
  ·obtain rfl : i = n := by omega
   have g1 : ¬ (i : Int) < (i : Int) := by omega
   go_wp2
   go_ret
   exact ⟨rfl, HBW.out.trans (BL.mono HBW.out.size)⟩

theorem news_t7 {w : World} {R : Nat} {x : Value} (h : V1 w R x) : ∀ j u, [x][j]? = some u → w.cell? ((⟨R, 0, none⟩ : Addr).add j) = some u := fun j u hu => by
 have : j = 0 := by have := (List.getElem?_eq_some_iff.1 hu).1; simp at this; omega
 subst this
 simp only [List.getElem?_cons_zero, Option.some.injEq] at hu
 subst hu
 exact h.1
/-- A row of one tree. -/
def BltT (B : Nat) (w : World) (v : Value) (l : List TidN) : Prop := ∃ R a c, v = .slice (some ⟨R, 0, none⟩) 1 1 ∧ B ≤ R ∧ V1 w R (.slice a l.length c) ∧ TTr B w (.slice a l.length c) l
theorem BltT.below {B : Nat} {w w' : World} {v : Value} {l : List TidN} (h : BltT B w v l) (hb : Below w.heap.size w w') : BltT B w' v l := let ⟨R, a, c, e, b, d, f⟩ := h; ⟨R, a, c, e, b, d.below hb, TTr.below f hb⟩

theorem ExT.at_some {w : World} {x y z : Value} {q : Rat} (h : ExT w x y z (some q)) {L : Nat} (hL : qsz q ≤ L) : AtN w x y z q L := by
 obtain ⟨p, a, n, c, b, m, d, rfl, rfl, rfl⟩ := h.open
 exact ⟨p, a, n, c, b, m, d, rfl, rfl, rfl, RepQ.at h L hL⟩
theorem ExT.at_none {w : World} {x y z : Value} (h : ExT w x y z none) (L : Nat) : AtN w x y z 0 L := by
 obtain ⟨rfl, rfl, rfl⟩ := h
 exact ⟨false, none, 0, 0, none, 0, 0, rfl, rfl, rfl, RatAt.nil _ _⟩
theorem AtN.qsz {w : World} {x y z : Value} {q : Rat} {L : Nat} (h : AtN w x y z q L) (hL : 1 ≤ L) : qsz q ≤ L := by
 obtain ⟨p, a, n, c, b, m, d, rfl, rfl, rfl, r⟩ := h
 exact r.qsz hL
end Go.Proofs.YthkamfddbiheoaaGreatDoor
