/-
  Texts of mine.
-/
import Derived.Test.YtbelnhpjhpoacaaDoorJcc954a1eb0
import Derived.Test.YtbelnhpjhpoacaaDoorJb954edb1fc
import Derived.Test.YtbelnhpjhpoacaaDoorJ2ba676209e
import Derived.Test.YtbelnhpjhpoacaaDoorJa29c81921c
import Derived.Test.YtbelnhpjhpoacaaDoorJ9d83049463
import Derived.Test.YtbelnhpjhpoacaaDoorJ132f1d6029
namespace Go.Proofs.YtbelnhpjhpoacaaDoor
open Go.ChangeShapes Go.WideShapes Go.ChangeAt Go.RowKit
set_option linter.unusedVariables false

/-- A list of rational numbers as it comes in; q i is the i-th cut to K limbs above and below. -/
def RawQ (w : World) (v : Value) (n : Nat) (q : Nat → Rat) (K : Nat) : Prop :=
  ∃ el, RowAt 3 w v n el ∧ ∀ i, i < n → ∃ p ao m c bo k d f g, el i 0 = .bool p ∧ el i 1 = .slice ao m c ∧ el i 2 = .slice bo k d ∧ Raw w (.slice ao m c) m f ∧ Raw w (.slice bo k d) k g ∧ q i = mkRat (zof p (num f (min m K))) (num g (min k K))
theorem RawQ.below {w w' : World} {v : Value} {n : Nat} {q : Nat → Rat} {K : Nat} (h : RawQ w v n q K) (hb : Below w.heap.size w w') : RawQ w' v n q K := by
  obtain ⟨el, h1, h2⟩ := h
  exact ⟨el, h1.below hb, fun i hi => let ⟨p, ao, m, c, bo, k, d, f, g, a, b, x, r, r2, e⟩ := h2 i hi; ⟨p, ao, m, c, bo, k, d, f, g, a, b, x, r.below hb, r2.below hb, e⟩⟩
/-- The i-th of them. -/
theorem RawQ.at {w : World} {v : Value} {n : Nat} {q : Nat → Rat} {K : Nat} (h : RawQ w v n q K) (i : Nat) (hi : i < n) :
    ∃ b off c p ao m d bo k e f g, v = .slice (some ⟨b, off, none⟩) n c ∧ n ≤ c ∧ w.cell? ⟨b, off + i * 3, none⟩ = some (.bool p) ∧ w.cell? ⟨b, off + i * 3 + 1, none⟩ = some (.slice ao m d) ∧ w.cell? ⟨b, off + i * 3 + 2, none⟩ = some (.slice bo k e) ∧ Raw w (.slice ao m d) m f ∧ Raw w (.slice bo k e) k g ∧ q i = mkRat (zof p (num f (min m K))) (num g (min k K)) := by
  obtain ⟨el, ⟨a, c, h1, h2, h3, h4⟩, h5⟩ := h
  obtain ⟨b, off, rfl, hc⟩ := h4 (by omega)
  obtain ⟨p, ao, m, d, bo, k, e, f, g, e0, e1, e2, r, r2, eq⟩ := h5 i hi
  have c0 := hc i hi 0 (by omega)
  have c1 := hc i hi 1 (by omega)
  have c2 := hc i hi 2 (by omega)
  rw [e0] at c0
  rw [e1] at c1
  rw [e2] at c2
  exact ⟨b, off, c, p, ao, m, d, bo, k, e, f, g, h1, h2, c0, c1, c2, r, r2, eq⟩
theorem cells3 {l : List Value} (h : l.length = 3) : ∃ a b c, l = [a, b, c] := by
  match l, h with
  | [a, b, c], _ => exact ⟨a, b, c, rfl⟩

def I64 (z : Int) : Prop := -9223372036854775808 ≤ z ∧ z ≤ 9223372036854775807
theorem i64_wf {z : Int} (h : (Lit.int .i64 z).wf = true) : I64 z := by
  have := h
  simp [Lit.wf] at this
  unfold I64
  have e1 : IntKind.i64.min = -9223372036854775808 := by decide
  have e2 : IntKind.i64.max = 9223372036854775807 := by decide
  omega
/-- A rational number's three cells, as they come in; as a number of at most L limbs. -/
def RawN (w : World) (x y z : Value) (q : Rat) (K : Nat) : Prop := ∃ p ao m c bo k d f g, x = .bool p ∧ y = .slice ao m c ∧ z = .slice bo k d ∧ Raw w (.slice ao m c) m f ∧ Raw w (.slice bo k d) k g ∧ q = mkRat (zof p (num f (min m K))) (num g (min k K))
def AtN (w : World) (x y z : Value) (q : Rat) (L : Nat) : Prop := ∃ p ao m c bo k d, x = .bool p ∧ y = .slice ao m c ∧ z = .slice bo k d ∧ RatAt w (.agg #[.bool p, .slice ao m c, .slice bo k d]) q L
theorem RawN.below {w w' : World} {x y z : Value} {q : Rat} {K : Nat} (h : RawN w x y z q K) (hb : Below w.heap.size w w') : RawN w' x y z q K := by
  obtain ⟨p, ao, m, c, bo, k, d, f, g, a, b, e, r, r2, q⟩ := h
  exact ⟨p, ao, m, c, bo, k, d, f, g, a, b, e, r.below hb, r2.below hb, q⟩
theorem AtN.below {w w' : World} {x y z : Value} {q : Rat} {L : Nat} (h : AtN w x y z q L) (hb : Below w.heap.size w w') : AtN w' x y z q L := by
  obtain ⟨p, ao, m, c, bo, k, d, a, b, e, r⟩ := h
  exact ⟨p, ao, m, c, bo, k, d, a, b, e, r.below hb⟩
def NodeRaw (w : World) (el : Nat → Value) (d : Nd) (K : Nat) : Prop := el 0 = .bool d.leaf ∧ el 1 = .int .i64 d.feat ∧ RawN w (el 2) (el 3) (el 4) d.cut K ∧ el 5 = .int .i64 d.left ∧ el 6 = .int .i64 d.right ∧ el 7 = .bool d.miss ∧ RawN w (el 8) (el 9) (el 10) d.val K ∧ RawN w (el 11) (el 12) (el 13) d.cov K ∧ I64 d.feat ∧ I64 d.left ∧ I64 d.right
def NodeAt (w : World) (el : Nat → Value) (d : Nd) (L : Nat) : Prop := el 0 = .bool d.leaf ∧ el 1 = .int .i64 d.feat ∧ AtN w (el 2) (el 3) (el 4) d.cut L ∧ el 5 = .int .i64 d.left ∧ el 6 = .int .i64 d.right ∧ el 7 = .bool d.miss ∧ AtN w (el 8) (el 9) (el 10) d.val L ∧ AtN w (el 11) (el 12) (el 13) d.cov L ∧ I64 d.feat ∧ I64 d.left ∧ I64 d.right
theorem NodeRaw.below {w w' : World} {el : Nat → Value} {d : Nd} {K : Nat} (h : NodeRaw w el d K) (hb : Below w.heap.size w w') : NodeRaw w' el d K := by
  obtain ⟨a, b, c, e, f, g, i, j, k⟩ := h
  exact ⟨a, b, c.below hb, e, f, g, i.below hb, j.below hb, k⟩
theorem NodeAt.below {w w' : World} {el : Nat → Value} {d : Nd} {L : Nat} (h : NodeAt w el d L) (hb : Below w.heap.size w w') : NodeAt w' el d L := by
  obtain ⟨a, b, c, e, f, g, i, j, k⟩ := h
  exact ⟨a, b, c.below hb, e, f, g, i.below hb, j.below hb, k⟩
def TRaw (w : World) (v : Value) (n : Nat) (t : Nat → Nd) (K : Nat) : Prop := ∃ el, RowAt 14 w v n el ∧ ∀ i, i < n → NodeRaw w (el i) (t i) K
def TRow (w : World) (v : Value) (n : Nat) (t : Nat → Nd) (L : Nat) : Prop := ∃ el, RowAt 14 w v n el ∧ ∀ i, i < n → NodeAt w (el i) (t i) L
theorem TRaw.below {w w' : World} {v : Value} {n : Nat} {t : Nat → Nd} {K : Nat} (h : TRaw w v n t K) (hb : Below w.heap.size w w') : TRaw w' v n t K := by
  obtain ⟨el, h1, h2⟩ := h
  exact ⟨el, h1.below hb, fun i hi => (h2 i hi).below hb⟩
theorem TRow.below {w w' : World} {v : Value} {n : Nat} {t : Nat → Nd} {L : Nat} (h : TRow w v n t L) (hb : Below w.heap.size w w') : TRow w' v n t L := by
  obtain ⟨el, h1, h2⟩ := h
  exact ⟨el, h1.below hb, fun i hi => (h2 i hi).below hb⟩
theorem TRow.open {w : World} {v : Value} {n : Nat} {t : Nat → Nd} {L : Nat} (h : TRow w v n t L) : ∃ a c, v = .slice a n c ∧ n ≤ c ∧ c ≤ 9223372036854775807 := by
  obtain ⟨el, ⟨a, c, h1, h2, h3, _⟩, _⟩ := h
  exact ⟨a, c, h1, h2, h3⟩
theorem TRaw.open {w : World} {v : Value} {n : Nat} {t : Nat → Nd} {L : Nat} (h : TRaw w v n t L) : ∃ a c, v = .slice a n c ∧ n ≤ c ∧ c ≤ 9223372036854775807 := by
  obtain ⟨el, ⟨a, c, h1, h2, h3, _⟩, _⟩ := h
  exact ⟨a, c, h1, h2, h3⟩
/-- Fourteen cells in a row. -/
structure N14 (w : World) (b o : Nat) (x0 x1 x2 x3 x4 x5 x6 x7 x8 x9 x10 x11 x12 x13 : Value) : Prop where
  c0 : w.cell? ⟨b, o, none⟩ = some x0
  c1 : w.cell? ⟨b, o + 1, none⟩ = some x1
  c2 : w.cell? ⟨b, o + 2, none⟩ = some x2
  c3 : w.cell? ⟨b, o + 3, none⟩ = some x3
  c4 : w.cell? ⟨b, o + 4, none⟩ = some x4
  c5 : w.cell? ⟨b, o + 5, none⟩ = some x5
  c6 : w.cell? ⟨b, o + 6, none⟩ = some x6
  c7 : w.cell? ⟨b, o + 7, none⟩ = some x7
  c8 : w.cell? ⟨b, o + 8, none⟩ = some x8
  c9 : w.cell? ⟨b, o + 9, none⟩ = some x9
  c10 : w.cell? ⟨b, o + 10, none⟩ = some x10
  c11 : w.cell? ⟨b, o + 11, none⟩ = some x11
  c12 : w.cell? ⟨b, o + 12, none⟩ = some x12
  c13 : w.cell? ⟨b, o + 13, none⟩ = some x13
theorem RowAt.n14 {w : World} {v : Value} {n : Nat} {el : Nat → Nat → Value} (h : RowAt 14 w v n el) {i : Nat} (hi : i < n) : ∃ b off c, v = .slice (some ⟨b, off, none⟩) n c ∧ n ≤ c ∧ c ≤ 9223372036854775807 ∧ N14 w b (off + i * 14) (el i 0) (el i 1) (el i 2) (el i 3) (el i 4) (el i 5) (el i 6) (el i 7) (el i 8) (el i 9) (el i 10) (el i 11) (el i 12) (el i 13) := by
  obtain ⟨a, c, h1, h2, h3, h4⟩ := h
  obtain ⟨b, off, rfl, hc⟩ := h4 (by omega)
  have hc := hc i hi
  exact ⟨b, off, c, h1, h2, h3, hc 0 (by omega), hc 1 (by omega), hc 2 (by omega), hc 3 (by omega), hc 4 (by omega), hc 5 (by omega), hc 6 (by omega), hc 7 (by omega), hc 8 (by omega), hc 9 (by omega), hc 10 (by omega), hc 11 (by omega), hc 12 (by omega), hc 13 (by omega)⟩
theorem TRow.at {w : World} {v : Value} {n : Nat} {t : Nat → Nd} {L : Nat} (h : TRow w v n t L) {i : Nat} (hi : i < n) :
    ∃ b off c p1 a1 n1 c1 b1 m1 d1 p2 a2 n2 c2 b2 m2 d2 p3 a3 n3 c3 b3 m3 d3, v = .slice (some ⟨b, off, none⟩) n c ∧ n ≤ c ∧ c ≤ 9223372036854775807 ∧
      N14 w b (off + i * 14) (.bool (t i).leaf) (.int .i64 (t i).feat) (.bool p1) (.slice a1 n1 c1) (.slice b1 m1 d1) (.int .i64 (t i).left) (.int .i64 (t i).right) (.bool (t i).miss) (.bool p2) (.slice a2 n2 c2) (.slice b2 m2 d2) (.bool p3) (.slice a3 n3 c3) (.slice b3 m3 d3) ∧
      RatAt w (.agg #[.bool p1, .slice a1 n1 c1, .slice b1 m1 d1]) (t i).cut L ∧ RatAt w (.agg #[.bool p2, .slice a2 n2 c2, .slice b2 m2 d2]) (t i).val L ∧ RatAt w (.agg #[.bool p3, .slice a3 n3 c3, .slice b3 m3 d3]) (t i).cov L ∧ I64 (t i).feat ∧ I64 (t i).left ∧ I64 (t i).right := by
  obtain ⟨el, h1, h2⟩ := h
  obtain ⟨b, off, c, e, hc, hm, hN⟩ := h1.n14 hi
  obtain ⟨e0, e1, ⟨p1, a1, n1, c1, b1, m1, d1, e2, e3, e4, r1⟩, e5, e6, e7, ⟨p2, a2, n2, c2, b2, m2, d2, e8, e9, e10, r2⟩, ⟨p3, a3, n3, c3, b3, m3, d3, e11, e12, e13, r3⟩, i1, i2, i3⟩ := h2 i hi
  rw [e0, e1, e2, e3, e4, e5, e6, e7, e8, e9, e10, e11, e12, e13] at hN
  exact ⟨b, off, c, p1, a1, n1, c1, b1, m1, d1, p2, a2, n2, c2, b2, m2, d2, p3, a3, n3, c3, b3, m3, d3, e, hc, hm, hN, r1, r2, r3, i1, i2, i3⟩
theorem TRaw.at {w : World} {v : Value} {n : Nat} {t : Nat → Nd} {K : Nat} (h : TRaw w v n t K) {i : Nat} (hi : i < n) :
    ∃ b off c p1 a1 n1 c1 b1 m1 d1 f1 g1 p2 a2 n2 c2 b2 m2 d2 f2 g2 p3 a3 n3 c3 b3 m3 d3 f3 g3, v = .slice (some ⟨b, off, none⟩) n c ∧ n ≤ c ∧ c ≤ 9223372036854775807 ∧
      N14 w b (off + i * 14) (.bool (t i).leaf) (.int .i64 (t i).feat) (.bool p1) (.slice a1 n1 c1) (.slice b1 m1 d1) (.int .i64 (t i).left) (.int .i64 (t i).right) (.bool (t i).miss) (.bool p2) (.slice a2 n2 c2) (.slice b2 m2 d2) (.bool p3) (.slice a3 n3 c3) (.slice b3 m3 d3) ∧
      (Raw w (.slice a1 n1 c1) n1 f1 ∧ Raw w (.slice b1 m1 d1) m1 g1 ∧ (t i).cut = mkRat (zof p1 (num f1 (min n1 K))) (num g1 (min m1 K))) ∧
      (Raw w (.slice a2 n2 c2) n2 f2 ∧ Raw w (.slice b2 m2 d2) m2 g2 ∧ (t i).val = mkRat (zof p2 (num f2 (min n2 K))) (num g2 (min m2 K))) ∧
      (Raw w (.slice a3 n3 c3) n3 f3 ∧ Raw w (.slice b3 m3 d3) m3 g3 ∧ (t i).cov = mkRat (zof p3 (num f3 (min n3 K))) (num g3 (min m3 K))) ∧ I64 (t i).feat ∧ I64 (t i).left ∧ I64 (t i).right := by
  obtain ⟨el, h1, h2⟩ := h
  obtain ⟨b, off, c, e, hc, hm, hN⟩ := h1.n14 hi
  obtain ⟨e0, e1, ⟨p1, a1, n1, c1, b1, m1, d1, f1, g1, e2, e3, e4, r1⟩, e5, e6, e7, ⟨p2, a2, n2, c2, b2, m2, d2, f2, g2, e8, e9, e10, r2⟩, ⟨p3, a3, n3, c3, b3, m3, d3, f3, g3, e11, e12, e13, r3⟩, i1, i2, i3⟩ := h2 i hi
  rw [e0, e1, e2, e3, e4, e5, e6, e7, e8, e9, e10, e11, e12, e13] at hN
  exact ⟨b, off, c, p1, a1, n1, c1, b1, m1, d1, f1, g1, p2, a2, n2, c2, b2, m2, d2, f2, g2, p3, a3, n3, c3, b3, m3, d3, f3, g3, e, hc, hm, hN, r1, r2, r3, i1, i2, i3⟩
/-- A model's trees. -/
def MRaw (w : World) (v : Value) (k : Nat) (N : Nat → Nat) (t : Nat → Nat → Nd) (K : Nat) : Prop := ∃ el, RowAt 1 w v k el ∧ ∀ i, i < k → TRaw w (el i 0) (N i) (t i) K
def MRow (w : World) (v : Value) (k : Nat) (N : Nat → Nat) (t : Nat → Nat → Nd) (L : Nat) : Prop := ∃ el, RowAt 1 w v k el ∧ ∀ i, i < k → TRow w (el i 0) (N i) (t i) L
theorem MRaw.below {w w' : World} {v : Value} {k : Nat} {N : Nat → Nat} {t : Nat → Nat → Nd} {K : Nat} (h : MRaw w v k N t K) (hb : Below w.heap.size w w') : MRaw w' v k N t K := by
  obtain ⟨el, h1, h2⟩ := h
  exact ⟨el, h1.below hb, fun i hi => (h2 i hi).below hb⟩
theorem MRow.below {w w' : World} {v : Value} {k : Nat} {N : Nat → Nat} {t : Nat → Nat → Nd} {L : Nat} (h : MRow w v k N t L) (hb : Below w.heap.size w w') : MRow w' v k N t L := by
  obtain ⟨el, h1, h2⟩ := h
  exact ⟨el, h1.below hb, fun i hi => (h2 i hi).below hb⟩
theorem MRow.open {w : World} {v : Value} {k : Nat} {N : Nat → Nat} {t : Nat → Nat → Nd} {L : Nat} (h : MRow w v k N t L) : ∃ a c, v = .slice a k c ∧ k ≤ c ∧ c ≤ 9223372036854775807 := by
  obtain ⟨el, ⟨a, c, h1, h2, h3, _⟩, _⟩ := h
  exact ⟨a, c, h1, h2, h3⟩
theorem MRaw.open {w : World} {v : Value} {k : Nat} {N : Nat → Nat} {t : Nat → Nat → Nd} {L : Nat} (h : MRaw w v k N t L) : ∃ a c, v = .slice a k c ∧ k ≤ c ∧ c ≤ 9223372036854775807 := by
  obtain ⟨el, ⟨a, c, h1, h2, h3, _⟩, _⟩ := h
  exact ⟨a, c, h1, h2, h3⟩
theorem MRow.at {w : World} {v : Value} {k : Nat} {N : Nat → Nat} {t : Nat → Nat → Nd} {L : Nat} (h : MRow w v k N t L) {i : Nat} (hi : i < k) : ∃ b off c a d, v = .slice (some ⟨b, off, none⟩) k c ∧ k ≤ c ∧ w.cell? ⟨b, off + i, none⟩ = some (.slice a (N i) d) ∧ TRow w (.slice a (N i) d) (N i) (t i) L := by
  obtain ⟨el, ⟨a, c, h1, h2, h3, h4⟩, h5⟩ := h
  obtain ⟨b, off, rfl, hc⟩ := h4 (by omega)
  obtain ⟨a, d, e, _⟩ := (h5 i hi).open
  have := hc i hi 0 (by omega)
  rw [Nat.mul_one, Nat.add_zero, e] at this
  exact ⟨b, off, c, a, d, h1, h2, this, e ▸ h5 i hi⟩
theorem MRaw.at {w : World} {v : Value} {k : Nat} {N : Nat → Nat} {t : Nat → Nat → Nd} {L : Nat} (h : MRaw w v k N t L) {i : Nat} (hi : i < k) : ∃ b off c a d, v = .slice (some ⟨b, off, none⟩) k c ∧ k ≤ c ∧ w.cell? ⟨b, off + i, none⟩ = some (.slice a (N i) d) ∧ TRaw w (.slice a (N i) d) (N i) (t i) L := by
  obtain ⟨el, ⟨a, c, h1, h2, h3, h4⟩, h5⟩ := h
  obtain ⟨b, off, rfl, hc⟩ := h4 (by omega)
  obtain ⟨a, d, e, _⟩ := (h5 i hi).open
  have := hc i hi 0 (by omega)
  rw [Nat.mul_one, Nat.add_zero, e] at this
  exact ⟨b, off, c, a, d, h1, h2, this, e ▸ h5 i hi⟩
/-- A variable for a node, and what it holds. -/
structure V14 (w : World) (R : Nat) (x0 x1 x2 x3 x4 x5 x6 x7 x8 x9 x10 x11 x12 x13 : Value) : Prop where
  c0 : w.cell? ⟨R, 0, none⟩ = some x0
  c1 : w.cell? ⟨R, 1, none⟩ = some x1
  c2 : w.cell? ⟨R, 2, none⟩ = some x2
  c3 : w.cell? ⟨R, 3, none⟩ = some x3
  c4 : w.cell? ⟨R, 4, none⟩ = some x4
  c5 : w.cell? ⟨R, 5, none⟩ = some x5
  c6 : w.cell? ⟨R, 6, none⟩ = some x6
  c7 : w.cell? ⟨R, 7, none⟩ = some x7
  c8 : w.cell? ⟨R, 8, none⟩ = some x8
  c9 : w.cell? ⟨R, 9, none⟩ = some x9
  c10 : w.cell? ⟨R, 10, none⟩ = some x10
  c11 : w.cell? ⟨R, 11, none⟩ = some x11
  c12 : w.cell? ⟨R, 12, none⟩ = some x12
  c13 : w.cell? ⟨R, 13, none⟩ = some x13
theorem V14.lt {w : World} {R : Nat} {x0 x1 x2 x3 x4 x5 x6 x7 x8 x9 x10 x11 x12 x13 : Value} (h : V14 w R x0 x1 x2 x3 x4 x5 x6 x7 x8 x9 x10 x11 x12 x13) : R < w.heap.size := World.block_lt_of_cell? _ _ h.c0
theorem V14.below {w w' : World} {R : Nat} {x0 x1 x2 x3 x4 x5 x6 x7 x8 x9 x10 x11 x12 x13 : Value} (h : V14 w R x0 x1 x2 x3 x4 x5 x6 x7 x8 x9 x10 x11 x12 x13) (hb : Below w.heap.size w w') : V14 w' R x0 x1 x2 x3 x4 x5 x6 x7 x8 x9 x10 x11 x12 x13 := by
  have hl := h.lt
  obtain ⟨h0, h1, h2, h3, h4, h5, h6, h7, h8, h9, h10, h11, h12, h13⟩ := h
  exact ⟨(hb.cell hl).trans h0, (hb.cell hl).trans h1, (hb.cell hl).trans h2, (hb.cell hl).trans h3, (hb.cell hl).trans h4, (hb.cell hl).trans h5, (hb.cell hl).trans h6, (hb.cell hl).trans h7, (hb.cell hl).trans h8, (hb.cell hl).trans h9, (hb.cell hl).trans h10, (hb.cell hl).trans h11, (hb.cell hl).trans h12, (hb.cell hl).trans h13⟩
theorem V14.lay (w : World) (t : TypeId) (x0 x1 x2 x3 x4 x5 x6 x7 x8 x9 x10 x11 x12 x13 : Value) : ∃ W, W = w.alloc (.cells #[x0, x1, x2, x3, x4, x5, x6, x7, x8, x9, x10, x11, x12, x13] t) ∧ W.heap.size = w.heap.size + 1 ∧ Below w.heap.size w W ∧ V14 W w.heap.size x0 x1 x2 x3 x4 x5 x6 x7 x8 x9 x10 x11 x12 x13 ∧ (∀ j, W.frozen? ⟨w.heap.size, j, none⟩ = false) := by
  have hb := heap_alloc_new w (.cells #[x0, x1, x2, x3, x4, x5, x6, x7, x8, x9, x10, x11, x12, x13] t)
  refine ⟨_, rfl, by simp, (Below.refl _ _).alloc (Nat.le_refl _) _, ?_, ?_⟩
  · constructor <;> (rw [cell_of_row _ _ _ _ _ _ hb]; rfl)
  · intro j
    simp only [World.frozen?]
    rw [hb]
    simp
/-- A fault. -/
def fltV (x : Option (Int × Nat × Nat)) : Value := match x with
  | none => .agg #[.int .i64 0, .int .i64 0, .int .i64 0, .int .i64 0]
  | some (e, i, nd) => .agg #[.int .i64 e, .int .i64 0, .int .i64 (i : Int), .int .i64 (nd : Int)]

theorem cells14 {l : List Value} (h : l.length = 14) : ∃ x0 x1 x2 x3 x4 x5 x6 x7 x8 x9 x10 x11 x12 x13, l = [x0, x1, x2, x3, x4, x5, x6, x7, x8, x9, x10, x11, x12, x13] := by
  match l, h with
  | [x0, x1, x2, x3, x4, x5, x6, x7, x8, x9, x10, x11, x12, x13], _ => exact ⟨x0, x1, x2, x3, x4, x5, x6, x7, x8, x9, x10, x11, x12, x13, rfl⟩
theorem cells_node : Tryd.prog.cellsOf 37 = 14 := by kernel_rfl
theorem cells_int : Tryd.prog.cellsOf 3 = 1 := by kernel_rfl
set_option maxRecDepth 100000 in
theorem trod_rat3 {H : Type} {enc : TypeId × Value → H} {W : World} {base n : Nat} {c0 c1 c2 : Value} {y : DataW H × List MemPlace} (K : Nat) (h : DataW.trod enc Tryd.prog W base (fun _ => true) true n 35 [c0, c1, c2] = some y) : ∃ q, RawN W c0 c1 c2 q K := by
  obtain ⟨y0, y1, m, hx, _, hy0, hy1⟩ := trod_struct2 Tryd.underlying35 h
  obtain ⟨z0, z1, m2, hx2, _, hz0, hz1⟩ := trod_struct2 Tryd.underlying33 hy0
  obtain ⟨b, e0, _⟩ := DataW.trod_bool Tryd.underlying4 hz0
  obtain ⟨ao, n1, c3, f, e1, hraw⟩ := open_nat hz1
  obtain ⟨bo, m3, d3, g, e2, hraw2⟩ := open_nat hy1
  simp [cells_bool, cells_nat, cells_wint] at e0 e1 e2
  exact ⟨_, b, ao, n1, c3, bo, m3, d3, f, g, e0, e1, e2, hraw, hraw2, rfl⟩
set_option maxRecDepth 100000 in
theorem trod_node {H : Type} {enc : TypeId × Value → H} {W : World} {base n : Nat} {x0 x1 x2 x3 x4 x5 x6 x7 x8 x9 x10 x11 x12 x13 : Value} {y : DataW H × List MemPlace} (K : Nat) (h : DataW.trod enc Tryd.prog W base (fun _ => true) true n 37 [x0, x1, x2, x3, x4, x5, x6, x7, x8, x9, x10, x11, x12, x13] = some y) :
    ∃ d : Nd, NodeRaw W (fun j => [x0, x1, x2, x3, x4, x5, x6, x7, x8, x9, x10, x11, x12, x13].getD j undef) d K := by
  obtain ⟨xs, m, _, _, _, hxl, hf⟩ := DataW.trod_struct Tryd.underlying37 h
  have get : ∀ i, i < 8 → ∃ z, xs[i]? = some z := fun i hi => ⟨xs[i]'(by rw [hxl]; exact hi), List.getElem?_eq_getElem _⟩
  obtain ⟨z0, g0⟩ := get 0 (by omega)
  obtain ⟨z1, g1⟩ := get 1 (by omega)
  obtain ⟨z2, g2⟩ := get 2 (by omega)
  obtain ⟨z3, g3⟩ := get 3 (by omega)
  obtain ⟨z4, g4⟩ := get 4 (by omega)
  obtain ⟨z5, g5⟩ := get 5 (by omega)
  obtain ⟨z6, g6⟩ := get 6 (by omega)
  obtain ⟨z7, g7⟩ := get 7 (by omega)
  have h0 : DataW.trod enc Tryd.prog W base (fun _ => true) true m 4 [x0] = some z0 := by
    have h : DataW.trod enc Tryd.prog W base (fun _ => true) true m 4 (List.take (Tryd.prog.cellsOf 4) (List.drop 0 [x0, x1, x2, x3, x4, x5, x6, x7, x8, x9, x10, x11, x12, x13])) = some z0 := (hf 0 _ rfl).trans g0
    rw [cells_bool] at h
    exact h
  have h1 : DataW.trod enc Tryd.prog W base (fun _ => true) true m 3 [x1] = some z1 := by
    have h : DataW.trod enc Tryd.prog W base (fun _ => true) true m 3 (List.take (Tryd.prog.cellsOf 3) (List.drop 1 [x0, x1, x2, x3, x4, x5, x6, x7, x8, x9, x10, x11, x12, x13])) = some z1 := (hf 1 _ rfl).trans g1
    rw [cells_int] at h
    exact h
  have h2 : DataW.trod enc Tryd.prog W base (fun _ => true) true m 35 [x2, x3, x4] = some z2 := by
    have h : DataW.trod enc Tryd.prog W base (fun _ => true) true m 35 (List.take (Tryd.prog.cellsOf 35) (List.drop 2 [x0, x1, x2, x3, x4, x5, x6, x7, x8, x9, x10, x11, x12, x13])) = some z2 := (hf 2 _ rfl).trans g2
    rw [cells_wrat] at h
    exact h
  have h3 : DataW.trod enc Tryd.prog W base (fun _ => true) true m 3 [x5] = some z3 := by
    have h : DataW.trod enc Tryd.prog W base (fun _ => true) true m 3 (List.take (Tryd.prog.cellsOf 3) (List.drop 5 [x0, x1, x2, x3, x4, x5, x6, x7, x8, x9, x10, x11, x12, x13])) = some z3 := (hf 3 _ rfl).trans g3
    rw [cells_int] at h
    exact h
  have h4 : DataW.trod enc Tryd.prog W base (fun _ => true) true m 3 [x6] = some z4 := by
    have h : DataW.trod enc Tryd.prog W base (fun _ => true) true m 3 (List.take (Tryd.prog.cellsOf 3) (List.drop 6 [x0, x1, x2, x3, x4, x5, x6, x7, x8, x9, x10, x11, x12, x13])) = some z4 := (hf 4 _ rfl).trans g4
    rw [cells_int] at h
    exact h
  have h5 : DataW.trod enc Tryd.prog W base (fun _ => true) true m 4 [x7] = some z5 := by
    have h : DataW.trod enc Tryd.prog W base (fun _ => true) true m 4 (List.take (Tryd.prog.cellsOf 4) (List.drop 7 [x0, x1, x2, x3, x4, x5, x6, x7, x8, x9, x10, x11, x12, x13])) = some z5 := (hf 5 _ rfl).trans g5
    rw [cells_bool] at h
    exact h
  have h6 : DataW.trod enc Tryd.prog W base (fun _ => true) true m 35 [x8, x9, x10] = some z6 := by
    have h : DataW.trod enc Tryd.prog W base (fun _ => true) true m 35 (List.take (Tryd.prog.cellsOf 35) (List.drop 8 [x0, x1, x2, x3, x4, x5, x6, x7, x8, x9, x10, x11, x12, x13])) = some z6 := (hf 6 _ rfl).trans g6
    rw [cells_wrat] at h
    exact h
  have h7 : DataW.trod enc Tryd.prog W base (fun _ => true) true m 35 [x11, x12, x13] = some z7 := by
    have h : DataW.trod enc Tryd.prog W base (fun _ => true) true m 35 (List.take (Tryd.prog.cellsOf 35) (List.drop 11 [x0, x1, x2, x3, x4, x5, x6, x7, x8, x9, x10, x11, x12, x13])) = some z7 := (hf 7 _ rfl).trans g7
    rw [cells_wrat] at h
    exact h
  obtain ⟨lf, e0, _⟩ := DataW.trod_bool Tryd.underlying4 h0
  obtain ⟨ft, e1, _, w1⟩ := DataW.trod_int Tryd.underlying3 h1
  obtain ⟨qc, r2⟩ := trod_rat3 K h2
  obtain ⟨lt, e3, _, w3⟩ := DataW.trod_int Tryd.underlying3 h3
  obtain ⟨rt, e4, _, w4⟩ := DataW.trod_int Tryd.underlying3 h4
  obtain ⟨ms, e5, _⟩ := DataW.trod_bool Tryd.underlying4 h5
  obtain ⟨qv, r6⟩ := trod_rat3 K h6
  obtain ⟨qo, r7⟩ := trod_rat3 K h7
  simp only [List.cons.injEq, and_true] at e0 e1 e3 e4 e5
  exact ⟨⟨lf, ft, qc, lt, rt, ms, qv, qo⟩, e0, e1, r2, e3, e4, e5, r6, r7, i64_wf w1, i64_wf w3, i64_wf w4⟩
set_option maxRecDepth 100000 in
theorem trod_tree {H : Type} {enc : TypeId × Value → H} {W : World} {base fuel : Nat} {c : Value} {y : DataW H × List MemPlace} (K : Nat) (hf : DataW.trod enc Tryd.prog W base (fun _ => true) true fuel 29 [c] = some y) : ∃ n t, TRaw W c n t K := by
  rcases Go.Deep.open_slice Tryd.underlying29 hf with ⟨hcs, _⟩ | ⟨x, l, c', m, n, D, Pl, hcs, _, hl, hm, hmm, _, hall⟩
  · simp only [List.cons.injEq, and_true] at hcs
    subst hcs
    exact ⟨0, fun _ => ⟨false, 0, 0, 0, 0, false, 0, 0⟩, fun _ _ => .bool false, RowAt.nil _ _ _, fun i hi => by omega⟩
  · simp only [List.cons.injEq, and_true] at hcs
    subst hcs
    rw [if_pos rfl] at hmm
    subst hmm
    rw [cells_node] at hall
    have each : ∀ i, ∃ y : Nd × (Nat → Value), i < l → (∀ j, j < 14 → W.cell? (x.add (i * 14 + j)) = some (y.2 j)) ∧ NodeRaw W y.2 y.1 K := by
      intro i
      by_cases hi : i < l
      · obtain ⟨cs, h1, h2⟩ := hall i (by omega)
        obtain ⟨_, hlen, hcell⟩ := World.cells?_some h1
        obtain ⟨x0, x1, x2, x3, x4, x5, x6, x7, x8, x9, x10, x11, x12, x13, rfl⟩ := cells14 hlen
        obtain ⟨d, hd⟩ := trod_node K h2
        refine ⟨(d, _), fun _ => ⟨fun j hj => ?_, hd⟩⟩
        have k := hcell j (by omega)
        rw [Go.Deep.add_add] at k
        rw [k]
        rcases (by omega : j = 0 ∨ j = 1 ∨ j = 2 ∨ j = 3 ∨ j = 4 ∨ j = 5 ∨ j = 6 ∨ j = 7 ∨ j = 8 ∨ j = 9 ∨ j = 10 ∨ j = 11 ∨ j = 12 ∨ j = 13) with rfl | rfl | rfl | rfl | rfl | rfl | rfl | rfl | rfl | rfl | rfl | rfl | rfl | rfl <;> rfl
      · exact ⟨(⟨false, 0, 0, 0, 0, false, 0, 0⟩, fun _ => .bool false), fun h => absurd h hi⟩
    obtain ⟨Y, hY⟩ := Classical.axiomOfChoice each
    refine ⟨l, fun i => (Y i).1, fun i => (Y i).2, ⟨_, _, rfl, hl, by unfold maxLen at hm; omega, fun h0 => ?_⟩, fun i hi => (hY i hi).2⟩
    obtain ⟨b, off, spot⟩ := x
    have hc := (hY 0 (by omega)).1 0 (by omega)
    have hspot : spot = none := by simpa [Addr.add] using World.cell?_spot hc
    subst hspot
    refine ⟨b, off, rfl, fun i hi j hj => ?_⟩
    have := (hY i hi).1 j hj
    rw [add_off] at this
    rw [Nat.add_assoc]
    exact this
set_option maxRecDepth 100000 in
theorem trod_trees {H : Type} {enc : TypeId × Value → H} {W : World} {base fuel : Nat} {c : Value} {y : DataW H × List MemPlace} (K : Nat) (hf : DataW.trod enc Tryd.prog W base (fun _ => true) true fuel 22 [c] = some y) : ∃ k N t, MRaw W c k N t K := by
  rcases Go.Deep.open_slice Tryd.underlying22 hf with ⟨hcs, _⟩ | ⟨x, l, c', m, n, D, Pl, hcs, _, hl, hm, hmm, _, hall⟩
  · simp only [List.cons.injEq, and_true] at hcs
    subst hcs
    exact ⟨0, fun _ => 0, fun _ _ => ⟨false, 0, 0, 0, 0, false, 0, 0⟩, fun _ _ => .bool false, RowAt.nil _ _ _, fun i hi => by omega⟩
  · simp only [List.cons.injEq, and_true] at hcs
    subst hcs
    rw [if_pos rfl] at hmm
    subst hmm
    rw [show Tryd.prog.cellsOf 29 = 1 by kernel_rfl] at hall
    have each : ∀ i, ∃ y : Value × Nat × (Nat → Nd), i < l → W.cell? (x.add (i * 1)) = some y.1 ∧ TRaw W y.1 y.2.1 y.2.2 K := by
      intro i
      by_cases hi : i < l
      · obtain ⟨cs, h1, h2⟩ := hall i (by omega)
        obtain ⟨_, hlen, hcell⟩ := World.cells?_some h1
        obtain ⟨u, rfl⟩ : ∃ u, cs = [u] := by
          match cs, hlen with
          | [u], _ => exact ⟨u, rfl⟩
        obtain ⟨n, t, ht⟩ := trod_tree K h2
        refine ⟨(u, n, t), fun _ => ⟨?_, ht⟩⟩
        have k := hcell 0 (by omega)
        rw [Go.Deep.add_add, Nat.add_zero] at k
        exact k
      · exact ⟨(.bool false, 0, fun _ => ⟨false, 0, 0, 0, 0, false, 0, 0⟩), fun h => absurd h hi⟩
    obtain ⟨Y, hY⟩ := Classical.axiomOfChoice each
    refine ⟨l, fun i => (Y i).2.1, fun i => (Y i).2.2, fun i _ => (Y i).1, ⟨_, _, rfl, hl, by unfold maxLen at hm; omega, fun h0 => ?_⟩, fun i hi => (hY i hi).2⟩
    obtain ⟨b, off, spot⟩ := x
    have hc := (hY 0 (by omega)).1
    have hspot : spot = none := by simpa [Addr.add] using World.cell?_spot hc
    subst hspot
    refine ⟨b, off, rfl, fun i hi j hj => ?_⟩
    have := (hY i hi).1
    rw [add_off] at this
    rw [show j = 0 by omega, Nat.add_zero]
    exact this
set_option maxRecDepth 100000 in
/-- A list of nodes that comes in; a model that comes in. -/
theorem open_nodes {H : Type} {enc : TypeId × Value → H} {W : World} {base b0 : Nat} {r : Reach} {v : Value} {d : DataW H} {ps : List MemPlace} (K : Nat)
    (hval : Value.okWide Tryd.prog W r b0 29 v) (h : DataW.Trod enc Tryd.prog W base (fun _ => true) true 29 v d ps) : ∃ n t, TRaw W v n t K := by
  obtain ⟨a, len, cap, rfl⟩ := okWide_slice Tryd.underlying29 hval
  obtain ⟨fuel, hf⟩ := h
  exact trod_tree K hf
set_option maxRecDepth 100000 in
theorem open_model {H : Type} {enc : TypeId × Value → H} {W : World} {base b0 : Nat} {r : Reach} {v : Value} {d : DataW H} {ps : List MemPlace} (K : Nat)
    (hval : Value.okWide Tryd.prog W r b0 24 v) (h : DataW.Trod enc Tryd.prog W base (fun _ => true) true 24 v d ps) : ∃ F a c k N t, v = .agg #[.int .i64 F, .slice a k c] ∧ I64 F ∧ MRaw W (.slice a k c) k N t K := by
  obtain ⟨cs, rfl, hsz⟩ := okWide_struct Tryd.underlying24 hval
  rw [show Tryd.prog.cellsOf 24 = 2 by kernel_rfl] at hsz
  obtain ⟨c0, c1, rfl⟩ : ∃ a b, cs = #[a, b] := by
    obtain ⟨l⟩ := cs
    match l, hsz with
    | [a, b], _ => exact ⟨a, b, rfl⟩
  obtain ⟨fuel, hf⟩ := h
  obtain ⟨y0, y1, m, hx, _, hy0, hy1⟩ := trod_struct2 Tryd.underlying24 hf
  obtain ⟨F, e0, _, w0⟩ := DataW.trod_int Tryd.underlying3 hy0
  simp [Value.cells, cells_int, show Tryd.prog.cellsOf 22 = 1 by kernel_rfl] at e0 hy1
  obtain ⟨k, N, t, ht⟩ := trod_trees K hy1
  obtain ⟨a, c, e, _⟩ := ht.open
  exact ⟨F, a, c, k, N, t, by rw [e0, e], i64_wf w0, e ▸ ht⟩

end Go.Proofs.YtbelnhpjhpoacaaDoor

namespace Go.Proofs.YtbelnhpjhpoacaaDoor
open Go.RowKit
set_option linter.unusedVariables false

theorem cell_set_at {w : World} {R i : Nat} {x u : Value} (h : w.cell? ⟨R, i, none⟩ = some x) : (w.setCell ⟨R, i, none⟩ u).cell? ⟨R, i, none⟩ = some u := World.cell?_setCell_same _ _ _ h
theorem cell_set_by {w : World} {R i j : Nat} {x u : Value} (h : w.cell? ⟨R, i, none⟩ = some x) (hne : i ≠ j) : (w.setCell ⟨R, j, none⟩ u).cell? ⟨R, i, none⟩ = some x := by
  rw [World.cell?_setCell_other _ _ _ _ (fun e => hne (by injection e with _ e2; exact e2.symm))]; exact h
theorem grown_at (w : World) (a : Addr) (x : Value) : w.grownBy (w.setCell a x) (some a.block) :=
  ⟨rfl, rfl, rfl, by simp, fun k _ hk => by rw [Below.heap_setCell _ _ _ _ (fun e => hk (by rw [e]))]⟩
theorem limb_bool (b : Bool) : ¬ IsLimb (.bool b) := fun ⟨_, h⟩ => by rcases h with h | h <;> cases h
theorem limb_slice (a : Option Addr) (n c : Nat) : ¬ IsLimb (.slice a n c) := fun ⟨_, h⟩ => by rcases h with h | h <;> cases h
theorem AtN.keepL {w w' : World} {x y z : Value} {q : Rat} {L : Nat} (h : AtN w x y z q L) (hk : KeepQ IsLimb w w') : AtN w' x y z q L := by
  obtain ⟨p, ao, m, c, bo, k, d, a, b, e, r⟩ := h
  exact ⟨p, ao, m, c, bo, k, d, a, b, e, r.keepL hk⟩
theorem NodeAt.keepL {w w' : World} {el : Nat → Value} {d : Nd} {L : Nat} (h : NodeAt w el d L) (hk : KeepQ IsLimb w w') : NodeAt w' el d L := by
  obtain ⟨a, b, c, e, f, g, i, j, k⟩ := h
  exact ⟨a, b, c.keepL hk, e, f, g, i.keepL hk, j.keepL hk, k⟩
theorem NodeAt.congr {w : World} {el el' : Nat → Value} {d : Nd} {L : Nat} (h : NodeAt w el d L) (e : ∀ j, j < 14 → el j = el' j) : NodeAt w el' d L := by
  unfold NodeAt at h ⊢
  rw [← e 0 (by omega), ← e 1 (by omega), ← e 2 (by omega), ← e 3 (by omega), ← e 4 (by omega), ← e 5 (by omega), ← e 6 (by omega), ← e 7 (by omega), ← e 8 (by omega), ← e 9 (by omega), ← e 10 (by omega), ← e 11 (by omega), ← e 12 (by omega), ← e 13 (by omega)]
  exact h
/-- A tree of the call's own. -/
def NOwn (B : Nat) (w : World) (v : Value) (n : Nat) (t : Nat → Nd) (L : Nat) : Prop := ∃ cs : List Value, w.ownsRow B 37 14 v n cs ∧ (∀ g, v.ownBlock = some g → PureB IsLimb w g) ∧ ∀ i, i < n → NodeAt w (fun j => cs.getD (i * 14 + j) undef) (t i) L
theorem NOwn.nil (B : Nat) (w : World) (t : Nat → Nd) (L : Nat) : NOwn B w (.slice none 0 0) 0 t L := ⟨[], World.ownsRow_nil _ _ _ _, fun g h => by simp [Value.ownBlock] at h, fun i hi => by omega⟩
theorem owns_le {B B' k : Nat} {e : TypeId} {w : World} {v : Value} {n : Nat} {us : List Value} (h : w.ownsRow B e k v n us) (hb : B' ≤ B) : w.ownsRow B' e k v n us := by
  refine ⟨h.1, ?_⟩
  rcases h.2 with hn | ⟨g, cap, cur, rfl, hB, rest⟩
  · exact .inl hn
  · exact .inr ⟨g, cap, cur, rfl, by omega, rest⟩
theorem NOwn.le {B B' : Nat} {w : World} {v : Value} {n : Nat} {t : Nat → Nd} {L : Nat} (h : NOwn B w v n t L) (hb : B' ≤ B) : NOwn B' w v n t L := by
  obtain ⟨cs, h1, h2, h3⟩ := h
  exact ⟨cs, owns_le h1 hb, h2, h3⟩
theorem NOwn.later {B : Nat} {w w' : World} {v : Value} {n : Nat} {t : Nat → Nd} {L : Nat} (h : NOwn B w v n t L) (hb : Below w.heap.size w w') : NOwn B w' v n t L := by
  obtain ⟨cs, h1, h2, h3⟩ := h
  exact ⟨cs, owns_later h1 hb, fun g hg => (h2 g hg).below hb (World.ownsRow.lt h1 g hg).2, fun i hi => (h3 i hi).below hb⟩
theorem NOwn.form {B : Nat} {w : World} {v : Value} {n : Nat} {t : Nat → Nd} {L : Nat} (h : NOwn B w v n t L) : ∃ a c, v = .slice a n c := by
  obtain ⟨cs, h1, _⟩ := h
  rcases h1.2 with ⟨rfl, rfl⟩ | ⟨g, c, _, rfl, _⟩
  · exact ⟨none, 0, rfl⟩
  · exact ⟨_, c, rfl⟩
theorem NOwn.row {B : Nat} {w : World} {v : Value} {n : Nat} {t : Nat → Nd} {L : Nat} (h : NOwn B w v n t L) : TRow w v n t L := by
  obtain ⟨cs, h1, _, h3⟩ := h
  refine ⟨fun i j => cs.getD (i * 14 + j) undef, ?_, h3⟩
  have hl := h1.1
  rcases h1.2 with ⟨rfl, rfl⟩ | ⟨g, c, cur, rfl, hB, hg, hc, hm, rest⟩
  · exact RowAt.nil _ _ _
  · refine ⟨_, c, rfl, hc, by unfold maxLen at hm; omega, fun _ => ⟨g, 0, rfl, fun i hi j hj => ?_⟩⟩
    have hlt : i * 14 + j < cs.length := by rw [hl]; omega
    rw [Nat.zero_add]
    exact owns_cell h1 (by show cs[i * 14 + j]? = some (cs.getD (i * 14 + j) undef); rw [List.getD_eq_getElem?_getD, List.getElem?_eq_getElem hlt]; rfl)
/-- One node more. -/
theorem NOwn.more {B : Nat} {w w' : World} {v v' : Value} {n : Nat} {t : Nat → Nd} {L : Nat} {cs news : List Value} (h1 : w'.ownsRow B 37 14 v' (n + 1) (cs ++ news)) (hl : cs.length = n * 14) (hp : ∀ g, v'.ownBlock = some g → PureB IsLimb w' g) (hk : KeepQ IsLimb w w') (h3 : ∀ i, i < n → NodeAt w (fun j => cs.getD (i * 14 + j) undef) (t i) L) (hn : NodeAt w (fun j => news.getD j undef) (t n) L) : NOwn B w' v' (n + 1) t L := by
  refine ⟨_, h1, hp, fun i hi => ?_⟩
  by_cases e : i = n
  · subst e
    refine (hn.keepL hk).congr (fun j hj => ?_)
    simp only [List.getD_eq_getElem?_getD]
    rw [List.getElem?_append_right (by omega), hl, Nat.add_sub_cancel_left]
  · refine ((h3 i (by omega)).keepL hk).congr (fun j hj => ?_)
    simp only [List.getD_eq_getElem?_getD]
    rw [List.getElem?_append_left (by omega)]
/-- Another row was written. -/
theorem NOwn.kept {B : Nat} {w w' : World} {v : Value} {n : Nat} {t : Nat → Nd} {L : Nat} {row : Option Nat} (h : NOwn B w v n t L) (hg : w.grownBy w' row) (hk : KeepQ IsLimb w w') (hne : v.ownBlock = none ∨ v.ownBlock ≠ row) : NOwn B w' v n t L := by
  obtain ⟨cs, h1, h2, h3⟩ := h
  refine ⟨cs, h1.kept hg hne, fun g hgg o u hu => h2 g hgg o u ?_, fun i hi => (h3 i hi).keepL hk⟩
  have hlt := (World.ownsRow.lt h1 g hgg).2
  have hne2 : some g ≠ row := fun e => by
    rcases hne with a | a
    · rw [hgg] at a; cases a
    · exact a (hgg.trans e)
  rw [← World.cell?_of_block (w := w) (hg.block g hlt hne2)]; exact hu
theorem NOwn.set {B : Nat} {w : World} {v : Value} {n : Nat} {t : Nat → Nd} {L : Nat} (h : NOwn B w v n t L) {a : Addr} (ha : a.block < B) (u : Value) (hk : KeepQ IsLimb w (w.setCell a u)) : NOwn B (w.setCell a u) v n t L := by
  obtain ⟨cs, h1, h2, h3⟩ := h
  refine ⟨cs, ownsRow_setCell_below h1 ha u, fun g hgg o x hx => h2 g hgg o x ?_, fun i hi => (h3 i hi).keepL hk⟩
  have hlt := (World.ownsRow.lt h1 g hgg).1
  rwa [World.cell?_setCell_other _ _ _ _ (fun e => by rw [e] at ha; simp at ha; omega)] at hx
/-- Two rows of unlike elements lie in two blocks. -/
theorem unlike {B B' k k' n n' : Nat} {e e' : TypeId} {w : World} {v v' : Value} {us us' : List Value} (h : w.ownsRow B e k v n us) (h' : w.ownsRow B' e' k' v' n' us') (hne : e ≠ e') : v.ownBlock = none ∨ v.ownBlock ≠ v'.ownBlock := by
  rcases h.2 with ⟨rfl, _⟩ | ⟨g, c, cur, rfl, _, hg, _⟩
  · exact .inl rfl
  · refine .inr (fun e9 => ?_)
    rcases h'.2 with ⟨rfl, _⟩ | ⟨g', c', cur', rfl, _, hg', _⟩
    · cases e9
    · have : g = g' := by injection e9
      subst this
      rw [hg] at hg'
      injection hg' with hh
      injection hh with _ h2
      exact hne h2
/-- A model's trees, all of the call's own. -/
def MOwn (B : Nat) (w : World) (v : Value) (k : Nat) (N : Nat → Nat) (T : Nat → Nat → Nd) (L : Nat) : Prop := ∃ us : List Value, w.ownsRow B 29 1 v k us ∧ (∀ g, v.ownBlock = some g → PureB IsLimb w g) ∧ ∀ i, i < k → ∃ u, us[i]? = some u ∧ NOwn B w u (N i) (T i) L
theorem MOwn.nil (B : Nat) (w : World) (N : Nat → Nat) (T : Nat → Nat → Nd) (L : Nat) : MOwn B w (.slice none 0 0) 0 N T L := ⟨[], World.ownsRow_nil _ _ _ _, fun g h => by simp [Value.ownBlock] at h, fun i hi => by omega⟩
theorem MOwn.later {B : Nat} {w w' : World} {v : Value} {k : Nat} {N : Nat → Nat} {T : Nat → Nat → Nd} {L : Nat} (h : MOwn B w v k N T L) (hb : Below w.heap.size w w') : MOwn B w' v k N T L := by
  obtain ⟨us, h1, h2, h3⟩ := h
  exact ⟨us, owns_later h1 hb, fun g hg => (h2 g hg).below hb (World.ownsRow.lt h1 g hg).2, fun i hi => let ⟨u, a, b⟩ := h3 i hi; ⟨u, a, b.later hb⟩⟩
theorem MOwn.set {B : Nat} {w : World} {v : Value} {k : Nat} {N : Nat → Nat} {T : Nat → Nat → Nd} {L : Nat} (h : MOwn B w v k N T L) {a : Addr} (ha : a.block < B) (u : Value) (hk : KeepQ IsLimb w (w.setCell a u)) : MOwn B (w.setCell a u) v k N T L := by
  obtain ⟨us, h1, h2, h3⟩ := h
  refine ⟨us, ownsRow_setCell_below h1 ha u, fun g hgg o x hx => h2 g hgg o x ?_, fun i hi => let ⟨y, a1, b1⟩ := h3 i hi; ⟨y, a1, b1.set ha u hk⟩⟩
  have hlt := (World.ownsRow.lt h1 g hgg).1
  rwa [World.cell?_setCell_other _ _ _ _ (fun e => by rw [e] at ha; simp at ha; omega)] at hx
theorem MOwn.form {B : Nat} {w : World} {v : Value} {k : Nat} {N : Nat → Nat} {T : Nat → Nat → Nd} {L : Nat} (h : MOwn B w v k N T L) : ∃ a c, v = .slice a k c := by
  obtain ⟨cs, h1, _⟩ := h
  rcases h1.2 with ⟨rfl, rfl⟩ | ⟨g, c, _, rfl, _⟩
  · exact ⟨none, 0, rfl⟩
  · exact ⟨_, c, rfl⟩
theorem MOwn.row {B : Nat} {w : World} {v : Value} {k : Nat} {N : Nat → Nat} {T : Nat → Nat → Nd} {L : Nat} (h : MOwn B w v k N T L) : MRow w v k N T L := by
  obtain ⟨us, h1, _, h3⟩ := h
  refine ⟨fun i _ => us.getD i undef, ?_, fun i hi => ?_⟩
  · have hl := h1.1
    rcases h1.2 with ⟨rfl, rfl⟩ | ⟨g, c, cur, rfl, hB, hg, hc, hm, rest⟩
    · exact RowAt.nil _ _ _
    · refine ⟨_, c, rfl, hc, by unfold maxLen at hm; omega, fun _ => ⟨g, 0, rfl, fun i hi j hj => ?_⟩⟩
      obtain ⟨u, hu, _⟩ := h3 i hi
      rw [show j = 0 by omega, Nat.zero_add, Nat.mul_one, Nat.add_zero]
      exact owns_cell h1 (by show us[i]? = some (us.getD i undef); rw [List.getD_eq_getElem?_getD, hu]; rfl)
  · obtain ⟨u, hu, ho⟩ := h3 i hi
    show TRow w (us.getD i undef) (N i) (T i) L
    rw [List.getD_eq_getElem?_getD, hu]
    exact ho.row
/-- One tree more. -/
theorem MOwn.more {B : Nat} {w w' : World} {v v' y : Value} {k : Nat} {N : Nat → Nat} {T : Nat → Nat → Nd} {L : Nat} (h : MOwn B w v k N T L) (hy : NOwn B w y (N k) (T k) L) (h1 : ∀ us, w.ownsRow B 29 1 v k us → w'.ownsRow B 29 1 v' (k + 1) (us ++ [y])) (hg : w.grownBy w' v.ownBlock) (hp : ∀ g, v'.ownBlock = some g → PureB IsLimb w' g) (hk : KeepQ IsLimb w w') : MOwn B w' v' (k + 1) N T L := by
  obtain ⟨us, o1, o2, o3⟩ := h
  have hl := o1.1
  have stay : ∀ u n t, NOwn B w u n t L → NOwn B w' u n t L := fun u n t ht => by
    obtain ⟨cs, c1, _⟩ := id ht
    exact ht.kept hg hk (unlike c1 o1 (by decide))
  refine ⟨us ++ [y], h1 us o1, hp, fun i hi => ?_⟩
  by_cases e : i = k
  · subst e
    exact ⟨y, by rw [List.getElem?_append_right (by omega), hl, Nat.mul_one, Nat.sub_self]; rfl, stay _ _ _ hy⟩
  · obtain ⟨u, hu, ho⟩ := o3 i (by omega)
    exact ⟨u, by rw [List.getElem?_append_left (by omega)]; exact hu, stay _ _ _ ho⟩
theorem info_node : (Tryd.prog.info? 37).map (fun i => (i.zero, i.size, i.bytes)) = some (some (.agg #[.bool false, .int .i64 0, .bool false, .slice none 0 0, .slice none 0 0, .int .i64 0, .int .i64 0, .bool false, .bool false, .slice none 0 0, .slice none 0 0, .bool false, .slice none 0 0, .slice none 0 0]), 14, 208) := by kernel_rfl
theorem info_tree : (Tryd.prog.info? 29).map (fun i => (i.zero, i.size, i.bytes)) = some (some (.slice none 0 0), 1, 24) := by kernel_rfl

theorem V14.set2 {w : World} {R : Nat} {x0 x1 x2 x3 x4 x5 x6 x7 x8 x9 x10 x11 x12 x13 : Value} (h : V14 w R x0 x1 x2 x3 x4 x5 x6 x7 x8 x9 x10 x11 x12 x13) (u0 u1 u2 : Value) : V14 (((w.setCell ⟨R, 2, none⟩ u0).setCell ⟨R, 3, none⟩ u1).setCell ⟨R, 4, none⟩ u2) R x0 x1 u0 u1 u2 x5 x6 x7 x8 x9 x10 x11 x12 x13 := by
  constructor
  · exact cell_set_by (cell_set_by (cell_set_by h.c0 (by omega)) (by omega)) (by omega)
  · exact cell_set_by (cell_set_by (cell_set_by h.c1 (by omega)) (by omega)) (by omega)
  · exact cell_set_by (cell_set_by (cell_set_at h.c2) (by omega)) (by omega)
  · exact cell_set_by (cell_set_at (cell_set_by h.c3 (by omega))) (by omega)
  · exact cell_set_at (cell_set_by (cell_set_by h.c4 (by omega)) (by omega))
  · exact cell_set_by (cell_set_by (cell_set_by h.c5 (by omega)) (by omega)) (by omega)
  · exact cell_set_by (cell_set_by (cell_set_by h.c6 (by omega)) (by omega)) (by omega)
  · exact cell_set_by (cell_set_by (cell_set_by h.c7 (by omega)) (by omega)) (by omega)
  · exact cell_set_by (cell_set_by (cell_set_by h.c8 (by omega)) (by omega)) (by omega)
  · exact cell_set_by (cell_set_by (cell_set_by h.c9 (by omega)) (by omega)) (by omega)
  · exact cell_set_by (cell_set_by (cell_set_by h.c10 (by omega)) (by omega)) (by omega)
  · exact cell_set_by (cell_set_by (cell_set_by h.c11 (by omega)) (by omega)) (by omega)
  · exact cell_set_by (cell_set_by (cell_set_by h.c12 (by omega)) (by omega)) (by omega)
  · exact cell_set_by (cell_set_by (cell_set_by h.c13 (by omega)) (by omega)) (by omega)
theorem V14.keep2 {w : World} {R : Nat} {x0 x1 x2 x3 x4 x5 x6 x7 x8 x9 x10 x11 x12 x13 : Value} (h : V14 w R x0 x1 x2 x3 x4 x5 x6 x7 x8 x9 x10 x11 x12 x13) (h0 : ¬ IsLimb x2) (h1 : ¬ IsLimb x3) (h2 : ¬ IsLimb x4) (u0 u1 u2 : Value) : KeepQ IsLimb w (((w.setCell ⟨R, 2, none⟩ u0).setCell ⟨R, 3, none⟩ u1).setCell ⟨R, 4, none⟩ u2) :=
  ((keepL_set h.c2 h0 u0).trans (keepL_set (cell_set_by h.c3 (by omega)) h1 u1)).trans (keepL_set (cell_set_by (cell_set_by h.c4 (by omega)) (by omega)) h2 u2)
theorem V14.set8 {w : World} {R : Nat} {x0 x1 x2 x3 x4 x5 x6 x7 x8 x9 x10 x11 x12 x13 : Value} (h : V14 w R x0 x1 x2 x3 x4 x5 x6 x7 x8 x9 x10 x11 x12 x13) (u0 u1 u2 : Value) : V14 (((w.setCell ⟨R, 8, none⟩ u0).setCell ⟨R, 9, none⟩ u1).setCell ⟨R, 10, none⟩ u2) R x0 x1 x2 x3 x4 x5 x6 x7 u0 u1 u2 x11 x12 x13 := by
  constructor
  · exact cell_set_by (cell_set_by (cell_set_by h.c0 (by omega)) (by omega)) (by omega)
  · exact cell_set_by (cell_set_by (cell_set_by h.c1 (by omega)) (by omega)) (by omega)
  · exact cell_set_by (cell_set_by (cell_set_by h.c2 (by omega)) (by omega)) (by omega)
  · exact cell_set_by (cell_set_by (cell_set_by h.c3 (by omega)) (by omega)) (by omega)
  · exact cell_set_by (cell_set_by (cell_set_by h.c4 (by omega)) (by omega)) (by omega)
  · exact cell_set_by (cell_set_by (cell_set_by h.c5 (by omega)) (by omega)) (by omega)
  · exact cell_set_by (cell_set_by (cell_set_by h.c6 (by omega)) (by omega)) (by omega)
  · exact cell_set_by (cell_set_by (cell_set_by h.c7 (by omega)) (by omega)) (by omega)
  · exact cell_set_by (cell_set_by (cell_set_at h.c8) (by omega)) (by omega)
  · exact cell_set_by (cell_set_at (cell_set_by h.c9 (by omega))) (by omega)
  · exact cell_set_at (cell_set_by (cell_set_by h.c10 (by omega)) (by omega))
  · exact cell_set_by (cell_set_by (cell_set_by h.c11 (by omega)) (by omega)) (by omega)
  · exact cell_set_by (cell_set_by (cell_set_by h.c12 (by omega)) (by omega)) (by omega)
  · exact cell_set_by (cell_set_by (cell_set_by h.c13 (by omega)) (by omega)) (by omega)
theorem V14.keep8 {w : World} {R : Nat} {x0 x1 x2 x3 x4 x5 x6 x7 x8 x9 x10 x11 x12 x13 : Value} (h : V14 w R x0 x1 x2 x3 x4 x5 x6 x7 x8 x9 x10 x11 x12 x13) (h0 : ¬ IsLimb x8) (h1 : ¬ IsLimb x9) (h2 : ¬ IsLimb x10) (u0 u1 u2 : Value) : KeepQ IsLimb w (((w.setCell ⟨R, 8, none⟩ u0).setCell ⟨R, 9, none⟩ u1).setCell ⟨R, 10, none⟩ u2) :=
  ((keepL_set h.c8 h0 u0).trans (keepL_set (cell_set_by h.c9 (by omega)) h1 u1)).trans (keepL_set (cell_set_by (cell_set_by h.c10 (by omega)) (by omega)) h2 u2)
theorem V14.set11 {w : World} {R : Nat} {x0 x1 x2 x3 x4 x5 x6 x7 x8 x9 x10 x11 x12 x13 : Value} (h : V14 w R x0 x1 x2 x3 x4 x5 x6 x7 x8 x9 x10 x11 x12 x13) (u0 u1 u2 : Value) : V14 (((w.setCell ⟨R, 11, none⟩ u0).setCell ⟨R, 12, none⟩ u1).setCell ⟨R, 13, none⟩ u2) R x0 x1 x2 x3 x4 x5 x6 x7 x8 x9 x10 u0 u1 u2 := by
  constructor
  · exact cell_set_by (cell_set_by (cell_set_by h.c0 (by omega)) (by omega)) (by omega)
  · exact cell_set_by (cell_set_by (cell_set_by h.c1 (by omega)) (by omega)) (by omega)
  · exact cell_set_by (cell_set_by (cell_set_by h.c2 (by omega)) (by omega)) (by omega)
  · exact cell_set_by (cell_set_by (cell_set_by h.c3 (by omega)) (by omega)) (by omega)
  · exact cell_set_by (cell_set_by (cell_set_by h.c4 (by omega)) (by omega)) (by omega)
  · exact cell_set_by (cell_set_by (cell_set_by h.c5 (by omega)) (by omega)) (by omega)
  · exact cell_set_by (cell_set_by (cell_set_by h.c6 (by omega)) (by omega)) (by omega)
  · exact cell_set_by (cell_set_by (cell_set_by h.c7 (by omega)) (by omega)) (by omega)
  · exact cell_set_by (cell_set_by (cell_set_by h.c8 (by omega)) (by omega)) (by omega)
  · exact cell_set_by (cell_set_by (cell_set_by h.c9 (by omega)) (by omega)) (by omega)
  · exact cell_set_by (cell_set_by (cell_set_by h.c10 (by omega)) (by omega)) (by omega)
  · exact cell_set_by (cell_set_by (cell_set_at h.c11) (by omega)) (by omega)
  · exact cell_set_by (cell_set_at (cell_set_by h.c12 (by omega))) (by omega)
  · exact cell_set_at (cell_set_by (cell_set_by h.c13 (by omega)) (by omega))
theorem V14.keep11 {w : World} {R : Nat} {x0 x1 x2 x3 x4 x5 x6 x7 x8 x9 x10 x11 x12 x13 : Value} (h : V14 w R x0 x1 x2 x3 x4 x5 x6 x7 x8 x9 x10 x11 x12 x13) (h0 : ¬ IsLimb x11) (h1 : ¬ IsLimb x12) (h2 : ¬ IsLimb x13) (u0 u1 u2 : Value) : KeepQ IsLimb w (((w.setCell ⟨R, 11, none⟩ u0).setCell ⟨R, 12, none⟩ u1).setCell ⟨R, 13, none⟩ u2) :=
  ((keepL_set h.c11 h0 u0).trans (keepL_set (cell_set_by h.c12 (by omega)) h1 u1)).trans (keepL_set (cell_set_by (cell_set_by h.c13 (by omega)) (by omega)) h2 u2)
theorem soft_set {w : World} {R : Nat} (h : ∀ j, w.frozen? ⟨R, j, none⟩ = false) (a : Addr) (u : Value) : ∀ j, (w.setCell a u).frozen? ⟨R, j, none⟩ = false := fun j => by simp [h j]
theorem soft_below {w w' : World} {R : Nat} (h : ∀ j, w.frozen? ⟨R, j, none⟩ = false) (hR : R < w.heap.size) (hb : Below w.heap.size w w') : ∀ j, w'.frozen? ⟨R, j, none⟩ = false := fun j => (hb.frozen (p := ⟨R, j, none⟩) hR).trans (h j)

theorem NOwn.apart {B : Nat} {w : World} {v : Value} {n : Nat} {t : Nat → Nd} {L : Nat} (h : NOwn B w v n t L) {a : Addr} (ha : ∀ g, v.ownBlock = some g → g ≠ a.block) (u : Value) (hk : KeepQ IsLimb w (w.setCell a u)) : NOwn B (w.setCell a u) v n t L := by
  refine h.kept (grown_at w a u) hk ?_
  cases e : v.ownBlock with
  | none => exact .inl rfl
  | some g => exact .inr (fun e2 => ha g e (by injection e2))
theorem NOwn.blocks {B : Nat} {w : World} {v : Value} {n : Nat} {t : Nat → Nd} {L : Nat} (h : NOwn B w v n t L) : ∀ g, v.ownBlock = some g → B ≤ g ∧ g < w.heap.size := by
  obtain ⟨cs, h1, _⟩ := h
  exact World.ownsRow.lt h1
theorem NOwn.apart2 {B : Nat} {w : World} {v : Value} {n : Nat} {t : Nat → Nd} {L R : Nat} (h : NOwn B w v n t L) (ha : ∀ g, v.ownBlock = some g → g ≠ R) {x2 x3 x4 : Value} (c2 : w.cell? ⟨R, 2, none⟩ = some x2) (c3 : w.cell? ⟨R, 3, none⟩ = some x3) (c4 : w.cell? ⟨R, 4, none⟩ = some x4) (h0 : ¬ IsLimb x2) (h1 : ¬ IsLimb x3) (h2 : ¬ IsLimb x4) (u0 u1 u2 : Value) : NOwn B (((w.setCell ⟨R, 2, none⟩ u0).setCell ⟨R, 3, none⟩ u1).setCell ⟨R, 4, none⟩ u2) v n t L :=
  ((h.apart (a := ⟨R, 2, none⟩) ha u0 (keepL_set c2 h0 u0)).apart (a := ⟨R, 3, none⟩) ha u1 (keepL_set (cell_set_by c3 (by omega)) h1 u1)).apart (a := ⟨R, 4, none⟩) ha u2 (keepL_set (cell_set_by (cell_set_by c4 (by omega)) (by omega)) h2 u2)
theorem NOwn.apart8 {B : Nat} {w : World} {v : Value} {n : Nat} {t : Nat → Nd} {L R : Nat} (h : NOwn B w v n t L) (ha : ∀ g, v.ownBlock = some g → g ≠ R) {x2 x3 x4 : Value} (c2 : w.cell? ⟨R, 8, none⟩ = some x2) (c3 : w.cell? ⟨R, 9, none⟩ = some x3) (c4 : w.cell? ⟨R, 10, none⟩ = some x4) (h0 : ¬ IsLimb x2) (h1 : ¬ IsLimb x3) (h2 : ¬ IsLimb x4) (u0 u1 u2 : Value) : NOwn B (((w.setCell ⟨R, 8, none⟩ u0).setCell ⟨R, 9, none⟩ u1).setCell ⟨R, 10, none⟩ u2) v n t L :=
  ((h.apart (a := ⟨R, 8, none⟩) ha u0 (keepL_set c2 h0 u0)).apart (a := ⟨R, 9, none⟩) ha u1 (keepL_set (cell_set_by c3 (by omega)) h1 u1)).apart (a := ⟨R, 10, none⟩) ha u2 (keepL_set (cell_set_by (cell_set_by c4 (by omega)) (by omega)) h2 u2)
theorem NOwn.apart11 {B : Nat} {w : World} {v : Value} {n : Nat} {t : Nat → Nd} {L R : Nat} (h : NOwn B w v n t L) (ha : ∀ g, v.ownBlock = some g → g ≠ R) {x2 x3 x4 : Value} (c2 : w.cell? ⟨R, 11, none⟩ = some x2) (c3 : w.cell? ⟨R, 12, none⟩ = some x3) (c4 : w.cell? ⟨R, 13, none⟩ = some x4) (h0 : ¬ IsLimb x2) (h1 : ¬ IsLimb x3) (h2 : ¬ IsLimb x4) (u0 u1 u2 : Value) : NOwn B (((w.setCell ⟨R, 11, none⟩ u0).setCell ⟨R, 12, none⟩ u1).setCell ⟨R, 13, none⟩ u2) v n t L :=
  ((h.apart (a := ⟨R, 11, none⟩) ha u0 (keepL_set c2 h0 u0)).apart (a := ⟨R, 12, none⟩) ha u1 (keepL_set (cell_set_by c3 (by omega)) h1 u1)).apart (a := ⟨R, 13, none⟩) ha u2 (keepL_set (cell_set_by (cell_set_by c4 (by omega)) (by omega)) h2 u2)
/-- What the append of a node needs, and what it leaves. -/
theorem NOwn.parts {B : Nat} {w : World} {v : Value} {n : Nat} {t : Nat → Nd} {L : Nat} (h : NOwn B w v n t L) : ∃ cs : List Value, cs.length = n * 14 ∧ w.ownsRow B 37 14 v n cs ∧ (∀ g, v.ownBlock = some g → PureB IsLimb w g) ∧ ∀ i, i < n → NodeAt w (fun j => cs.getD (i * 14 + j) undef) (t i) L := by
  obtain ⟨cs, h1, h2, h3⟩ := h
  exact ⟨cs, h1.1, h1, h2, h3⟩
theorem MOwn.parts {B : Nat} {w : World} {v : Value} {k : Nat} {N : Nat → Nat} {T : Nat → Nat → Nd} {L : Nat} (h : MOwn B w v k N T L) : ∃ us : List Value, w.ownsRow B 29 1 v k us ∧ (∀ g, v.ownBlock = some g → PureB IsLimb w g) := by
  obtain ⟨us, h1, h2, _⟩ := h
  exact ⟨us, h1, h2⟩
theorem MOwn.blocks {B : Nat} {w : World} {v : Value} {k : Nat} {N : Nat → Nat} {T : Nat → Nat → Nd} {L : Nat} (h : MOwn B w v k N T L) : ∀ g, v.ownBlock = some g → B ≤ g ∧ g < w.heap.size := by
  obtain ⟨cs, h1, _⟩ := h
  exact World.ownsRow.lt h1
/-- One tree more: the row of trees is told by its cells. -/
theorem MOwn.more1 {B : Nat} {w w' : World} {v v' y : Value} {k : Nat} {N : Nat → Nat} {T : Nat → Nat → Nd} {L : Nat} {us : List Value} (h : MOwn B w v k N T L) (hu : w.ownsRow B 29 1 v k us) (hy : NOwn B w y (N k) (T k) L) (h1 : w'.ownsRow B 29 1 v' (k + 1) (us ++ [y])) (hg : w.grownBy w' v.ownBlock) (hp : ∀ g, v'.ownBlock = some g → PureB IsLimb w' g) (hk : KeepQ IsLimb w w') : MOwn B w' v' (k + 1) N T L := by
  refine h.more hy (fun us2 h2 => ?_) hg hp hk
  have : us2 = us := by
    rcases hu.2 with ⟨rfl, rfl⟩ | ⟨g, c, cur, rfl, _, hgg, _, _, _, ht⟩
    · have a9 : us2 = [] := by simpa using h2.1
      have b9 : us = [] := by simpa using hu.1
      rw [a9, b9]
    · rcases h2.2 with ⟨h3, _⟩ | ⟨g', c', cur', h3, _, hgg', _, _, _, ht'⟩
      · cases h3
      · cases h3
        rw [hgg] at hgg'
        cases hgg'
        rw [← ht, ← ht']
  rw [this]
  exact h1
theorem MOwn.le {B B' : Nat} {w : World} {v : Value} {k : Nat} {N : Nat → Nat} {T : Nat → Nat → Nd} {L : Nat} (h : MOwn B w v k N T L) (hb : B' ≤ B) : MOwn B' w v k N T L := by
  obtain ⟨us, h1, h2, h3⟩ := h
  exact ⟨us, owns_le h1 hb, h2, fun i hi => let ⟨u, a, b⟩ := h3 i hi; ⟨u, a, b.le hb⟩⟩
theorem MOwn.below {B : Nat} {w w' : World} {v : Value} {k : Nat} {N : Nat → Nat} {T : Nat → Nat → Nd} {L : Nat} (h : MOwn B w v k N T L) (hb : Below w.heap.size w w') : MOwn B w' v k N T L := h.later hb

end Go.Proofs.YtbelnhpjhpoacaaDoor

namespace Go.Proofs.YtbelnhpjhpoacaaDoor
open Go.RowKit
set_option linter.unusedVariables false
set_option linter.unusedSimpArgs false

/-- Where a node does not fit; does a tree, does a model fit? -/
def badF (t : Nat → Nd) (i : Nat) : Bool := !(decide (0 ≤ (t i).feat ∧ (t i).feat ≤ 64) && decide (0 ≤ (t i).left ∧ (t i).left ≤ 255) && decide (0 ≤ (t i).right ∧ (t i).right ≤ 255))
def tfit (t : Nat → Nd) (n : Nat) : Bool := decide (1 ≤ n ∧ n ≤ 255) && (fb (badF t) n).isNone
def mfit (F : Int) (k : Nat) (N : Nat → Nat) (T : Nat → Nat → Nd) : Bool := decide (0 ≤ F ∧ F ≤ 64) && decide (k ≤ 64) && (fb (fun i => !tfit (T i) (N i)) k).isNone
theorem tfit_no {t : Nat → Nd} {n i : Nat} (hi : i < n) (h : ∀ j, j < i → badF t j = false) (hp : badF t i = true) : tfit t n = false := by
  unfold tfit
  rw [fb_some hi h hp]
  simp
theorem tfit_yes {t : Nat → Nd} {n : Nat} (hn : 1 ≤ n ∧ n ≤ 255) (h : ∀ j, j < n → badF t j = false) : tfit t n = true := by
  unfold tfit
  rw [fb_none h, decide_eq_true hn]
  rfl
theorem tfit_len {t : Nat → Nd} {n : Nat} (hn : ¬ (1 ≤ n ∧ n ≤ 255)) : tfit t n = false := by
  unfold tfit
  rw [decide_eq_false hn]
  rfl
theorem mfit_no {F : Int} {k : Nat} {N : Nat → Nat} {T : Nat → Nat → Nd} {i : Nat} (hi : i < k) (h : ∀ j, j < i → tfit (T j) (N j) = true) (hp : tfit (T i) (N i) = false) : mfit F k N T = false := by
  unfold mfit
  rw [fb_some (p := fun i => !tfit (T i) (N i)) hi (fun j hj => by simp [h j hj]) (by simp [hp])]
  simp
theorem mfit_yes {F : Int} {k : Nat} {N : Nat → Nat} {T : Nat → Nat → Nd} (hF : 0 ≤ F ∧ F ≤ 64) (hk : k ≤ 64) (h : ∀ j, j < k → tfit (T j) (N j) = true) : mfit F k N T = true := by
  unfold mfit
  rw [fb_none (p := fun i => !tfit (T i) (N i)) (fun j hj => by simp [h j hj]), decide_eq_true hF, decide_eq_true hk]
  rfl
theorem mfit_is {F : Int} {k : Nat} {N : Nat → Nat} {T : Nat → Nat → Nd} (h : mfit F k N T = true) : 0 ≤ F ∧ F ≤ 64 ∧ k ≤ 64 ∧ ∀ i, i < k → 1 ≤ N i ∧ N i ≤ 255 := by
  unfold mfit at h
  simp only [Bool.and_eq_true, decide_eq_true_eq] at h
  refine ⟨h.1.1.1, h.1.1.2, h.1.2, fun i hi => ?_⟩
  have := fb_is (p := fun i => !tfit (T i) (N i)) (n := k) (by cases e : fb (fun i => !tfit (T i) (N i)) k with | none => rfl | some j => rw [e] at h; simp at h) i hi
  simp at this
  unfold tfit at this
  simp only [Bool.and_eq_true, decide_eq_true_eq] at this
  exact this.1


set_option maxRecDepth 100000 in
set_option maxHeartbeats 8000000 in
theorem treeFits_at (v : Value) (n : Nat) (t : Nat → Nd) (L : Nat) (w : World) (hv : TRow w v n t L) :
    Calls Tryd.prog 28 #[v] w fun e w' => e = .returned (.bool (tfit t n)) ∧ Below w.heap.size w w' := by
  obtain ⟨ao, c, rfl, hnc, hc63⟩ := hv.open
  have BB : Below w.heap.size w w := Below.refl _ _
  go_enter Tryd.func28, Tryd.ntmps28
  go_wp2_with fail
  refine (within_at _ _ _ _).mono ?_
  rintro e wx ⟨rfl, hwx⟩
  replace hwx := hwx.symm
  subst hwx
  by_cases hn : 1 ≤ n ∧ n ≤ 255
  · have hni : (1 : Int) ≤ (n : Int) ∧ (n : Int) ≤ 255 := by omega
    rw [decide_eq_true hni]
    go_wp2
    go_loopw [11] (fun vi wr => ∃ i : Nat, i ≤ n ∧ vi = .int .i64 (i : Int) ∧ Hid (∀ j, j < i → badF t j = false) ∧ Below w.heap.size w wr) (fun vi _ => n - (intOf vi).toNat)
    case atStart => exact ⟨0, by omega, rfl, fun j hj => by omega, BB⟩
    case round =>
      clear BB
      obtain ⟨i, hi, rfl, HB, BB⟩ := hrel
      by_cases hlt : i < n
      · have g1 : (i : Int) < (n : Int) := by omega
        have g0 : (0 : Int) ≤ (i : Int) := by omega
        have hv1 := hv.below BB
        obtain ⟨b, off, cc, p1, a1, n1, c1, b1, m1, d1, p2, a2, n2, c2, b2, m2, d2, p3, a3, n3, c3, b3, m3, d3, hvv, hcc, hc6, NN, r1, r2, r3, i1, i2, i3⟩ := hv1.at hlt
        cases hvv
        clear hv1
        obtain ⟨N_0, N_1, N_2, N_3, N_4, N_5, N_6, N_7, N_8, N_9, N_10, N_11, N_12, N_13⟩ := id NN
        obtain ⟨W1, hW1, hS1, hL1, VN, FN⟩ := V14.lay wr 37 (.bool (t i).leaf) (.int .i64 (t i).feat) (.bool p1) (.slice a1 n1 c1) (.slice b1 m1 d1) (.int .i64 (t i).left) (.int .i64 (t i).right) (.bool (t i).miss) (.bool p2) (.slice a2 n2 c2) (.slice b2 m2 d2) (.bool p3) (.slice a3 n3 c3) (.slice b3 m3 d3)
        replace BB := BB.trans (hL1.mono BB.size)
        clear hL1
        obtain ⟨V_0, V_1, V_2, V_3, V_4, V_5, V_6, V_7, V_8, V_9, V_10, V_11, V_12, V_13⟩ := id VN
        rw [hW1] at V_0 V_1 V_2 V_3 V_4 V_5 V_6 V_7 V_8 V_9 V_10 V_11 V_12 V_13
        go_wp2_with fail
        clear V_0 V_1 V_2 V_3 V_4 V_5 V_6 V_7 V_8 V_9 V_10 V_11 V_12 V_13
        clear N_0 N_1 N_2 N_3 N_4 N_5 N_6 N_7 N_8 N_9 N_10 N_11 N_12 N_13
        rw [← hW1]
        generalize wr.heap.size = R1 at *
        clear hW1 hS1
        refine (within_at _ _ _ _).mono ?_
        rintro e wx ⟨rfl, hwx⟩
        replace hwx := hwx.symm
        subst hwx
        have HP : Hid (badF t i = !(decide (0 ≤ (t i).feat ∧ (t i).feat ≤ 64) && decide (0 ≤ (t i).left ∧ (t i).left ≤ 255) && decide (0 ≤ (t i).right ∧ (t i).right ≤ 255))) := rfl
        by_cases h1 : 0 ≤ (t i).feat ∧ (t i).feat ≤ 64
        · rw [decide_eq_true h1]
          obtain ⟨V_0, V_1, V_2, V_3, V_4, V_5, V_6, V_7, V_8, V_9, V_10, V_11, V_12, V_13⟩ := id VN
          go_wp2_with fail
          clear V_0 V_1 V_2 V_3 V_4 V_5 V_6 V_7 V_8 V_9 V_10 V_11 V_12 V_13
          refine (within_at _ _ _ _).mono ?_
          rintro e wx ⟨rfl, hwx⟩
          replace hwx := hwx.symm
          subst hwx
          by_cases h2 : 0 ≤ (t i).left ∧ (t i).left ≤ 255
          · rw [decide_eq_true h2]
            obtain ⟨V_0, V_1, V_2, V_3, V_4, V_5, V_6, V_7, V_8, V_9, V_10, V_11, V_12, V_13⟩ := id VN
            go_wp2_with fail
            clear V_0 V_1 V_2 V_3 V_4 V_5 V_6 V_7 V_8 V_9 V_10 V_11 V_12 V_13
            refine (within_at _ _ _ _).mono ?_
            rintro e wx ⟨rfl, hwx⟩
            replace hwx := hwx.symm
            subst hwx
            by_cases h3 : 0 ≤ (t i).right ∧ (t i).right ≤ 255
            · rw [decide_eq_true h3]
              have HB2 : Hid (∀ j, j < i + 1 → badF t j = false) := fun j hj => by
                by_cases e : j = i
                · subst e; rw [HP.out]; simp [h1, h2, h3]
                · exact HB.out j (by omega)
              clear HB HP
              go_wp2
              go_roundw
              case rel => exact ⟨i + 1, by omega, by go_num, HB2, BB⟩
              case measure => simp [intOf]; omega
            · rw [decide_eq_false h3]
              go_wp2
              go_ret
              exact ⟨ret_bool (a := false) (tfit_no hlt HB.out (by rw [HP.out, decide_eq_false h3]; simp)).symm, BB⟩
          · rw [decide_eq_false h2]
            go_wp2
            go_ret
            exact ⟨ret_bool (a := false) (tfit_no hlt HB.out (by rw [HP.out, decide_eq_false h2]; simp)).symm, BB⟩
        · rw [decide_eq_false h1]
          go_wp2
          go_ret
          exact ⟨ret_bool (a := false) (tfit_no hlt HB.out (by rw [HP.out, decide_eq_false h1]; simp)).symm, BB⟩
      · obtain rfl : i = n := by omega
        have g1 : ¬ (i : Int) < (i : Int) := by omega
        go_wp2
        go_ret
        exact ⟨ret_bool (a := true) (tfit_yes hn HB.out).symm, BB⟩
  · have hni : ¬ ((1 : Int) ≤ (n : Int) ∧ (n : Int) ≤ 255) := by omega
    rw [decide_eq_false hni]
    go_wp2
    go_ret
    exact ⟨ret_bool (a := false) (tfit_len hn).symm, BB⟩


set_option maxRecDepth 100000 in
set_option maxHeartbeats 8000000 in
theorem fits_at (F : Int) (v : Value) (k : Nat) (N : Nat → Nat) (T : Nat → Nat → Nd) (L : Nat) (w : World) (hv : MRow w v k N T L) :
    Calls Tryd.prog 17 #[.agg #[.int .i64 F, v]] w fun e w' => e = .returned (.bool (mfit F k N T)) ∧ Below w.heap.size w w' := by
  obtain ⟨ao, c, rfl, hnc, hc63⟩ := hv.open
  have BB : Below w.heap.size w w := Below.refl _ _
  obtain ⟨Wb0, hW0, hS0, hL0, VM⟩ := V2.lay w 24 (.int .i64 F) (.slice ao k c)
  replace hv := hv.below hL0
  replace BB := BB.trans (hL0.mono BB.size)
  clear hL0
  go_enter Tryd.func17, Tryd.ntmps17
  go_wp2_with fail
  rw [← hW0]
  clear hW0 hS0
  have hv0 := hv
  clear hv
  obtain ⟨VM_0, VM_1, VM_2, VM_3⟩ := id VM
  refine (within_at _ _ _ _).mono ?_
  rintro e wx ⟨rfl, hwx⟩
  replace hwx := hwx.symm
  subst hwx
  by_cases hF : 0 ≤ F ∧ F ≤ 64
  · rw [decide_eq_true hF]
    go_wp2_with fail
    refine (within_at _ _ _ _).mono ?_
    rintro e wx ⟨rfl, hwx⟩
    replace hwx := hwx.symm
    subst hwx
    by_cases hk : k ≤ 64
    · have hki : (0 : Int) ≤ (k : Int) ∧ (k : Int) ≤ 64 := by omega
      rw [decide_eq_true hki]
      go_wp2
      clear VM_0 VM_1 VM_2 VM_3
      go_loopw [19] (fun vi wr => ∃ i : Nat, i ≤ k ∧ vi = .int .i64 (i : Int) ∧ Hid (∀ j, j < i → tfit (T j) (N j) = true) ∧ Below Wb0.heap.size Wb0 wr) (fun vi _ => k - (intOf vi).toNat)
      case atStart => exact ⟨0, by omega, rfl, fun j hj => by omega, Below.refl _ _⟩
      case round =>
        obtain ⟨i, hi, rfl, HB, BL⟩ := hrel
        by_cases hlt : i < k
        · have g1 : (i : Int) < (k : Int) := by omega
          have g0 : (0 : Int) ≤ (i : Int) := by omega
          obtain ⟨b, off, cc, a, d, hvv, hcc, XC, TR⟩ := (hv0.below BL).at hlt
          cases hvv
          go_wp2_with fail
          refine (treeFits_at _ (N i) (T i) L _ TR).mono ?_
          rintro e w1 ⟨rfl, b1⟩
          replace BL := BL.trans (b1.mono BL.size)
          clear b1 XC
          obtain ⟨fi, hfi⟩ : ∃ fi, tfit (T i) (N i) = fi := ⟨_, rfl⟩
          have HFI : Hid (tfit (T i) (N i) = fi) := hfi
          rw [hfi]
          clear hfi
          cases fi
          · go_wp2
            go_ret
            exact ⟨ret_bool (a := false) (mfit_no hlt HB.out HFI.out).symm, BB.trans (BL.mono BB.size)⟩
          · have HB2 : Hid (∀ j, j < i + 1 → tfit (T j) (N j) = true) := fun j hj => by
              by_cases e : j = i
              · subst e; exact HFI.out
              · exact HB.out j (by omega)
            clear HB HFI
            go_wp2
            go_roundw
            case rel => exact ⟨i + 1, by omega, by go_num, HB2, BL⟩
            case measure => simp [intOf]; omega
        · obtain rfl : i = k := by omega
          have g1 : ¬ (i : Int) < (i : Int) := by omega
          go_wp2
          go_ret
          exact ⟨ret_bool (a := true) (mfit_yes hF hk HB.out).symm, BB.trans (BL.mono BB.size)⟩
    · have hki : ¬ ((0 : Int) ≤ (k : Int) ∧ (k : Int) ≤ 64) := by omega
      rw [decide_eq_false hki]
      go_wp2
      go_ret
      exact ⟨ret_bool (a := false) (by unfold mfit; rw [decide_eq_false hk]; simp), BB⟩
  · rw [decide_eq_false hF]
    go_wp2
    go_ret
    exact ⟨ret_bool (a := false) (by unfold mfit; rw [decide_eq_false hF]; simp), BB⟩

/-- The fault at the first place of which p holds. -/
def nfV (p : Nat → Bool) (n : Nat) (e : Int) : Value := fltV ((fb p n).map (fun i => (e, 0, i)))
def rlV (F : Int) (t : Nat → Nd) (n r : Nat) : Value := fltV ((rl F t n r).map (fun x => (x.1, 0, x.2)))
theorem nfV_some {p : Nat → Bool} {n i : Nat} {e : Int} (hi : i < n) (h : ∀ j, j < i → p j = false) (hp : p i = true) : nfV p n e = .agg #[.int .i64 e, .int .i64 0, .int .i64 0, .int .i64 (i : Int)] := by
  unfold nfV
  rw [fb_some hi h hp]
  rfl
theorem nfV_none {p : Nat → Bool} {n : Nat} {e : Int} (h : ∀ j, j < n → p j = false) : nfV p n e = .agg #[.int .i64 0, .int .i64 0, .int .i64 0, .int .i64 0] := by
  unfold nfV
  rw [fb_none h]
  rfl
theorem nfV_congr {p q : Nat → Bool} {n : Nat} {e : Int} (h : ∀ j, j < n → p j = q j) : nfV p n e = nfV q n e := by
  unfold nfV
  rw [fb_congr h]
theorem rlV0 (F : Int) (t : Nat → Nd) (n : Nat) : rlV F t n 0 = nfV (bad0 F t n) n 8 := by
  unfold rlV nfV
  show fltV ((Option.map (fun i => ((8 : Int), i)) (fb (bad0 F t n) n)).map _) = _
  rw [Option.map_map]
  rfl
theorem rlV2 (F : Int) (t : Nat → Nd) (n : Nat) : rlV F t n 2 = nfV (bad3 t) n 12 := by
  unfold rlV nfV
  show fltV ((Option.map (fun i => ((12 : Int), i)) (fb (bad3 t) n)).map _) = _
  rw [Option.map_map]
  rfl
theorem rlV3 (F : Int) (t : Nat → Nd) (n : Nat) : rlV F t n 3 = nfV (bad4 t) n 13 := by
  unfold rlV nfV
  show fltV ((Option.map (fun i => ((13 : Int), i)) (fb (bad4 t) n)).map _) = _
  rw [Option.map_map]
  rfl
theorem rlV1 (F : Int) (t : Nat → Nd) (n : Nat) : rlV F t n 1 = match fb (bad1 t n) n with
    | some _ => nfV (bad1 t n) n 11
    | none => nfV (bad2 t n) n 11 := by
  unfold rlV nfV
  show fltV ((Option.map (fun i => ((11 : Int), i)) ((fb (bad1 t n) n).or (fb (bad2 t n) n))).map _) = _
  rw [Option.map_map]
  cases e : fb (bad1 t n) n with
  | none => rfl
  | some i => rfl
def bad5 (f : Nat) (z : Nat → Int) (i : Nat) : Bool := decide (f ≤ i) && decide (z i ≠ 1)


end Go.Proofs.YtbelnhpjhpoacaaDoor

namespace Go.Proofs.YtbelnhpjhpoacaaDoor
open Go.RowKit
set_option linter.unusedVariables false

/-- A row of ints of the call's own. -/
def IntOwn (B : Nat) (w : World) (v : Value) (zs : List Nat) : Prop := w.ownsRow B 3 1 v zs.length (zs.map (fun x : Nat => Value.int .i64 (x : Int)))
theorem IntOwn.later {B : Nat} {w w' : World} {v : Value} {zs : List Nat} (h : IntOwn B w v zs) (hb : Below w.heap.size w w') : IntOwn B w' v zs := owns_later h hb
theorem IntOwn.open {B : Nat} {w : World} {v : Value} {zs : List Nat} (h : IntOwn B w v zs) (h0 : 0 < zs.length) : ∃ g c, v = .slice (some ⟨g, 0, none⟩) zs.length c ∧ zs.length ≤ c := by
  rcases h.2 with ⟨_, e⟩ | ⟨g, c, _, e, _, _, hc, _⟩
  · omega
  · exact ⟨g, c, e, hc⟩
theorem IntOwn.form {B : Nat} {w : World} {v : Value} {zs : List Nat} (h : IntOwn B w v zs) : ∃ a c, v = .slice a zs.length c ∧ zs.length ≤ c := by
  rcases h.2 with ⟨e, e2⟩ | ⟨g, c, _, e, _, _, hc, _⟩
  · exact ⟨none, 0, by rw [e, e2], by omega⟩
  · exact ⟨_, c, e, hc⟩
theorem IntOwn.cell {B : Nat} {w : World} {g c n : Nat} {zs : List Nat} (h : IntOwn B w (.slice (some ⟨g, 0, none⟩) n c) zs) (hn : n = zs.length) {j x : Nat} (hj : zs[j]? = some x) : w.cell? ⟨g, j, none⟩ = some (.int .i64 (x : Int)) := by
  subst hn
  exact owns_cell h (by rw [List.getElem?_map, hj]; rfl)
/-- All but the last. -/
theorem IntOwn.pop {B : Nat} {w : World} {g c n : Nat} {zs : List Nat} {x : Nat} (h : IntOwn B w (.slice (some ⟨g, 0, none⟩) n c) (zs ++ [x])) : IntOwn B w (.slice (some ⟨g, 0, none⟩) zs.length c) zs := by
  unfold IntOwn at h ⊢
  refine ⟨by simp, ?_⟩
  rcases h.2 with ⟨e, _⟩ | ⟨g', c', cur, e, hB, hg, hc, hm, hs, ht⟩
  · cases e
  · injection e with e1 e2 e3
    injection e1 with e1
    injection e1 with e1
    subst e1 e3
    refine .inr ⟨g, c, cur, rfl, hB, hg, by simp at hc; omega, hm, hs, ?_⟩
    have := congrArg (List.take (zs.length * 1)) ht
    rw [List.take_take, show min (zs.length * 1) ((zs ++ [x]).length * 1) = zs.length * 1 by simp] at this
    rw [this, List.map_append, List.take_append_of_le_length (by simp), List.take_of_length_le (by simp)]
def AsideI (v1 v2 : Value) : Prop := ∀ g, v1.ownBlock = some g → v2.ownBlock ≠ some g
theorem AsideI.symm {v1 v2 : Value} (h : AsideI v1 v2) : AsideI v2 v1 := fun g h1 h2 => h g h2 h1
theorem IntOwn.stay {B : Nat} {w w' : World} {v x : Value} {zs : List Nat} (h : IntOwn B w v zs) (hg : w.grownBy w' x.ownBlock) (ha : AsideI v x) : IntOwn B w' v zs := by
  refine World.ownsRow.kept h hg ?_
  cases hb : v.ownBlock with
  | none => exact .inl rfl
  | some g => exact .inr (fun e => ha g hb e.symm)
theorem IntOwn.both {B : Nat} {w : World} {v : Value} {zs : List Nat} (h : IntOwn B w v zs) (g : Nat) (hg : v.ownBlock = some g) : B ≤ g ∧ g < w.heap.size := World.ownsRow.lt h g hg
theorem asideI_new {B : Nat} {w : World} {v x : Value} {zs : List Nat} {g5 m c : Nat} (h : IntOwn B w v zs) (ha : AsideI v x) (hat : x.ownBlock = some g5 ∨ g5 = w.heap.size) : AsideI v (.slice (some ⟨g5, 0, none⟩) m c) := by
  intro g hg e
  have e' : g5 = g := by injection e
  subst e'
  rcases hat with h1 | h1
  · exact ha g5 hg h1
  · have := (h.both g5 hg).2; omega
theorem IntOwn.nums {B : Nat} {w : World} {v : Value} {zs : List Nat} (h : IntOwn B w v zs) (hl : zs.length ≤ 100000) : Nums .i64 w v zs.length (fun i => (zs.getD i 0 : Int)) := by
  rcases h.2 with ⟨rfl, e⟩ | ⟨g, c, _, rfl, _, _, hc, _⟩
  · rw [e]; exact Nums.nil _ _ _
  · refine ⟨_, _, rfl, hc, by unfold LIM; omega, fun _ => ⟨g, 0, rfl, fun i hi => ?_⟩⟩
    rw [Nat.zero_add]
    refine IntOwn.cell h rfl ?_
    rw [List.getD_eq_getElem?_getD, List.getElem?_eq_getElem hi]
    rfl
/-- The first of a row: the slice that a literal makes. -/
theorem int_first (w : World) (x : Nat) (B : Nat) (hB : B ≤ w.heap.size) : IntOwn B (w.alloc (.cells #[.int .i64 (x : Int)] 3)) (.slice (some ⟨w.heap.size, 0, none⟩) 1 1) [x] := by
  have := owns_new w B 1 3 #[.int .i64 (x : Int)] hB rfl
  exact this

end Go.Proofs.YtbelnhpjhpoacaaDoor

namespace Go.Proofs.YtbelnhpjhpoacaaDoor
open Go.RowKit
set_option linter.unusedVariables false
set_option linter.unusedSimpArgs false

theorem par_le (t : Nat → Nd) (x : Nat) : ∀ n, par t x n ≤ 2 * n
  | 0 => Nat.le_refl _
  | n + 1 => by
    have := par_le t x n
    have h : kc t x n ≤ 2 := by unfold kc; split <;> split <;> omega
    show par t x n + kc t x n ≤ _
    omega
theorem TRow.addr {w : World} {a : Option Addr} {n c : Nat} {t : Nat → Nd} {L : Nat} (h : TRow w (.slice a n c) n t L) (h0 : 0 < n) : ∃ b off, a = some ⟨b, off, none⟩ := by
  obtain ⟨el, ⟨a', c', e, _, _, h4⟩, _⟩ := h
  cases e
  obtain ⟨b, off, rfl, _⟩ := h4 h0
  exact ⟨b, off, rfl⟩
theorem N14.low {w w' : World} {b o : Nat} {x0 x1 x2 x3 x4 x5 x6 x7 x8 x9 x10 x11 x12 x13 : Value} (h : N14 w b o x0 x1 x2 x3 x4 x5 x6 x7 x8 x9 x10 x11 x12 x13) (hb : Below w.heap.size w w') : N14 w' b o x0 x1 x2 x3 x4 x5 x6 x7 x8 x9 x10 x11 x12 x13 := by
  have hl : b < w.heap.size := World.block_lt_of_cell? _ _ h.c0
  obtain ⟨h0, h1, h2, h3, h4, h5, h6, h7, h8, h9, h10, h11, h12, h13⟩ := h
  exact ⟨(hb.cell hl).trans h0, (hb.cell hl).trans h1, (hb.cell hl).trans h2, (hb.cell hl).trans h3, (hb.cell hl).trans h4, (hb.cell hl).trans h5, (hb.cell hl).trans h6, (hb.cell hl).trans h7, (hb.cell hl).trans h8, (hb.cell hl).trans h9, (hb.cell hl).trans h10, (hb.cell hl).trans h11, (hb.cell hl).trans h12, (hb.cell hl).trans h13⟩
theorem int_more {B : Nat} {w : World} {g c x : Nat} {zs : List Nat} (h : w.ownsRow B 3 1 (.slice (some ⟨g, 0, none⟩) (zs.length + 1) c) (zs.length + 1) (zs.map (fun x : Nat => Value.int .i64 (x : Int)) ++ [.int .i64 (x : Int)])) : IntOwn B w (.slice (some ⟨g, 0, none⟩) (zs.length + 1) c) (zs ++ [x]) := by
  unfold IntOwn
  rw [List.map_append, List.length_append]
  exact h
theorem int_more2 {B : Nat} {w : World} {g c x y k : Nat} {zs : List Nat} (hk : zs.length = k) (h : w.ownsRow B 3 1 (.slice (some ⟨g, 0, none⟩) (k + 2) c) (k + 2) (zs.map (fun x : Nat => Value.int .i64 (x : Int)) ++ [.int .i64 (x : Int), .int .i64 (y : Int)])) : IntOwn B w (.slice (some ⟨g, 0, none⟩) (k + 2) c) (zs ++ [x, y]) := by
  unfold IntOwn
  rw [List.map_append, List.length_append, hk]
  exact h
theorem int_len {B : Nat} {w : World} {v : Value} {k : Nat} {zs : List Nat} (hk : zs.length = k) (h : IntOwn B w v zs) : w.ownsRow B 3 1 v k (zs.map (fun x : Nat => Value.int .i64 (x : Int))) := by
  unfold IntOwn at h
  rw [hk] at h
  exact h
def lenV : Value → Nat
  | .slice _ n _ => n
  | _ => 0
theorem zero_off {w : World} {k : IntKind} {g n : Nat} {f : Nat → Int} (h : Cells w k g 0 n f) {i : Nat} (hi : i < n) : w.cell? ⟨g, i, none⟩ = some (.int k (f i)) := by
  have := h i hi
  rwa [Nat.zero_add] at this
theorem zero_soft {w : World} {g n : Nat} (h : Soft w g 0 n) {i : Nat} (hi : i < n) : w.frozen? ⟨g, i, none⟩ = false := by
  have := h i hi
  rwa [Nat.zero_add] at this
theorem zero_set {w : World} {k : IntKind} {g n : Nat} {f : Nat → Int} (h : Cells w k g 0 n f) {j : Nat} (hj : j < n) (v : Int) : Cells (w.setCell ⟨g, j, none⟩ (.int k v)) k g 0 n (put f j v) := by
  have := h.set j hj v
  rwa [Nat.zero_add] at this

set_option maxRecDepth 20000 in
set_option maxHeartbeats 1000000 in
theorem number7_at (p : Bool) (s t : Value) (n m : Nat) (f g : Nat → Int) (w : World) (h : Raw w s n f) (k : Raw w t m g) :
    Calls Tryd.prog 9 #[.agg #[.bool p, s, t]] w fun e w' => FewOut p (min n 4) (min m 4) f g w e w' := by
  have hA : ∀ o o', Below w.heap.size w ((w.alloc o).alloc o') := fun o o' => ((Below.refl _ _).alloc (Nat.le_refl _) _).alloc (by simp) _
  obtain ⟨ao, c, rfl, hnil, hnc, hcm, hu, h4⟩ := h
  obtain ⟨bo, d, rfl, knil, knc, kcm, ku, k4⟩ := k
  unfold maxLen at hcm kcm
  by_cases hlt : 4 < n
  · obtain ⟨b1, off1, rfl, hc⟩ := h4 (by omega)
    have hN : Nums .u64 w (.slice (some ⟨b1, off1, none⟩) 4 c) 4 f := ⟨_, _, rfl, by omega, by unfold LIM; omega, fun _ => ⟨_, _, rfl, hc.mono (by omega)⟩⟩
    have hi : (n : Int) > 4 := by omega
    rw [show min n 4 = 4 by omega]
    by_cases klt : 4 < m
    · obtain ⟨b2, off2, rfl, kc⟩ := k4 (by omega)
      have kN : Nums .u64 w (.slice (some ⟨b2, off2, none⟩) 4 d) 4 g := ⟨_, _, rfl, by omega, by unfold LIM; omega, fun _ => ⟨_, _, rfl, kc.mono (by omega)⟩⟩
      have ki : (m : Int) > 4 := by omega
      rw [show min m 4 = 4 by omega]
      go_enter Tryd.func9, Tryd.ntmps9
      go_wp2
      refine bodyPost_ret (v := .agg #[.bool p, .slice (some ⟨b1, off1, none⟩) 4 c, .slice (some ⟨b2, off2, none⟩) 4 d]) (by simp [results, go_sem]) rfl ?_
      exact ⟨_, _, _, _, rfl, hN.below (hA _ _), fun i hi => hu i (by omega), kN.below (hA _ _), fun i hi => ku i (by omega), hA _ _⟩
    · have kN : Nums .u64 w (.slice bo m d) m g := ⟨_, _, rfl, knc, by unfold LIM; omega, k4⟩
      have ki : ¬ (m : Int) > 4 := by omega
      rw [show min m 4 = m by omega]
      go_enter Tryd.func9, Tryd.ntmps9
      go_wp2
      refine bodyPost_ret (v := .agg #[.bool p, .slice (some ⟨b1, off1, none⟩) 4 c, .slice bo m d]) (by simp [results, go_sem]) rfl ?_
      exact ⟨_, _, _, _, rfl, hN.below (hA _ _), fun i hi => hu i (by omega), kN.below (hA _ _), fun i hi => ku i (by omega), hA _ _⟩
  · have hN : Nums .u64 w (.slice ao n c) n f := ⟨_, _, rfl, hnc, by unfold LIM; omega, h4⟩
    have hi : ¬ (n : Int) > 4 := by omega
    rw [show min n 4 = n by omega]
    by_cases klt : 4 < m
    · obtain ⟨b2, off2, rfl, kc⟩ := k4 (by omega)
      have kN : Nums .u64 w (.slice (some ⟨b2, off2, none⟩) 4 d) 4 g := ⟨_, _, rfl, by omega, by unfold LIM; omega, fun _ => ⟨_, _, rfl, kc.mono (by omega)⟩⟩
      have ki : (m : Int) > 4 := by omega
      rw [show min m 4 = 4 by omega]
      go_enter Tryd.func9, Tryd.ntmps9
      go_wp2
      refine bodyPost_ret (v := .agg #[.bool p, .slice ao n c, .slice (some ⟨b2, off2, none⟩) 4 d]) (by simp [results, go_sem]) rfl ?_
      exact ⟨_, _, _, _, rfl, hN.below (hA _ _), fun i hi => hu i (by omega), kN.below (hA _ _), fun i hi => ku i (by omega), hA _ _⟩
    · have kN : Nums .u64 w (.slice bo m d) m g := ⟨_, _, rfl, knc, by unfold LIM; omega, k4⟩
      have ki : ¬ (m : Int) > 4 := by omega
      rw [show min m 4 = m by omega]
      go_enter Tryd.func9, Tryd.ntmps9
      go_wp2
      refine bodyPost_ret (v := .agg #[.bool p, .slice ao n c, .slice bo m d]) (by simp [results, go_sem]) rfl ?_
      exact ⟨_, _, _, _, rfl, hN.below (hA _ _), fun i hi => hu i (by omega), kN.below (hA _ _), fun i hi => ku i (by omega), hA _ _⟩

set_option maxRecDepth 100000 in
set_option maxHeartbeats 8000000 in
theorem few7_at (F : Int) (v : Value) (k : Nat) (N : Nat → Nat) (T : Nat → Nat → Nd) (w : World) (hv : MRaw w v k N T 4) :
    Calls Tryd.prog 4 #[.agg #[.int .i64 F, v]] w fun e w' => ∃ r, e = .returned (.agg #[.int .i64 F, r]) ∧ MOwn w.heap.size w' r (min k 6) (fun i => min (N i) 15) T 4 ∧ Below w.heap.size w w' := by
  obtain ⟨ao, c, rfl, hnc, hc63⟩ := hv.open
  have BB : Below w.heap.size w w := Below.refl _ _
  obtain ⟨Wb0, hW0, hS0, hL0, VM⟩ := V2.lay w 24 (.int .i64 F) (.slice ao k c)
  replace BB := BB.trans (hL0.mono BB.size)
  clear hL0
  obtain ⟨Wb1, hW1, hS1, hL1, VR⟩ := V2.lay Wb0 24 (.int .i64 0) (.slice none 0 0)
  rw [hS0] at VR hS1
  replace VM := VM.below hL1
  replace BB := BB.trans (hL1.mono BB.size)
  clear hL1
  go_enter Tryd.func4, Tryd.ntmps4
  obtain ⟨W2, hW2, hS2, hL2, VO⟩ := V2.lay Wb1 24 (.int .i64 F) (.slice none 0 0)
  obtain ⟨VM_0, VM_1, VM_2, VM_3⟩ := id VM
  rw [hW1, hW0] at VM_0 VM_1 VM_2 VM_3
  obtain ⟨VO_0, VO_1, VO_2, VO_3⟩ := id VO
  rw [hW2, hW1, hW0] at VO_0 VO_1 VO_2 VO_3
  go_wp2
  clear VM_0 VM_1 VM_2 VM_3 VO_0 VO_1 VO_2 VO_3
  rw [← hW0]
  rw [← hW1]
  rw [← hW2]
  have HS : Hid (Wb1.heap.size = w.heap.size + 1 + 1) := hS1
  have hR3 : w.heap.size + 1 < Wb1.heap.size := by omega
  rw [hS1] at VO
  clear hW0 hW1 hW2 hS0 hS1
  have VM0 := VM
  have VR0 := VR
  have BB0 : Hid (Below w.heap.size w Wb1) := BB
  clear VM VR BB
  go_loopw [4] (fun vi wr => ∃ (i : Nat) (tr : Value), i ≤ min k 6 ∧ vi = .int .i64 (i : Int) ∧ V2 wr (w.heap.size + 1 + 1) (.int .i64 F) tr ∧ MOwn (w.heap.size + 1 + 1 + 1) wr tr i (fun i => min (N i) 15) T 4 ∧ Below Wb1.heap.size Wb1 wr) (fun vi _ => min k 6 - (intOf vi).toNat)
  case atStart => exact ⟨0, _, by omega, rfl, VO, MOwn.nil _ _ _ _ _, hL2⟩
  case round =>
    clear VO hL2
    obtain ⟨i, tr, hi, rfl, VO, MO, BL⟩ := hrel
    obtain ⟨at3, ct3, rfl⟩ := MO.form
    obtain ⟨VM_0, VM_1, VM_2, VM_3⟩ := VM0.below BL
    by_cases hlt : i < min k 6
    · have hik : i < k := by omega
      have h6 : i < 6 := by omega
      have g1 : (i : Int) < (k : Int) := by omega
      have g2 : (i : Int) < 6 := by omega
      have g0 : (0 : Int) ≤ (i : Int) := by omega
      obtain ⟨bT, oT, cT, aT, dT, hvv, hcc, XT0, TR⟩ := hv.at hik
      cases hvv
      go_wp2
      clear VM_0 VM_1 VM_2 VM_3
      obtain ⟨wo, rfl⟩ : ∃ wo, wo = wr := ⟨_, rfl⟩
      have hwo : Wb1.heap.size ≤ wo.heap.size := BL.size
      have HNi : Hid (N i ≤ dT ∧ dT ≤ 9223372036854775807) := by obtain ⟨_, _, e9, l9, m9⟩ := TR.open; cases e9; exact ⟨l9, m9⟩
      have hNd := HNi.out.1
      obtain ⟨ni, hni⟩ : ∃ ni, N i = ni := ⟨_, rfl⟩
      have HNI : Hid (N i = ni) := hni
      rw [hni] at XT0 TR hNd
      clear hni
      go_loopw [5, 6] (fun vt vq wr => ∃ q : Nat, q ≤ min ni 15 ∧ vq = .int .i64 (q : Int) ∧ NOwn wo.heap.size wr vt q (T i) 4 ∧ Below wo.heap.size wo wr) (fun _ vq _ => min ni 15 - (intOf vq).toNat)
      case atStart => exact ⟨0, by omega, rfl, NOwn.nil _ _ _ _, Below.refl _ _⟩
      case round =>
        obtain ⟨q, hq, rfl, TO, BI⟩ := hrel
        have BW := BL.trans (BI.mono BL.size)
        have BB := BB0.out.trans (BW.mono BB0.out.size)
        obtain ⟨VM_0, VM_1, VM_2, VM_3⟩ := VM0.below BW
        have XT : wr.cell? ⟨bT, oT + i, none⟩ = some (.slice aT ni dT) := (BB.cell (World.block_lt_of_cell? _ _ XT0)).trans XT0
        obtain ⟨avt, cvt, rfl⟩ := TO.form
        by_cases hlq : q < min ni 15
        · have hqN : q < ni := by omega
          have e1 : (q : Int) < (ni : Int) := by omega
          have e2 : (q : Int) < 15 := by omega
          have e0 : (0 : Int) ≤ (q : Int) := by omega
          have hq15 : q ≤ 15 := by omega
          obtain ⟨b, off, cc, p1, a1, n1, c1, b1, m1, d1, f1, g1_, p2, a2, n2, c2, b2, m2, d2, f2, g2_, p3, a3, n3, c3, b3, m3, d3, f3, g3_, hvv, hcc2, hc6, NN0, ⟨u1, v1, E1⟩, ⟨u2, v2, E2⟩, ⟨u3, v3, E3_⟩, i1, i2, i3⟩ := TR.at hqN
          cases hvv
          have NN := NN0.low BB
          clear NN0
          have HE1 : Hid ((T i q).cut = mkRat (zof p1 (num f1 (min n1 4))) (num g1_ (min m1 4))) := E1
          have HE2 : Hid ((T i q).val = mkRat (zof p2 (num f2 (min n2 4))) (num g2_ (min m2 4))) := E2
          have HE3 : Hid ((T i q).cov = mkRat (zof p3 (num f3 (min n3 4))) (num g3_ (min m3 4))) := E3_
          clear E1 E2 E3_
          obtain ⟨lf, hlf⟩ : ∃ z, (T i q).leaf = z := ⟨_, rfl⟩
          obtain ⟨ft, hft⟩ : ∃ z, (T i q).feat = z := ⟨_, rfl⟩
          obtain ⟨ll, hll⟩ : ∃ z, (T i q).left = z := ⟨_, rfl⟩
          obtain ⟨rr, hrr⟩ : ∃ z, (T i q).right = z := ⟨_, rfl⟩
          obtain ⟨ms, hms⟩ : ∃ z, (T i q).miss = z := ⟨_, rfl⟩
          rw [hlf, hft, hll, hrr, hms] at NN
          have HI3 : Hid (I64 (T i q).feat ∧ I64 (T i q).left ∧ I64 (T i q).right) := ⟨i1, i2, i3⟩
          have HLE : Hid ((T i q).leaf = lf ∧ (T i q).feat = ft ∧ (T i q).left = ll ∧ (T i q).right = rr ∧ (T i q).miss = ms) := ⟨hlf, hft, hll, hrr, hms⟩
          clear hlf hft hll hrr hms i1 i2 i3
          obtain ⟨N_0, N_1, N_2, N_3, N_4, N_5, N_6, N_7, N_8, N_9, N_10, N_11, N_12, N_13⟩ := id NN
          have hRb : wo.heap.size ≤ wr.heap.size := BI.size
          have HRT : Hid (∀ g, (Value.slice avt q cvt).ownBlock = some g → g ≠ wr.heap.size) := fun g hg => Nat.ne_of_lt (TO.blocks g hg).2
          obtain ⟨W9, hW9, hS9, hL9, VN, FN⟩ := V14.lay wr 37 (.bool lf) (.int .i64 ft) (.bool p1) (.slice a1 n1 c1) (.slice b1 m1 d1) (.int .i64 ll) (.int .i64 rr) (.bool ms) (.bool p2) (.slice a2 n2 c2) (.slice b2 m2 d2) (.bool p3) (.slice a3 n3 c3) (.slice b3 m3 d3)
          replace TO := TO.later hL9
          replace BB := BB.trans (hL9.mono BB.size)
          replace BI := BI.trans (hL9.mono BI.size)
          obtain ⟨V_0, V_1, V_2, V_3, V_4, V_5, V_6, V_7, V_8, V_9, V_10, V_11, V_12, V_13⟩ := id VN
          rw [hW9] at V_0 V_1 V_2 V_3 V_4 V_5 V_6 V_7 V_8 V_9 V_10 V_11 V_12 V_13
          go_wp2_with fail
          clear V_0 V_1 V_2 V_3 V_4 V_5 V_6 V_7 V_8 V_9 V_10 V_11 V_12 V_13 N_0 N_1 N_2 N_3 N_4 N_5 N_6 N_7 N_8 N_9 N_10 N_11 N_12 N_13 VM_0 VM_1 VM_2 VM_3 XT
          rw [← hW9]
          have hRw : w.heap.size ≤ wr.heap.size := by have := BB0.out.size; omega
          generalize wr.heap.size = R at *
          clear hW9 hS9 hL9 NN
          refine (number7_at _ _ _ _ _ _ _ _ (u1.below BB) (v1.below BB)).mono ?_
          rintro e wn1 ⟨ao1, co1, bo1, do1, rfl, hu1, uf1, hv1, vf1, bn1⟩
          have X1 : RatAt wn1 (.agg #[.bool p1, .slice ao1 (min n1 4) co1, .slice bo1 (min m1 4) do1]) (T i q).cut 4 := by rw [HE1.out]; exact RatAt.raw hu1 uf1 hv1 vf1 (Nat.min_le_right _ _) (Nat.min_le_right _ _)
          clear hu1 uf1 hv1 vf1 HE1
          replace FN := soft_below FN VN.lt bn1
          replace VN := VN.below bn1
          replace TO := TO.later bn1
          replace BB := BB.trans (bn1.mono BB.size)
          replace BI := BI.trans (bn1.mono BI.size)
          generalize min n1 4 = k1 at *
          generalize min m1 4 = l1 at *
          clear bn1
          have KK := VN.keep2 (limb_bool _) (limb_slice _ _ _) (limb_slice _ _ _) (.bool p1) (.slice ao1 k1 co1) (.slice bo1 l1 do1)
          have FN_n : ∀ j, ((((wn1).setCell ⟨R, 2, none⟩ (.bool p1)).setCell ⟨R, 3, none⟩ (.slice ao1 k1 co1)).setCell ⟨R, 4, none⟩ (.slice bo1 l1 do1)).frozen? ⟨R, j, none⟩ = false := soft_set (soft_set (soft_set FN _ _) _ _) _ _
          have VN_n := VN.set2 (.bool p1) (.slice ao1 k1 co1) (.slice bo1 l1 do1)
          have X1_n := X1.keepL KK
          have BB_n : Below w.heap.size w ((((wn1).setCell ⟨R, 2, none⟩ (.bool p1)).setCell ⟨R, 3, none⟩ (.slice ao1 k1 co1)).setCell ⟨R, 4, none⟩ (.slice bo1 l1 do1)) := ((BB.setCell hRw _).setCell hRw _).setCell hRw _
          have BI_n : Below wo.heap.size wo ((((wn1).setCell ⟨R, 2, none⟩ (.bool p1)).setCell ⟨R, 3, none⟩ (.slice ao1 k1 co1)).setCell ⟨R, 4, none⟩ (.slice bo1 l1 do1)) := ((BI.setCell hRb _).setCell hRb _).setCell hRb _
          have TO_n := TO.apart2 HRT.out VN.c2 VN.c3 VN.c4 (limb_bool _) (limb_slice _ _ _) (limb_slice _ _ _) (.bool p1) (.slice ao1 k1 co1) (.slice bo1 l1 do1)
          obtain ⟨V_0, V_1, V_2, V_3, V_4, V_5, V_6, V_7, V_8, V_9, V_10, V_11, V_12, V_13⟩ := id VN
          have f0_ := FN 2
          have f1_ := FN 3
          have f2_ := FN 4
          clear FN
          obtain ⟨Z_0, Z_1, Z_2, Z_3, Z_4, Z_5, Z_6, Z_7, Z_8, Z_9, Z_10, Z_11, Z_12, Z_13⟩ := id VN_n
          go_wp2_with fail
          clear KK f0_ f1_ f2_ VN TO BB BI X1 V_0 V_1 V_2 V_3 V_4 V_5 V_6 V_7 V_8 V_9 V_10 V_11 V_12 V_13 Z_0 Z_1 Z_2 Z_3 Z_4 Z_5 Z_6 Z_7 Z_8 Z_9 Z_10 Z_11 Z_12 Z_13
          generalize (((wn1).setCell ⟨R, 2, none⟩ (.bool p1)).setCell ⟨R, 3, none⟩ (.slice ao1 k1 co1)).setCell ⟨R, 4, none⟩ (.slice bo1 l1 do1) = ws1 at *
          have FN := FN_n
          have VN := VN_n
          have BB := BB_n
          have BI := BI_n
          have TO := TO_n
          have X1 := X1_n
          clear FN_n VN_n BB_n BI_n TO_n X1_n
          refine (number7_at _ _ _ _ _ _ _ _ (u2.below BB) (v2.below BB)).mono ?_
          rintro e wn2 ⟨ao2, co2, bo2, do2, rfl, hu2, uf2, hv2, vf2, bn2⟩
          have X2 : RatAt wn2 (.agg #[.bool p2, .slice ao2 (min n2 4) co2, .slice bo2 (min m2 4) do2]) (T i q).val 4 := by rw [HE2.out]; exact RatAt.raw hu2 uf2 hv2 vf2 (Nat.min_le_right _ _) (Nat.min_le_right _ _)
          clear hu2 uf2 hv2 vf2 HE2
          replace FN := soft_below FN VN.lt bn2
          replace VN := VN.below bn2
          replace TO := TO.later bn2
          replace BB := BB.trans (bn2.mono BB.size)
          replace BI := BI.trans (bn2.mono BI.size)
          generalize min n2 4 = k2 at *
          generalize min m2 4 = l2 at *
          replace X1 := X1.below bn2
          clear bn2
          have KK := VN.keep8 (limb_bool _) (limb_slice _ _ _) (limb_slice _ _ _) (.bool p2) (.slice ao2 k2 co2) (.slice bo2 l2 do2)
          have FN_n : ∀ j, ((((wn2).setCell ⟨R, 8, none⟩ (.bool p2)).setCell ⟨R, 9, none⟩ (.slice ao2 k2 co2)).setCell ⟨R, 10, none⟩ (.slice bo2 l2 do2)).frozen? ⟨R, j, none⟩ = false := soft_set (soft_set (soft_set FN _ _) _ _) _ _
          have VN_n := VN.set8 (.bool p2) (.slice ao2 k2 co2) (.slice bo2 l2 do2)
          have X1_n := X1.keepL KK
          have X2_n := X2.keepL KK
          have BB_n : Below w.heap.size w ((((wn2).setCell ⟨R, 8, none⟩ (.bool p2)).setCell ⟨R, 9, none⟩ (.slice ao2 k2 co2)).setCell ⟨R, 10, none⟩ (.slice bo2 l2 do2)) := ((BB.setCell hRw _).setCell hRw _).setCell hRw _
          have BI_n : Below wo.heap.size wo ((((wn2).setCell ⟨R, 8, none⟩ (.bool p2)).setCell ⟨R, 9, none⟩ (.slice ao2 k2 co2)).setCell ⟨R, 10, none⟩ (.slice bo2 l2 do2)) := ((BI.setCell hRb _).setCell hRb _).setCell hRb _
          have TO_n := TO.apart8 HRT.out VN.c8 VN.c9 VN.c10 (limb_bool _) (limb_slice _ _ _) (limb_slice _ _ _) (.bool p2) (.slice ao2 k2 co2) (.slice bo2 l2 do2)
          obtain ⟨V_0, V_1, V_2, V_3, V_4, V_5, V_6, V_7, V_8, V_9, V_10, V_11, V_12, V_13⟩ := id VN
          have f0_ := FN 8
          have f1_ := FN 9
          have f2_ := FN 10
          clear FN
          obtain ⟨Z_0, Z_1, Z_2, Z_3, Z_4, Z_5, Z_6, Z_7, Z_8, Z_9, Z_10, Z_11, Z_12, Z_13⟩ := id VN_n
          go_wp2_with fail
          clear KK f0_ f1_ f2_ VN TO BB BI X1 X2 V_0 V_1 V_2 V_3 V_4 V_5 V_6 V_7 V_8 V_9 V_10 V_11 V_12 V_13 Z_0 Z_1 Z_2 Z_3 Z_4 Z_5 Z_6 Z_7 Z_8 Z_9 Z_10 Z_11 Z_12 Z_13
          generalize (((wn2).setCell ⟨R, 8, none⟩ (.bool p2)).setCell ⟨R, 9, none⟩ (.slice ao2 k2 co2)).setCell ⟨R, 10, none⟩ (.slice bo2 l2 do2) = ws2 at *
          have FN := FN_n
          have VN := VN_n
          have BB := BB_n
          have BI := BI_n
          have TO := TO_n
          have X1 := X1_n
          have X2 := X2_n
          clear FN_n VN_n BB_n BI_n TO_n X1_n X2_n
          refine (number7_at _ _ _ _ _ _ _ _ (u3.below BB) (v3.below BB)).mono ?_
          rintro e wn3 ⟨ao3, co3, bo3, do3, rfl, hu3, uf3, hv3, vf3, bn3⟩
          have X3 : RatAt wn3 (.agg #[.bool p3, .slice ao3 (min n3 4) co3, .slice bo3 (min m3 4) do3]) (T i q).cov 4 := by rw [HE3.out]; exact RatAt.raw hu3 uf3 hv3 vf3 (Nat.min_le_right _ _) (Nat.min_le_right _ _)
          clear hu3 uf3 hv3 vf3 HE3
          replace FN := soft_below FN VN.lt bn3
          replace VN := VN.below bn3
          replace TO := TO.later bn3
          replace BB := BB.trans (bn3.mono BB.size)
          replace BI := BI.trans (bn3.mono BI.size)
          generalize min n3 4 = k3 at *
          generalize min m3 4 = l3 at *
          replace X1 := X1.below bn3
          replace X2 := X2.below bn3
          clear bn3
          have KK := VN.keep11 (limb_bool _) (limb_slice _ _ _) (limb_slice _ _ _) (.bool p3) (.slice ao3 k3 co3) (.slice bo3 l3 do3)
          have FN_n : ∀ j, ((((wn3).setCell ⟨R, 11, none⟩ (.bool p3)).setCell ⟨R, 12, none⟩ (.slice ao3 k3 co3)).setCell ⟨R, 13, none⟩ (.slice bo3 l3 do3)).frozen? ⟨R, j, none⟩ = false := soft_set (soft_set (soft_set FN _ _) _ _) _ _
          have VN_n := VN.set11 (.bool p3) (.slice ao3 k3 co3) (.slice bo3 l3 do3)
          have X1_n := X1.keepL KK
          have X2_n := X2.keepL KK
          have X3_n := X3.keepL KK
          have BB_n : Below w.heap.size w ((((wn3).setCell ⟨R, 11, none⟩ (.bool p3)).setCell ⟨R, 12, none⟩ (.slice ao3 k3 co3)).setCell ⟨R, 13, none⟩ (.slice bo3 l3 do3)) := ((BB.setCell hRw _).setCell hRw _).setCell hRw _
          have BI_n : Below wo.heap.size wo ((((wn3).setCell ⟨R, 11, none⟩ (.bool p3)).setCell ⟨R, 12, none⟩ (.slice ao3 k3 co3)).setCell ⟨R, 13, none⟩ (.slice bo3 l3 do3)) := ((BI.setCell hRb _).setCell hRb _).setCell hRb _
          have TO_n := TO.apart11 HRT.out VN.c11 VN.c12 VN.c13 (limb_bool _) (limb_slice _ _ _) (limb_slice _ _ _) (.bool p3) (.slice ao3 k3 co3) (.slice bo3 l3 do3)
          obtain ⟨V_0, V_1, V_2, V_3, V_4, V_5, V_6, V_7, V_8, V_9, V_10, V_11, V_12, V_13⟩ := id VN
          have f0_ := FN 11
          have f1_ := FN 12
          have f2_ := FN 13
          clear FN
          obtain ⟨Z_0, Z_1, Z_2, Z_3, Z_4, Z_5, Z_6, Z_7, Z_8, Z_9, Z_10, Z_11, Z_12, Z_13⟩ := id VN_n
          have hA : Below ((((wn3).setCell ⟨R, 11, none⟩ (.bool p3)).setCell ⟨R, 12, none⟩ (.slice ao3 k3 co3)).setCell ⟨R, 13, none⟩ (.slice bo3 l3 do3)).heap.size ((((wn3).setCell ⟨R, 11, none⟩ (.bool p3)).setCell ⟨R, 12, none⟩ (.slice ao3 k3 co3)).setCell ⟨R, 13, none⟩ (.slice bo3 l3 do3)) (((((wn3).setCell ⟨R, 11, none⟩ (.bool p3)).setCell ⟨R, 12, none⟩ (.slice ao3 k3 co3)).setCell ⟨R, 13, none⟩ (.slice bo3 l3 do3)).alloc (.cells #[.bool lf, .int .i64 ft, .bool p1, .slice ao1 k1 co1, .slice bo1 l1 do1, .int .i64 ll, .int .i64 rr, .bool ms, .bool p2, .slice ao2 k2 co2, .slice bo2 l2 do2, .bool p3, .slice ao3 k3 co3, .slice bo3 l3 do3] 37)) := (Below.refl _ _).alloc (Nat.le_refl _) _
          have TO2 := TO_n.later hA
          have BI2 := BI_n.trans (hA.mono BI_n.size)
          have Y1 := X1_n.below hA
          have Y2 := X2_n.below hA
          have Y3 := X3_n.below hA
          obtain ⟨cs, hcl, hco, hcp, hcn⟩ := TO2.parts
          have hsz2 := BI2.size
          have hbk := TO2.blocks
          have HND : Hid (NodeAt (((((wn3).setCell ⟨R, 11, none⟩ (.bool p3)).setCell ⟨R, 12, none⟩ (.slice ao3 k3 co3)).setCell ⟨R, 13, none⟩ (.slice bo3 l3 do3)).alloc (.cells #[.bool lf, .int .i64 ft, .bool p1, .slice ao1 k1 co1, .slice bo1 l1 do1, .int .i64 ll, .int .i64 rr, .bool ms, .bool p2, .slice ao2 k2 co2, .slice bo2 l2 do2, .bool p3, .slice ao3 k3 co3, .slice bo3 l3 do3] 37)) (fun j => [.bool lf, .int .i64 ft, .bool p1, .slice ao1 k1 co1, .slice bo1 l1 do1, .int .i64 ll, .int .i64 rr, .bool ms, .bool p2, .slice ao2 k2 co2, .slice bo2 l2 do2, .bool p3, .slice ao3 k3 co3, .slice bo3 l3 do3].getD j undef) (T i q) 4) := by
            obtain ⟨z1, z2, z3, z4, z5⟩ := HLE.out
            obtain ⟨y1, y2, y3⟩ := HI3.out
            exact ⟨by rw [z1]; rfl, by rw [z2]; rfl, ⟨_, _, _, _, _, _, _, rfl, rfl, rfl, Y1⟩, by rw [z3]; rfl, by rw [z4]; rfl, by rw [z5]; rfl, ⟨_, _, _, _, _, _, _, rfl, rfl, rfl, Y2⟩, ⟨_, _, _, _, _, _, _, rfl, rfl, rfl, Y3⟩, y1, y2, y3⟩
          have HCN : Hid (∀ j, j < q → NodeAt (((((wn3).setCell ⟨R, 11, none⟩ (.bool p3)).setCell ⟨R, 12, none⟩ (.slice ao3 k3 co3)).setCell ⟨R, 13, none⟩ (.slice bo3 l3 do3)).alloc (.cells #[.bool lf, .int .i64 ft, .bool p1, .slice ao1 k1 co1, .slice bo1 l1 do1, .int .i64 ll, .int .i64 rr, .bool ms, .bool p2, .slice ao2 k2 co2, .slice bo2 l2 do2, .bool p3, .slice ao3 k3 co3, .slice bo3 l3 do3] 37)) (fun x => cs.getD (j * 14 + x) undef) (T i j) 4) := hcn
          have HCL : Hid (cs.length = q * 14) := hcl
          have hws : ((((wn3).setCell ⟨R, 11, none⟩ (.bool p3)).setCell ⟨R, 12, none⟩ (.slice ao3 k3 co3)).setCell ⟨R, 13, none⟩ (.slice bo3 l3 do3)).heap.size = wn3.heap.size := by simp
          have hnb := news_block (heap_alloc_new ((((wn3).setCell ⟨R, 11, none⟩ (.bool p3)).setCell ⟨R, 12, none⟩ (.slice ao3 k3 co3)).setCell ⟨R, 13, none⟩ (.slice bo3 l3 do3)) (.cells #[.bool lf, .int .i64 ft, .bool p1, .slice ao1 k1 co1, .slice bo1 l1 do1, .int .i64 ll, .int .i64 rr, .bool ms, .bool p2, .slice ao2 k2 co2, .slice bo2 l2 do2, .bool p3, .slice ao3 k3 co3, .slice bo3 l3 do3] 37))
          rw [hws] at hnb
          clear hws
          clear hcn hcl TO2 Y1 Y2 Y3 TO_n TO BB BI X1 X2 X3 X1_n X2_n X3_n HLE HI3 KK VN
          go_wp2_with (first
            | (at_builtin
               refine wpList_append_pure (Q' := IsLimb) rfl _ _ _ rfl wo.heap.size 37 (.agg #[.bool false, .int .i64 0, .bool false, .slice none 0 0, .slice none 0 0, .int .i64 0, .int .i64 0, .bool false, .bool false, .slice none 0 0, .slice none 0 0, .bool false, .slice none 0 0, .slice none 0 0]) 14 208 Tryd.underlying29 info_node rfl (by omega) (.slice avt q cvt) rfl q cs hco hcp ⟨wn3.heap.size, 0, none⟩ 1 rfl [.bool lf, .int .i64 ft, .bool p1, .slice ao1 k1 co1, .slice bo1 l1 do1, .int .i64 ll, .int .i64 rr, .bool ms, .bool p2, .slice ao2 k2 co2, .slice bo2 l2 do2, .bool p3, .slice ao3 k3 co3, .slice bo3 l3 do3] rfl ?g14 ?g15 ?g16 ?g17 (by omega) (by omega) hsz2 ?_
               case g14 => exact hnb
               case g15 => simp [Value.oneCell']
               case g16 => simp [limb_bool, limb_slice, limb_int]
               case g17 => simp [Value.cells, limb_bool, limb_slice, limb_int]
               intro gN cN w5 ho5 hg5 _ hp5 hk5
               have NO5 : NOwn wo.heap.size w5 (.slice (some ⟨gN, 0, none⟩) (q + 1) cN) (q + 1) (T i) 4 := NOwn.more (v := .slice none 0 0) ho5 HCL.out (fun g hg => by cases hg; exact hp5) hk5 HCN.out HND.out
               have BI5 : Below wo.heap.size wo w5 := below_grownB BI2 hg5 hsz2 (fun g hg => (hbk g hg).1)
               clear ho5 hg5 hp5 hk5 hco hcp BI2 hbk hA HCN HND HCL))
          go_roundw
          case rel => exact ⟨q + 1, by omega, by go_num, NO5, BI5⟩
          case measure => simp [intOf]; omega
        · have hqe : q = min ni 15 := by omega
          have HQ : Hid (q = min (N i) 15) := by rw [HNI.out]; exact hqe
          have MO2 : MOwn (w.heap.size + 1 + 1 + 1) wr (.slice at3 i ct3) i (fun i => min (N i) 15) T 4 := MO.later BI
          have TO2 : NOwn (w.heap.size + 1 + 1 + 1) wr (.slice avt q cvt) q (T i) 4 := TO.le (by have := VO.lt; omega)
          have VO2 := VO.below BI
          clear BI TO MO VO BB
          have HSZ : Hid (Wb1.heap.size = w.heap.size + 1 + 1) := HS
          have hsz1 : w.heap.size + 1 + 1 + 1 ≤ wr.heap.size := by have := BW.size; have := VO2.lt; omega
          have hA : Below wr.heap.size wr (wr.alloc (.cells #[.slice avt q cvt] 29)) := (Below.refl _ _).alloc (Nat.le_refl _) _
          replace MO2 := MO2.later hA
          replace TO2 := TO2.later hA
          have VO3 := VO2.below hA
          have BW2 := BW.trans (hA.mono BW.size)
          obtain ⟨us, huo, hup⟩ := MO2.parts
          have hbk := MO2.blocks
          have hsz2 : w.heap.size + 1 + 1 + 1 ≤ (wr.alloc (.cells #[.slice avt q cvt] 29)).heap.size := Nat.le_trans hsz1 hA.size
          obtain ⟨VO_0, VO_1, VO_2, VO_3⟩ := id VO2
          have hqm : ¬ ((q : Int) < (ni : Int) ∧ (q : Int) < 15) := by omega
          have hbl : w.heap.size + 1 + 1 < wr.heap.size := by omega
          clear hqe hq hlq
          by_cases hqn : q < ni
          · have c1 : (q : Int) < (ni : Int) := by omega
            have c2 : ¬ (q : Int) < 15 := by omega
            go_wp2_with (first
              | (at_builtin
                 refine wpList_append_pure (Q' := IsLimb) rfl _ _ _ rfl (w.heap.size + 1 + 1 + 1) 29 (.slice none 0 0) 1 24 Tryd.underlying22 info_tree rfl (by omega) (.slice at3 i ct3) rfl i us huo hup ⟨wr.heap.size, 0, none⟩ 1 rfl [.slice avt q cvt] rfl ?g14 ?g15 ?g16 ?g17 (by omega) (by omega) hsz2 ?_
                 case g14 => exact news_block (heap_alloc_new _ _)
                 case g15 => simp [Value.oneCell']
                 case g16 => simp [limb_slice]
                 case g17 => simp [Value.cells, limb_slice]
                 intro gN cN w5 ho5 hg5 _ hp5 hk5
                 have MO5 : MOwn (w.heap.size + 1 + 1 + 1) w5 (.slice (some ⟨gN, 0, none⟩) (i + 1) cN) (i + 1) (fun i => min (N i) 15) T 4 := MO2.more1 huo (by rw [← HQ.out]; exact TO2) ho5 hg5 (fun g hg => by cases hg; exact hp5) hk5
                 have hlow : Below (w.heap.size + 1 + 1 + 1) (wr.alloc (.cells #[.slice avt q cvt] 29)) w5 := below_grownB (Below.refl _ _) hg5 hsz2 (fun g hg => (hbk g hg).1)
                 have VO5 : V2 w5 (w.heap.size + 1 + 1) (.int .i64 F) (.slice at3 i ct3) := ⟨(hlow.cell (p := ⟨_, 0, none⟩) (by show w.heap.size + 1 + 1 < _; omega)).trans VO3.1, (hlow.cell (p := ⟨_, 1, none⟩) (by show w.heap.size + 1 + 1 < _; omega)).trans VO3.2.1, (hlow.frozen (p := ⟨_, 0, none⟩) (by show w.heap.size + 1 + 1 < _; omega)).trans VO3.2.2.1, (hlow.frozen (p := ⟨_, 1, none⟩) (by show w.heap.size + 1 + 1 < _; omega)).trans VO3.2.2.2⟩
                 have BW5 : Below Wb1.heap.size Wb1 w5 := BW2.trans (hlow.mono (by have := HSZ.out; omega))
                 obtain ⟨U_0, U_1, U_2, U_3⟩ := id VO5
                 have K5 : KeepQ IsLimb w5 (w5.setCell ⟨w.heap.size + 1 + 1, 1, none⟩ (.slice (some ⟨gN, 0, none⟩) (i + 1) cN)) := keepL_set U_1 (limb_slice _ _ _) _
                 have MO6 := MO5.set (a := ⟨w.heap.size + 1 + 1, 1, none⟩) (by show w.heap.size + 1 + 1 < _; omega) _ K5
                 have VO6 : V2 (w5.setCell ⟨w.heap.size + 1 + 1, 1, none⟩ (.slice (some ⟨gN, 0, none⟩) (i + 1) cN)) (w.heap.size + 1 + 1) (.int .i64 F) (.slice (some ⟨gN, 0, none⟩) (i + 1) cN) := ⟨cell_set_by U_0 (by omega), cell_set_at U_1, by simp [U_2], by simp [U_3]⟩
                 have BW6 := BW5.setCell (p := ⟨w.heap.size + 1 + 1, 1, none⟩) (by show Wb1.heap.size ≤ w.heap.size + 1 + 1; have := HSZ.out; omega) (.slice (some ⟨gN, 0, none⟩) (i + 1) cN)
                 clear ho5 hg5 hp5 hk5 huo hup hbk hlow hA MO5 MO2 TO2 K5 VO5 VO3 BW5 BW2))
            go_roundw
            case rel => exact ⟨i + 1, _, by omega, by go_num, VO6, MO6, BW6⟩
            case measure => simp [intOf]; omega
          · have c1 : ¬ (q : Int) < (ni : Int) := by omega
            have c1b : decide ((q : Int) < (ni : Int)) = false := decide_eq_false c1
            go_wp2_with (first
              | (at_builtin
                 refine wpList_append_pure (Q' := IsLimb) rfl _ _ _ rfl (w.heap.size + 1 + 1 + 1) 29 (.slice none 0 0) 1 24 Tryd.underlying22 info_tree rfl (by omega) (.slice at3 i ct3) rfl i us huo hup ⟨wr.heap.size, 0, none⟩ 1 rfl [.slice avt q cvt] rfl ?g14 ?g15 ?g16 ?g17 (by omega) (by omega) hsz2 ?_
                 case g14 => exact news_block (heap_alloc_new _ _)
                 case g15 => simp [Value.oneCell']
                 case g16 => simp [limb_slice]
                 case g17 => simp [Value.cells, limb_slice]
                 intro gN cN w5 ho5 hg5 _ hp5 hk5
                 have MO5 : MOwn (w.heap.size + 1 + 1 + 1) w5 (.slice (some ⟨gN, 0, none⟩) (i + 1) cN) (i + 1) (fun i => min (N i) 15) T 4 := MO2.more1 huo (by rw [← HQ.out]; exact TO2) ho5 hg5 (fun g hg => by cases hg; exact hp5) hk5
                 have hlow : Below (w.heap.size + 1 + 1 + 1) (wr.alloc (.cells #[.slice avt q cvt] 29)) w5 := below_grownB (Below.refl _ _) hg5 hsz2 (fun g hg => (hbk g hg).1)
                 have VO5 : V2 w5 (w.heap.size + 1 + 1) (.int .i64 F) (.slice at3 i ct3) := ⟨(hlow.cell (p := ⟨_, 0, none⟩) (by show w.heap.size + 1 + 1 < _; omega)).trans VO3.1, (hlow.cell (p := ⟨_, 1, none⟩) (by show w.heap.size + 1 + 1 < _; omega)).trans VO3.2.1, (hlow.frozen (p := ⟨_, 0, none⟩) (by show w.heap.size + 1 + 1 < _; omega)).trans VO3.2.2.1, (hlow.frozen (p := ⟨_, 1, none⟩) (by show w.heap.size + 1 + 1 < _; omega)).trans VO3.2.2.2⟩
                 have BW5 : Below Wb1.heap.size Wb1 w5 := BW2.trans (hlow.mono (by have := HSZ.out; omega))
                 obtain ⟨U_0, U_1, U_2, U_3⟩ := id VO5
                 have K5 : KeepQ IsLimb w5 (w5.setCell ⟨w.heap.size + 1 + 1, 1, none⟩ (.slice (some ⟨gN, 0, none⟩) (i + 1) cN)) := keepL_set U_1 (limb_slice _ _ _) _
                 have MO6 := MO5.set (a := ⟨w.heap.size + 1 + 1, 1, none⟩) (by show w.heap.size + 1 + 1 < _; omega) _ K5
                 have VO6 : V2 (w5.setCell ⟨w.heap.size + 1 + 1, 1, none⟩ (.slice (some ⟨gN, 0, none⟩) (i + 1) cN)) (w.heap.size + 1 + 1) (.int .i64 F) (.slice (some ⟨gN, 0, none⟩) (i + 1) cN) := ⟨cell_set_by U_0 (by omega), cell_set_at U_1, by simp [U_2], by simp [U_3]⟩
                 have BW6 := BW5.setCell (p := ⟨w.heap.size + 1 + 1, 1, none⟩) (by show Wb1.heap.size ≤ w.heap.size + 1 + 1; have := HSZ.out; omega) (.slice (some ⟨gN, 0, none⟩) (i + 1) cN)
                 clear ho5 hg5 hp5 hk5 huo hup hbk hlow hA MO5 MO2 TO2 K5 VO5 VO3 BW5 BW2))
            go_roundw
            case rel => exact ⟨i + 1, _, by omega, by go_num, VO6, MO6, BW6⟩
            case measure => simp [intOf]; omega
    · have hik : i = min k 6 := by omega
      have VR := VR0.below BL
      have BB := BB0.out.trans (BL.mono BB0.out.size)
      obtain ⟨VO_0, VO_1, VO_2, VO_3⟩ := id VO
      obtain ⟨q1, q2, q3, q4⟩ := id VR
      have HIK : Hid (i = min k 6) := hik
      clear hik
      have K1 : KeepQ IsLimb wr (wr.setCell ⟨w.heap.size + 1, 0, none⟩ (.int .i64 F)) := keepL_set q1 (limb_int 0) _
      have K2 := keepL_set (cell_set_by (u := .int .i64 F) (j := 0) q2 (by omega)) (limb_slice _ _ _) (.slice at3 i ct3)
      have MO2 := (MO.set (a := ⟨w.heap.size + 1, 0, none⟩) (by show w.heap.size + 1 < _; omega) _ K1).set (a := ⟨w.heap.size + 1, 1, none⟩) (by show w.heap.size + 1 < _; omega) _ K2
      have HMR : Hid (MOwn w.heap.size _ (.slice at3 i ct3) i (fun i => min (N i) 15) T 4) := MO2.le (by omega)
      have BB2 := (BB.setCell (p := ⟨w.heap.size + 1, 0, none⟩) (by show w.heap.size ≤ w.heap.size + 1; omega) (.int .i64 F)).setCell (p := ⟨w.heap.size + 1, 1, none⟩) (by show w.heap.size ≤ w.heap.size + 1; omega) (.slice at3 i ct3)
      clear MO2 K1 K2 MO
      by_cases hk6 : i < k
      · have g1 : (i : Int) < (k : Int) := by omega
        have g2 : ¬ (i : Int) < 6 := by have := HIK.out; omega
        go_wp2
        (try simp only [Exit.inBlock, Exit.then])
        refine bodyPost_ret (v := .agg #[.int .i64 F, .slice at3 i ct3]) (by simp [results, go_sem, q1, q2]) rfl ?_
        have h9 := HMR.out
        have h8 := HIK.out
        exact ⟨_, rfl, by rw [← h8]; exact h9, BB2⟩
      · have g1 : ¬ (i : Int) < (k : Int) := by omega
        have g1b : decide ((i : Int) < (k : Int)) = false := decide_eq_false g1
        go_wp2
        (try simp only [Exit.inBlock, Exit.then])
        refine bodyPost_ret (v := .agg #[.int .i64 F, .slice at3 i ct3]) (by simp [results, go_sem, q1, q2]) rfl ?_
        have h9 := HMR.out
        have h8 := HIK.out
        exact ⟨_, rfl, by rw [← h8]; exact h9, BB2⟩

end Go.Proofs.YtbelnhpjhpoacaaDoor

namespace Go.Proofs.YtbelnhpjhpoacaaDoor
open Go.RowKit
set_option linter.unusedVariables false

/-- What is told of one struct's cells abides what leaves limbs as they are. -/
structure ElG (k : Nat) {α : Type} (A : World → (Nat → Value) → α → Prop) : Prop where
  keep : ∀ {w w' : World} {el : Nat → Value} {d : α}, A w el d → KeepQ IsLimb w w' → A w' el d
  congr : ∀ {w : World} {el el' : Nat → Value} {d : α}, A w el d → (∀ j, j < k → el j = el' j) → A w el' d
/-- A row of the call's own. -/
def GOwn (T : TypeId) (k : Nat) {α : Type} (A : World → (Nat → Value) → α → Prop) (B : Nat) (w : World) (v : Value) (l : List α) : Prop :=
  ∃ cs : List Value, w.ownsRow B T k v l.length cs ∧ (∀ g, v.ownBlock = some g → PureB IsLimb w g) ∧ ∀ i a, l[i]? = some a → A w (fun j => cs.getD (i * k + j) undef) a
/-- A row. -/
def GRow (k : Nat) {α : Type} (A : World → (Nat → Value) → α → Prop) (w : World) (v : Value) (l : List α) : Prop := ∃ el, RowAt k w v l.length el ∧ ∀ i a, l[i]? = some a → A w (el i) a
section
variable {T : TypeId} {k : Nat} {α : Type} {A : World → (Nat → Value) → α → Prop} {B : Nat} {w w' : World} {v : Value} {l : List α}
theorem GRow.below (h : GRow k A w v l) (hA : ElG k A) (hb : Below w.heap.size w w') : GRow k A w' v l := by
  obtain ⟨el, h1, h2⟩ := h
  exact ⟨el, h1.below hb, fun i a hi => hA.keep (h2 i a hi) (KeepQ.below hb)⟩
theorem GRow.open (h : GRow k A w v l) : ∃ a c, v = .slice a l.length c ∧ l.length ≤ c ∧ c ≤ 9223372036854775807 := by
  obtain ⟨el, ⟨ao, c, h1, h2, h3, _⟩, _⟩ := h
  exact ⟨ao, c, h1, h2, h3⟩
theorem GRow.at (h : GRow k A w v l) {i : Nat} {a : α} (hi : l[i]? = some a) : ∃ (b off c : Nat) (e : Nat → Value), v = .slice (some ⟨b, off, none⟩) l.length c ∧ l.length ≤ c ∧ (∀ j, j < k → w.cell? ⟨b, off + i * k + j, none⟩ = some (e j)) ∧ A w e a := by
  obtain ⟨el, ⟨ao, c, h1, h2, h3, h4⟩, h5⟩ := h
  have hl : i < l.length := by have := List.getElem?_eq_some_iff.1 hi; exact this.1
  obtain ⟨b, off, rfl, hc⟩ := h4 (by omega)
  exact ⟨b, off, c, el i, h1, h2, hc i hl, h5 i a hi⟩
theorem GOwn.nil : GOwn T k A B w (.slice none 0 0) [] := ⟨[], World.ownsRow_nil _ _ _ _, fun g h => by simp [Value.ownBlock] at h, fun i a hi => by simp at hi⟩
theorem GOwn.le (h : GOwn T k A B w v l) {B' : Nat} (hb : B' ≤ B) : GOwn T k A B' w v l := by
  obtain ⟨cs, h1, h2, h3⟩ := h
  exact ⟨cs, owns_le h1 hb, h2, h3⟩
theorem GOwn.later (h : GOwn T k A B w v l) (hA : ElG k A) (hb : Below w.heap.size w w') : GOwn T k A B w' v l := by
  obtain ⟨cs, h1, h2, h3⟩ := h
  exact ⟨cs, owns_later h1 hb, fun g hg => (h2 g hg).below hb (World.ownsRow.lt h1 g hg).2, fun i a hi => hA.keep (h3 i a hi) (KeepQ.below hb)⟩
theorem GOwn.form (h : GOwn T k A B w v l) : ∃ a c, v = .slice a l.length c ∧ l.length ≤ c := by
  obtain ⟨cs, h1, _⟩ := h
  rcases h1.2 with ⟨rfl, e⟩ | ⟨g, c, _, rfl, _, _, h, _⟩
  · exact ⟨none, 0, by rw [e], by omega⟩
  · exact ⟨_, c, rfl, h⟩
theorem GOwn.none (h : GOwn T k A B w v l) (h0 : l.length = 0) : (v = .slice none 0 0) ∨ ∃ g c, v = .slice (some ⟨g, 0, Option.none⟩) 0 c := by
  obtain ⟨cs, h1, _⟩ := h
  rcases h1.2 with ⟨rfl, e⟩ | ⟨g, c, _, rfl, _⟩
  · exact .inl rfl
  · exact .inr ⟨g, c, by rw [h0]⟩
theorem GOwn.open (h : GOwn T k A B w v l) (h0 : 0 < l.length) : ∃ g c, v = .slice (some ⟨g, 0, Option.none⟩) l.length c ∧ l.length ≤ c ∧ B ≤ g ∧ g < w.heap.size := by
  obtain ⟨cs, h1, _⟩ := h
  have h2 := h1
  rcases h1.2 with ⟨rfl, e⟩ | ⟨g, c, _, rfl, hB, hg, hc, _⟩
  · omega
  · exact ⟨g, c, rfl, hc, hB, (World.ownsRow.lt h2 g rfl).2⟩
theorem GOwn.row (h : GOwn T k A B w v l) (hA : ElG k A) : GRow k A w v l := by
  obtain ⟨cs, h1, _, h3⟩ := h
  refine ⟨fun i j => cs.getD (i * k + j) undef, ?_, h3⟩
  have hl := h1.1
  rcases h1.2 with ⟨rfl, e⟩ | ⟨g, c, cur, rfl, hB, hg, hc, hm, rest⟩
  · rw [e]; exact RowAt.nil _ _ _
  · refine ⟨_, c, rfl, hc, by unfold maxLen at hm; omega, fun _ => ⟨g, 0, rfl, fun i hi j hj => ?_⟩⟩
    have hlt : i * k + j < cs.length := by
      rw [hl]
      have := Nat.mul_le_mul_right k (show i + 1 ≤ l.length by omega)
      rw [Nat.add_mul] at this
      omega
    rw [Nat.zero_add]
    exact owns_cell h1 (by show cs[i * k + j]? = some (cs.getD (i * k + j) undef); rw [List.getD_eq_getElem?_getD, List.getElem?_eq_getElem hlt]; rfl)
/-- Another row was written. -/
theorem GOwn.kept {row : Option Nat} (h : GOwn T k A B w v l) (hA : ElG k A) (hg : w.grownBy w' row) (hk : KeepQ IsLimb w w') (hne : v.ownBlock = Option.none ∨ v.ownBlock ≠ row) : GOwn T k A B w' v l := by
  obtain ⟨cs, h1, h2, h3⟩ := h
  refine ⟨cs, h1.kept hg hne, fun g hgg o u hu => h2 g hgg o u ?_, fun i a hi => hA.keep (h3 i a hi) hk⟩
  have hlt := (World.ownsRow.lt h1 g hgg).2
  have hne2 : some g ≠ row := fun e => by
    rcases hne with a | a
    · rw [hgg] at a; cases a
    · exact a (hgg.trans e)
  rw [← World.cell?_of_block (w := w) (hg.block g hlt hne2)]; exact hu
/-- More of them, appended at once. -/
theorem GOwn.more {v' : Value} {m : Nat} {l' : List α} {cs news : List Value} (hA : ElG k A) (hm : l'.length = m) (h1 : w'.ownsRow B T k v' (l.length + m) (cs ++ news)) (hl : cs.length = l.length * k) (hp : ∀ g, v'.ownBlock = some g → PureB IsLimb w' g) (hk : KeepQ IsLimb w w')
    (h3 : ∀ i a, l[i]? = some a → A w (fun j => cs.getD (i * k + j) undef) a) (hn : ∀ i a, l'[i]? = some a → A w (fun j => news.getD (i * k + j) undef) a) : GOwn T k A B w' v' (l ++ l') := by
  refine ⟨cs ++ news, by rw [List.length_append, hm]; exact h1, hp, fun i a hi => ?_⟩
  by_cases e : i < l.length
  · rw [List.getElem?_append_left e] at hi
    refine hA.congr (hA.keep (h3 i a hi) hk) (fun j hj => ?_)
    simp only [List.getD_eq_getElem?_getD]
    have := Nat.mul_le_mul_right k (show i + 1 ≤ l.length by omega)
    rw [Nat.add_mul] at this
    rw [List.getElem?_append_left (by omega)]
  · rw [List.getElem?_append_right (by omega)] at hi
    refine hA.congr (hA.keep (hn _ a hi) hk) (fun j hj => ?_)
    simp only [List.getD_eq_getElem?_getD]
    have h5 : i * k = (i - l.length) * k + l.length * k := by rw [← Nat.add_mul]; congr 1; omega
    rw [List.getElem?_append_right (by omega), hl, h5]
    congr 2
    omega
end
/-- What 'append' asks of a row of the call's own. -/
theorem GOwn.parts {T : TypeId} {k : Nat} {α : Type} {A : World → (Nat → Value) → α → Prop} {B : Nat} {w : World} {v : Value} {l : List α} (h : GOwn T k A B w v l) : ∃ cs : List Value, w.ownsRow B T k v l.length cs ∧ cs.length = l.length * k ∧ (∀ g, v.ownBlock = some g → PureB IsLimb w g) ∧ ∀ i a, l[i]? = some a → A w (fun j => cs.getD (i * k + j) undef) a := by
  obtain ⟨cs, h1, h2, h3⟩ := h
  exact ⟨cs, h1, h1.1, h2, h3⟩

end Go.Proofs.YtbelnhpjhpoacaaDoor

namespace Go.Proofs.YtbelnhpjhpoacaaDoor
open Go.RowKit
set_option linter.unusedVariables false
set_option linter.unusedSimpArgs false

/-- A number in its form, or none at all. -/
def ExT (w : World) (x y z : Value) : Option Rat → Prop
  | none => x = .bool false ∧ y = .slice none 0 0 ∧ z = .slice none 0 0
  | some q => RepQ w (.agg #[x, y, z]) q
theorem ExT.keepL {w w' : World} {x y z : Value} {o : Option Rat} (h : ExT w x y z o) (hk : KeepQ IsLimb w w') : ExT w' x y z o := by
  cases o with
  | none => exact h
  | some q => exact RepQ.keepL h hk
/-- A tidy node. -/
structure TidN where
  leaf : Bool
  feat : Int
  cut : Option Rat
  left : Int
  right : Int
  miss : Bool
  val : Option Rat
  cov : Option Rat
/-- What is made of a node. -/
def tidN (d : Nd) : TidN := if d.leaf = true then ⟨true, 0, none, 0, 0, false, some d.val, some d.cov⟩ else ⟨false, d.feat, some d.cut, d.left, d.right, d.miss, none, some d.cov⟩
/-- A tidy node's cells. -/
def TNode (w : World) (el : Nat → Value) (d : TidN) : Prop := el 0 = .bool d.leaf ∧ el 1 = .int .i64 d.feat ∧ ExT w (el 2) (el 3) (el 4) d.cut ∧ el 5 = .int .i64 d.left ∧ el 6 = .int .i64 d.right ∧ el 7 = .bool d.miss ∧ ExT w (el 8) (el 9) (el 10) d.val ∧ ExT w (el 11) (el 12) (el 13) d.cov
theorem tnodeEl : ElG 14 TNode :=
  ⟨fun h hk => let ⟨a, b, c, d, e, f, g, i⟩ := h; ⟨a, b, c.keepL hk, d, e, f, g.keepL hk, i.keepL hk⟩, fun h e => by
    unfold TNode at h ⊢
    rw [← e 0 (by omega), ← e 1 (by omega), ← e 2 (by omega), ← e 3 (by omega), ← e 4 (by omega), ← e 5 (by omega), ← e 6 (by omega), ← e 7 (by omega), ← e 8 (by omega), ← e 9 (by omega), ← e 10 (by omega), ← e 11 (by omega), ← e 12 (by omega), ← e 13 (by omega)]
    exact h⟩
abbrev TTr (B : Nat) (w : World) (v : Value) (l : List TidN) : Prop := GOwn 37 14 TNode B w v l
/-- A tidy model's trees, of the call's own. -/
def TMo (B : Nat) (w : World) (v : Value) (ls : List (List TidN)) : Prop := ∃ us : List Value, w.ownsRow B 29 1 v ls.length us ∧ (∀ g, v.ownBlock = some g → PureB IsLimb w g) ∧ ∀ (i : Nat) (l : List TidN), ls[i]? = some l → ∃ u, us[i]? = some u ∧ TTr B w u l
theorem TMo.nil (B : Nat) (w : World) : TMo B w (.slice none 0 0) [] := ⟨[], World.ownsRow_nil _ _ _ _, fun g h => by simp [Value.ownBlock] at h, fun i l hi => by simp at hi⟩
theorem TMo.later {B : Nat} {w w' : World} {v : Value} {ls : List (List TidN)} (h : TMo B w v ls) (hb : Below w.heap.size w w') : TMo B w' v ls := by
  obtain ⟨us, h1, h2, h3⟩ := h
  exact ⟨us, owns_later h1 hb, fun g hg => (h2 g hg).below hb (World.ownsRow.lt h1 g hg).2, fun i l hi => let ⟨u, a, b⟩ := h3 i l hi; ⟨u, a, b.later tnodeEl hb⟩⟩
theorem TMo.below {B : Nat} {w w' : World} {v : Value} {ls : List (List TidN)} (h : TMo B w v ls) (hb : Below w.heap.size w w') : TMo B w' v ls := h.later hb
theorem TTr.below {B : Nat} {w w' : World} {v : Value} {l : List TidN} (h : TTr B w v l) (hb : Below w.heap.size w w') : TTr B w' v l := GOwn.later h tnodeEl hb
theorem TTr.set {B : Nat} {w : World} {v : Value} {l : List TidN} (h : TTr B w v l) {a : Addr} (ha : a.block < B) (u : Value) (hk : KeepQ IsLimb w (w.setCell a u)) : TTr B (w.setCell a u) v l := by
  obtain ⟨cs, h1, h2, h3⟩ := h
  refine ⟨cs, ownsRow_setCell_below h1 ha u, fun g hgg o x hx => h2 g hgg o x ?_, fun i d hi => tnodeEl.keep (h3 i d hi) hk⟩
  have hlt := (World.ownsRow.lt h1 g hgg).1
  rwa [World.cell?_setCell_other _ _ _ _ (fun e => by rw [e] at ha; simp at ha; omega)] at hx
theorem TMo.set {B : Nat} {w : World} {v : Value} {ls : List (List TidN)} (h : TMo B w v ls) {a : Addr} (ha : a.block < B) (u : Value) (hk : KeepQ IsLimb w (w.setCell a u)) : TMo B (w.setCell a u) v ls := by
  obtain ⟨us, h1, h2, h3⟩ := h
  refine ⟨us, ownsRow_setCell_below h1 ha u, fun g hgg o x hx => h2 g hgg o x ?_, fun i l hi => let ⟨y, a1, b1⟩ := h3 i l hi; ⟨y, a1, b1.set ha u hk⟩⟩
  have hlt := (World.ownsRow.lt h1 g hgg).1
  rwa [World.cell?_setCell_other _ _ _ _ (fun e => by rw [e] at ha; simp at ha; omega)] at hx
theorem TMo.le {B B' : Nat} {w : World} {v : Value} {ls : List (List TidN)} (h : TMo B w v ls) (hb : B' ≤ B) : TMo B' w v ls := by
  obtain ⟨us, h1, h2, h3⟩ := h
  exact ⟨us, owns_le h1 hb, h2, fun i l hi => let ⟨u, a, b⟩ := h3 i l hi; ⟨u, a, GOwn.le b hb⟩⟩
theorem TMo.form {B : Nat} {w : World} {v : Value} {ls : List (List TidN)} (h : TMo B w v ls) : ∃ a c, v = .slice a ls.length c ∧ ls.length ≤ c := by
  obtain ⟨cs, h1, _⟩ := h
  rcases h1.2 with ⟨rfl, e⟩ | ⟨g, c, _, rfl, _, _, hc, _⟩
  · exact ⟨none, 0, by rw [e], by omega⟩
  · exact ⟨_, c, rfl, hc⟩
/-- The i-th tree. -/
theorem TMo.at {B : Nat} {w : World} {v : Value} {ls : List (List TidN)} (h : TMo B w v ls) {i : Nat} {l : List TidN} (hi : ls[i]? = some l) : ∃ g c u, v = .slice (some ⟨g, 0, none⟩) ls.length c ∧ ls.length ≤ c ∧ w.cell? ⟨g, i, none⟩ = some u ∧ TTr B w u l := by
  obtain ⟨us, h1, _, h3⟩ := h
  obtain ⟨u, hu, ht⟩ := h3 i l hi
  have h2 := h1
  have hl : i < ls.length := (List.getElem?_eq_some_iff.1 hi).1
  rcases h1.2 with ⟨rfl, e⟩ | ⟨g, c, cur, rfl, hB, hg, hc, hm, rest⟩
  · omega
  · exact ⟨g, c, u, rfl, hc, owns_cell h2 hu, ht⟩
theorem TTr.stay {B : Nat} {w w' : World} {v x : Value} {l : List TidN} {us : List Value} {n : Nat} (h : TTr B w v l) (o1 : w.ownsRow B 29 1 x n us) (hg : w.grownBy w' x.ownBlock) (hk : KeepQ IsLimb w w') : TTr B w' v l := by
  obtain ⟨cs, c1, _⟩ := id h
  exact GOwn.kept h tnodeEl hg hk (unlike c1 o1 (by decide))
/-- One tree more. -/
theorem TMo.more {B : Nat} {w w' : World} {v v' y : Value} {ls : List (List TidN)} {l : List TidN} {us : List Value} (h : TMo B w v ls) (hu : w.ownsRow B 29 1 v ls.length us) (hy : TTr B w y l) (h1 : w'.ownsRow B 29 1 v' (ls.length + 1) (us ++ [y])) (hg : w.grownBy w' v.ownBlock) (hp : ∀ g, v'.ownBlock = some g → PureB IsLimb w' g) (hk : KeepQ IsLimb w w') : TMo B w' v' (ls ++ [l]) := by
  obtain ⟨us2, o1, o2, o3⟩ := h
  have hl := hu.1
  have e2 : us2 = us := by
    rcases o1.2 with ⟨rfl, e⟩ | ⟨g, c, cur, rfl, hB, hgh, hc, hm, hcs, ht⟩
    · have a1 := o1.1
      rw [e, Nat.zero_mul] at a1 hl
      rw [List.eq_nil_of_length_eq_zero a1, List.eq_nil_of_length_eq_zero hl]
    · rcases hu.2 with ⟨h9, _⟩ | ⟨g', c', cur', h9, hB', hgh', hc', hm', hcs', ht'⟩
      · cases h9
      · simp only [Value.slice.injEq, Option.some.injEq, Addr.mk.injEq, and_true, true_and] at h9
        obtain ⟨rfl, _⟩ := h9
        rw [hgh] at hgh'
        simp only [Option.some.injEq, Obj.cells.injEq] at hgh'
        rw [← ht, ← ht', hgh'.1]
  subst e2
  refine ⟨us2 ++ [y], by rw [List.length_append]; exact h1, hp, fun i l' hi => ?_⟩
  by_cases e : i < ls.length
  · rw [List.getElem?_append_left e] at hi
    obtain ⟨u, hu', ho⟩ := o3 i l' hi
    exact ⟨u, by rw [List.getElem?_append_left (by rw [hl, Nat.mul_one]; exact e)]; exact hu', ho.stay o1 hg hk⟩
  · rw [List.getElem?_append_right (by omega)] at hi
    have hi0 : i = ls.length := by
      have := (List.getElem?_eq_some_iff.1 hi).1
      simp at this
      omega
    subst hi0
    rw [Nat.sub_self] at hi
    simp only [List.getElem?_cons_zero, Option.some.injEq] at hi
    subst hi
    exact ⟨y, by rw [List.getElem?_append_right (by omega), hl, Nat.mul_one, Nat.sub_self]; rfl, hy.stay o1 hg hk⟩
/-- What 'append' asks. -/
theorem TMo.parts {B : Nat} {w : World} {v : Value} {ls : List (List TidN)} (h : TMo B w v ls) : ∃ us : List Value, w.ownsRow B 29 1 v ls.length us ∧ (∀ g, v.ownBlock = some g → PureB IsLimb w g) := by
  obtain ⟨us, h1, h2, _⟩ := h
  exact ⟨us, h1, h2⟩
theorem TMo.blocks {B : Nat} {w : World} {v : Value} {ls : List (List TidN)} (h : TMo B w v ls) : ∀ g, v.ownBlock = some g → B ≤ g ∧ g < w.heap.size := by
  obtain ⟨us, h1, _⟩ := h
  exact World.ownsRow.lt h1
theorem TTr.blocks {B : Nat} {w : World} {v : Value} {l : List TidN} (h : TTr B w v l) : ∀ g, v.ownBlock = some g → B ≤ g ∧ g < w.heap.size := by
  obtain ⟨us, h1, _⟩ := h
  exact World.ownsRow.lt h1

end Go.Proofs.YtbelnhpjhpoacaaDoor

namespace Go.Proofs.YtbelnhpjhpoacaaDoor
open Go.ChangeShapes Go.WideShapes Go.ChangeAt Go.RowKit
set_option linter.unusedVariables false

/-- An entry: missing, or a number. -/
structure Cl where
  miss : Bool
  val : Rat
def CellRaw (w : World) (el : Nat → Value) (d : Cl) (K : Nat) : Prop := el 0 = .bool d.miss ∧ RawN w (el 1) (el 2) (el 3) d.val K
def CellAt (w : World) (el : Nat → Value) (d : Cl) (L : Nat) : Prop := el 0 = .bool d.miss ∧ AtN w (el 1) (el 2) (el 3) d.val L
theorem CellRaw.below {w w' : World} {el : Nat → Value} {d : Cl} {K : Nat} (h : CellRaw w el d K) (hb : Below w.heap.size w w') : CellRaw w' el d K := ⟨h.1, h.2.below hb⟩
theorem CellAt.below {w w' : World} {el : Nat → Value} {d : Cl} {L : Nat} (h : CellAt w el d L) (hb : Below w.heap.size w w') : CellAt w' el d L := ⟨h.1, h.2.below hb⟩
theorem CellAt.keepL {w w' : World} {el : Nat → Value} {d : Cl} {L : Nat} (h : CellAt w el d L) (hk : KeepQ IsLimb w w') : CellAt w' el d L := ⟨h.1, h.2.keepL hk⟩
theorem CellAt.congr {w : World} {el el' : Nat → Value} {d : Cl} {L : Nat} (h : CellAt w el d L) (e : ∀ j, j < 4 → el j = el' j) : CellAt w el' d L := by
  unfold CellAt at h ⊢
  rw [← e 0 (by omega), ← e 1 (by omega), ← e 2 (by omega), ← e 3 (by omega)]
  exact h
theorem AtN.mono {w : World} {x y z : Value} {q : Rat} {L L' : Nat} (h : AtN w x y z q L) (hL : L ≤ L') : AtN w x y z q L' := by
  obtain ⟨p, ao, m, c, bo, k, d, a, b, e, r⟩ := h
  exact ⟨p, ao, m, c, bo, k, d, a, b, e, r.le hL⟩
theorem CellAt.mono {w : World} {el : Nat → Value} {d : Cl} {L L' : Nat} (h : CellAt w el d L) (hL : L ≤ L') : CellAt w el d L' := ⟨h.1, h.2.mono hL⟩

def CRaw (w : World) (v : Value) (n : Nat) (t : Nat → Cl) (K : Nat) : Prop := ∃ el, RowAt 4 w v n el ∧ ∀ i, i < n → CellRaw w (el i) (t i) K
def CRow (w : World) (v : Value) (n : Nat) (t : Nat → Cl) (L : Nat) : Prop := ∃ el, RowAt 4 w v n el ∧ ∀ i, i < n → CellAt w (el i) (t i) L
theorem CRaw.below {w w' : World} {v : Value} {n : Nat} {t : Nat → Cl} {K : Nat} (h : CRaw w v n t K) (hb : Below w.heap.size w w') : CRaw w' v n t K := by
  obtain ⟨el, h1, h2⟩ := h
  exact ⟨el, h1.below hb, fun i hi => (h2 i hi).below hb⟩
theorem CRow.below {w w' : World} {v : Value} {n : Nat} {t : Nat → Cl} {L : Nat} (h : CRow w v n t L) (hb : Below w.heap.size w w') : CRow w' v n t L := by
  obtain ⟨el, h1, h2⟩ := h
  exact ⟨el, h1.below hb, fun i hi => (h2 i hi).below hb⟩
theorem CRow.open {w : World} {v : Value} {n : Nat} {t : Nat → Cl} {L : Nat} (h : CRow w v n t L) : ∃ a c, v = .slice a n c ∧ n ≤ c ∧ c ≤ 9223372036854775807 := by
  obtain ⟨el, ⟨a, c, h1, h2, h3, _⟩, _⟩ := h
  exact ⟨a, c, h1, h2, h3⟩
theorem CRaw.open {w : World} {v : Value} {n : Nat} {t : Nat → Cl} {L : Nat} (h : CRaw w v n t L) : ∃ a c, v = .slice a n c ∧ n ≤ c ∧ c ≤ 9223372036854775807 := by
  obtain ⟨el, ⟨a, c, h1, h2, h3, _⟩, _⟩ := h
  exact ⟨a, c, h1, h2, h3⟩

theorem CRow.at {w : World} {v : Value} {n : Nat} {t : Nat → Cl} {L : Nat} (h : CRow w v n t L) {i : Nat} (hi : i < n) :
    ∃ b off c p1 a1 n1 c1 b1 m1 d1, v = .slice (some ⟨b, off, none⟩) n c ∧ n ≤ c ∧ c ≤ 9223372036854775807 ∧
      w.cell? ⟨b, off + i * 4, none⟩ = some (.bool (t i).miss) ∧ w.cell? ⟨b, off + i * 4 + 1, none⟩ = some (.bool p1) ∧ w.cell? ⟨b, off + i * 4 + 2, none⟩ = some (.slice a1 n1 c1) ∧ w.cell? ⟨b, off + i * 4 + 3, none⟩ = some (.slice b1 m1 d1) ∧
      RatAt w (.agg #[.bool p1, .slice a1 n1 c1, .slice b1 m1 d1]) (t i).val L := by
  obtain ⟨el, ⟨a, c, h1, h2, h3, h4⟩, h5⟩ := h
  obtain ⟨b, off, rfl, hc⟩ := h4 (by omega)
  obtain ⟨e0, p1, a1, n1, c1, b1, m1, d1, e1, e2, e3, r1⟩ := h5 i hi
  have hc := hc i hi
  exact ⟨b, off, c, p1, a1, n1, c1, b1, m1, d1, h1, h2, h3, (hc 0 (by omega)).trans (by rw [e0]), (hc 1 (by omega)).trans (by rw [e1]), (hc 2 (by omega)).trans (by rw [e2]), (hc 3 (by omega)).trans (by rw [e3]), r1⟩
theorem CRaw.at {w : World} {v : Value} {n : Nat} {t : Nat → Cl} {K : Nat} (h : CRaw w v n t K) {i : Nat} (hi : i < n) :
    ∃ b off c p1 a1 n1 c1 b1 m1 d1 f1 g1, v = .slice (some ⟨b, off, none⟩) n c ∧ n ≤ c ∧ c ≤ 9223372036854775807 ∧
      w.cell? ⟨b, off + i * 4, none⟩ = some (.bool (t i).miss) ∧ w.cell? ⟨b, off + i * 4 + 1, none⟩ = some (.bool p1) ∧ w.cell? ⟨b, off + i * 4 + 2, none⟩ = some (.slice a1 n1 c1) ∧ w.cell? ⟨b, off + i * 4 + 3, none⟩ = some (.slice b1 m1 d1) ∧
      Raw w (.slice a1 n1 c1) n1 f1 ∧ Raw w (.slice b1 m1 d1) m1 g1 ∧ (t i).val = mkRat (zof p1 (num f1 (min n1 K))) (num g1 (min m1 K)) := by
  obtain ⟨el, ⟨a, c, h1, h2, h3, h4⟩, h5⟩ := h
  obtain ⟨b, off, rfl, hc⟩ := h4 (by omega)
  obtain ⟨e0, p1, a1, n1, c1, b1, m1, d1, f1, g1, e1, e2, e3, r1⟩ := h5 i hi
  have hc := hc i hi
  exact ⟨b, off, c, p1, a1, n1, c1, b1, m1, d1, f1, g1, h1, h2, h3, (hc 0 (by omega)).trans (by rw [e0]), (hc 1 (by omega)).trans (by rw [e1]), (hc 2 (by omega)).trans (by rw [e2]), (hc 3 (by omega)).trans (by rw [e3]), r1⟩
theorem CRow.mono {w : World} {v : Value} {n : Nat} {t : Nat → Cl} {L L' : Nat} (h : CRow w v n t L) (hL : L ≤ L') : CRow w v n t L' := by
  obtain ⟨el, h1, h2⟩ := h
  exact ⟨el, h1, fun i hi => (h2 i hi).mono hL⟩
theorem CRow.congr {w : World} {v : Value} {n : Nat} {t t' : Nat → Cl} {L : Nat} (h : CRow w v n t L) (e : ∀ i, i < n → t i = t' i) : CRow w v n t' L := by
  obtain ⟨el, h1, h2⟩ := h
  exact ⟨el, h1, fun i hi => e i hi ▸ h2 i hi⟩

/-- Rows of entries. -/
def ARaw (w : World) (v : Value) (k : Nat) (N : Nat → Nat) (t : Nat → Nat → Cl) (K : Nat) : Prop := ∃ el, RowAt 1 w v k el ∧ ∀ i, i < k → CRaw w (el i 0) (N i) (t i) K
def ARow (w : World) (v : Value) (k : Nat) (N : Nat → Nat) (t : Nat → Nat → Cl) (L : Nat) : Prop := ∃ el, RowAt 1 w v k el ∧ ∀ i, i < k → CRow w (el i 0) (N i) (t i) L
theorem ARaw.below {w w' : World} {v : Value} {k : Nat} {N : Nat → Nat} {t : Nat → Nat → Cl} {K : Nat} (h : ARaw w v k N t K) (hb : Below w.heap.size w w') : ARaw w' v k N t K := by
  obtain ⟨el, h1, h2⟩ := h
  exact ⟨el, h1.below hb, fun i hi => (h2 i hi).below hb⟩
theorem ARow.below {w w' : World} {v : Value} {k : Nat} {N : Nat → Nat} {t : Nat → Nat → Cl} {L : Nat} (h : ARow w v k N t L) (hb : Below w.heap.size w w') : ARow w' v k N t L := by
  obtain ⟨el, h1, h2⟩ := h
  exact ⟨el, h1.below hb, fun i hi => (h2 i hi).below hb⟩
theorem ARow.open {w : World} {v : Value} {k : Nat} {N : Nat → Nat} {t : Nat → Nat → Cl} {L : Nat} (h : ARow w v k N t L) : ∃ a c, v = .slice a k c ∧ k ≤ c ∧ c ≤ 9223372036854775807 := by
  obtain ⟨el, ⟨a, c, h1, h2, h3, _⟩, _⟩ := h
  exact ⟨a, c, h1, h2, h3⟩
theorem ARaw.open {w : World} {v : Value} {k : Nat} {N : Nat → Nat} {t : Nat → Nat → Cl} {L : Nat} (h : ARaw w v k N t L) : ∃ a c, v = .slice a k c ∧ k ≤ c ∧ c ≤ 9223372036854775807 := by
  obtain ⟨el, ⟨a, c, h1, h2, h3, _⟩, _⟩ := h
  exact ⟨a, c, h1, h2, h3⟩
theorem ARow.at {w : World} {v : Value} {k : Nat} {N : Nat → Nat} {t : Nat → Nat → Cl} {L : Nat} (h : ARow w v k N t L) {i : Nat} (hi : i < k) : ∃ b off c a d, v = .slice (some ⟨b, off, none⟩) k c ∧ k ≤ c ∧ w.cell? ⟨b, off + i, none⟩ = some (.slice a (N i) d) ∧ CRow w (.slice a (N i) d) (N i) (t i) L := by
  obtain ⟨el, ⟨a, c, h1, h2, h3, h4⟩, h5⟩ := h
  obtain ⟨b, off, rfl, hc⟩ := h4 (by omega)
  obtain ⟨a, d, e, _⟩ := (h5 i hi).open
  have := hc i hi 0 (by omega)
  rw [Nat.mul_one, Nat.add_zero, e] at this
  exact ⟨b, off, c, a, d, h1, h2, this, e ▸ h5 i hi⟩
theorem ARaw.at {w : World} {v : Value} {k : Nat} {N : Nat → Nat} {t : Nat → Nat → Cl} {L : Nat} (h : ARaw w v k N t L) {i : Nat} (hi : i < k) : ∃ b off c a d, v = .slice (some ⟨b, off, none⟩) k c ∧ k ≤ c ∧ w.cell? ⟨b, off + i, none⟩ = some (.slice a (N i) d) ∧ CRaw w (.slice a (N i) d) (N i) (t i) L := by
  obtain ⟨el, ⟨a, c, h1, h2, h3, h4⟩, h5⟩ := h
  obtain ⟨b, off, rfl, hc⟩ := h4 (by omega)
  obtain ⟨a, d, e, _⟩ := (h5 i hi).open
  have := hc i hi 0 (by omega)
  rw [Nat.mul_one, Nat.add_zero, e] at this
  exact ⟨b, off, c, a, d, h1, h2, this, e ▸ h5 i hi⟩

theorem cells4 {l : List Value} (h : l.length = 4) : ∃ x0 x1 x2 x3, l = [x0, x1, x2, x3] := by
  match l, h with
  | [x0, x1, x2, x3], _ => exact ⟨x0, x1, x2, x3, rfl⟩
end Go.Proofs.YtbelnhpjhpoacaaDoor

namespace Go.Proofs.YtbelnhpjhpoacaaDoor
open Go.ChangeShapes Go.WideShapes Go.ChangeAt Go.RowKit
set_option linter.unusedVariables false
set_option linter.unusedSimpArgs false

def NodeV (w : World) (v : Value) (d : Nd) (K : Nat) : Prop := ∃ x0 x1 x2 x3 x4 x5 x6 x7 x8 x9 x10 x11 x12 x13, v = .agg #[x0, x1, x2, x3, x4, x5, x6, x7, x8, x9, x10, x11, x12, x13] ∧ NodeRaw w (fun j => [x0, x1, x2, x3, x4, x5, x6, x7, x8, x9, x10, x11, x12, x13].getD j undef) d K
set_option maxRecDepth 100000 in
theorem open_node {H : Type} {enc : TypeId × Value → H} {W : World} {base b0 : Nat} {r : Reach} {v : Value} {d : DataW H} {ps : List MemPlace} (K : Nat)
    (hval : Value.okWide Tryd.prog W r b0 37 v) (h : DataW.Trod enc Tryd.prog W base (fun _ => true) true 37 v d ps) : ∃ x, NodeV W v x K := by
  obtain ⟨cs, rfl, hsz⟩ := okWide_struct Tryd.underlying37 hval
  rw [cells_node] at hsz
  obtain ⟨l⟩ := cs
  obtain ⟨x0, x1, x2, x3, x4, x5, x6, x7, x8, x9, x10, x11, x12, x13, rfl⟩ := cells14 (l := l) hsz
  obtain ⟨fuel, hf⟩ := h
  obtain ⟨d, hd⟩ := trod_node K hf
  exact ⟨d, x0, x1, x2, x3, x4, x5, x6, x7, x8, x9, x10, x11, x12, x13, rfl, hd⟩
theorem NodeV.open {w : World} {v : Value} {d : Nd} {K : Nat} (h : NodeV w v d K) : ∃ p1 a1 n1 c1 b1 m1 d1 p2 a2 n2 c2 b2 m2 d2 p3 a3 n3 c3 b3 m3 d3, v = .agg #[.bool d.leaf, .int .i64 d.feat, .bool p1, .slice a1 n1 c1, .slice b1 m1 d1, .int .i64 d.left, .int .i64 d.right, .bool d.miss, .bool p2, .slice a2 n2 c2, .slice b2 m2 d2, .bool p3, .slice a3 n3 c3, .slice b3 m3 d3] ∧ NodeRaw w (fun j => [.bool d.leaf, .int .i64 d.feat, .bool p1, .slice a1 n1 c1, .slice b1 m1 d1, .int .i64 d.left, .int .i64 d.right, .bool d.miss, .bool p2, .slice a2 n2 c2, .slice b2 m2 d2, .bool p3, .slice a3 n3 c3, .slice b3 m3 d3].getD j undef) d K := by
  obtain ⟨x0, x1, x2, x3, x4, x5, x6, x7, x8, x9, x10, x11, x12, x13, rfl, hN⟩ := h
  obtain ⟨e0, e1, ⟨p1, a1, n1, c1, b1, m1, d1, f1, g1, e2, e3, e4, s1⟩, e5, e6, e7, ⟨p2, a2, n2, c2, b2, m2, d2, f2, g2, e8, e9, e10, s2⟩, ⟨p3, a3, n3, c3, b3, m3, d3, f3, g3, e11, e12, e13, s3⟩, i1, i2, i3⟩ := id hN
  have e0 : x0 = .bool d.leaf := e0
  have e1 : x1 = .int .i64 d.feat := e1
  have e2 : x2 = .bool p1 := e2
  have e3 : x3 = .slice a1 n1 c1 := e3
  have e4 : x4 = .slice b1 m1 d1 := e4
  have e5 : x5 = .int .i64 d.left := e5
  have e6 : x6 = .int .i64 d.right := e6
  have e7 : x7 = .bool d.miss := e7
  have e8 : x8 = .bool p2 := e8
  have e9 : x9 = .slice a2 n2 c2 := e9
  have e10 : x10 = .slice b2 m2 d2 := e10
  have e11 : x11 = .bool p3 := e11
  have e12 : x12 = .slice a3 n3 c3 := e12
  have e13 : x13 = .slice b3 m3 d3 := e13
  subst e0 e1 e2 e3 e4 e5 e6 e7 e8 e9 e10 e11 e12 e13
  exact ⟨p1, a1, n1, c1, b1, m1, d1, p2, a2, n2, c2, b2, m2, d2, p3, a3, n3, c3, b3, m3, d3, rfl, hN⟩
theorem one_row {w : World} (cs : Array Value) (ty : TypeId) {k : Nat} (hk : cs.size = k) : RowAt k (w.alloc (.cells cs ty)) (.slice (some ⟨w.heap.size, 0, none⟩) 1 1) 1 (fun _ j => cs.toList.getD j undef) := by
  refine ⟨_, _, rfl, Nat.le_refl _, by omega, fun _ => ⟨_, _, rfl, fun i hi j hj => ?_⟩⟩
  obtain rfl : i = 0 := by omega
  rw [cell_of_row _ _ _ _ _ _ (heap_alloc_new w (.cells cs ty))]
  rw [show 0 + 0 * k + j = j by omega]
  show _ = some (cs.toList.getD j undef)
  rw [Array.getElem?_eq_getElem (by omega), List.getD_eq_getElem?_getD, List.getElem?_eq_getElem (by simp; omega)]
  simp
theorem one_node {w : World} {x0 x1 x2 x3 x4 x5 x6 x7 x8 x9 x10 x11 x12 x13 : Value} {d : Nd} {K : Nat} (h : NodeRaw w (fun j => [x0, x1, x2, x3, x4, x5, x6, x7, x8, x9, x10, x11, x12, x13].getD j undef) d K) (ty : TypeId) :
    TRaw (w.alloc (.cells #[x0, x1, x2, x3, x4, x5, x6, x7, x8, x9, x10, x11, x12, x13] ty)) (.slice (some ⟨w.heap.size, 0, none⟩) 1 1) 1 (fun _ => d) K :=
  ⟨_, one_row #[x0, x1, x2, x3, x4, x5, x6, x7, x8, x9, x10, x11, x12, x13] ty rfl, fun i _ => h.below ((Below.refl _ _).alloc (Nat.le_refl _) _)⟩
theorem one_entry {w : World} {ms p : Bool} {ao bo : Option Addr} {n c m d : Nat} {f g : Nat → Int} (h1 : Raw w (.slice ao n c) n f) (h2 : Raw w (.slice bo m d) m g) (K : Nat) (ty : TypeId) :
    CRaw (w.alloc (.cells #[.bool ms, .bool p, .slice ao n c, .slice bo m d] ty)) (.slice (some ⟨w.heap.size, 0, none⟩) 1 1) 1 (fun _ => ⟨ms, mkRat (zof p (num f (min n K))) (num g (min m K))⟩) K :=
  ⟨_, one_row #[.bool ms, .bool p, .slice ao n c, .slice bo m d] ty rfl, fun i _ => ⟨rfl, p, ao, n, c, bo, m, d, f, g, rfl, rfl, rfl, h1.below ((Below.refl _ _).alloc (Nat.le_refl _) _), h2.below ((Below.refl _ _).alloc (Nat.le_refl _) _), rfl⟩⟩

theorem V14.put {w : World} {R : Nat} {x0 x1 x2 x3 x4 x5 x6 x7 x8 x9 x10 x11 x12 x13 : Value} (h : V14 w R x0 x1 x2 x3 x4 x5 x6 x7 x8 x9 x10 x11 x12 x13) (u0 u1 u2 u3 u4 u5 u6 u7 u8 u9 u10 u11 u12 u13 : Value) : V14 ((((((((((((((w.setCell ⟨R, 0, none⟩ u0).setCell ⟨R, 1, none⟩ u1).setCell ⟨R, 2, none⟩ u2).setCell ⟨R, 3, none⟩ u3).setCell ⟨R, 4, none⟩ u4).setCell ⟨R, 5, none⟩ u5).setCell ⟨R, 6, none⟩ u6).setCell ⟨R, 7, none⟩ u7).setCell ⟨R, 8, none⟩ u8).setCell ⟨R, 9, none⟩ u9).setCell ⟨R, 10, none⟩ u10).setCell ⟨R, 11, none⟩ u11).setCell ⟨R, 12, none⟩ u12).setCell ⟨R, 13, none⟩ u13) R u0 u1 u2 u3 u4 u5 u6 u7 u8 u9 u10 u11 u12 u13 := by
  obtain ⟨c0, c1, c2, c3, c4, c5, c6, c7, c8, c9, c10, c11, c12, c13⟩ := h
  refine ⟨?_, ?_, ?_, ?_, ?_, ?_, ?_, ?_, ?_, ?_, ?_, ?_, ?_, ?_⟩
  · exact (cell_set_by (j := 13) (cell_set_by (j := 12) (cell_set_by (j := 11) (cell_set_by (j := 10) (cell_set_by (j := 9) (cell_set_by (j := 8) (cell_set_by (j := 7) (cell_set_by (j := 6) (cell_set_by (j := 5) (cell_set_by (j := 4) (cell_set_by (j := 3) (cell_set_by (j := 2) (cell_set_by (j := 1) (cell_set_at c0) (by omega)) (by omega)) (by omega)) (by omega)) (by omega)) (by omega)) (by omega)) (by omega)) (by omega)) (by omega)) (by omega)) (by omega)) (by omega))
  · exact (cell_set_by (j := 13) (cell_set_by (j := 12) (cell_set_by (j := 11) (cell_set_by (j := 10) (cell_set_by (j := 9) (cell_set_by (j := 8) (cell_set_by (j := 7) (cell_set_by (j := 6) (cell_set_by (j := 5) (cell_set_by (j := 4) (cell_set_by (j := 3) (cell_set_by (j := 2) (cell_set_at (cell_set_by (j := 0) c1 (by omega))) (by omega)) (by omega)) (by omega)) (by omega)) (by omega)) (by omega)) (by omega)) (by omega)) (by omega)) (by omega)) (by omega)) (by omega))
  · exact (cell_set_by (j := 13) (cell_set_by (j := 12) (cell_set_by (j := 11) (cell_set_by (j := 10) (cell_set_by (j := 9) (cell_set_by (j := 8) (cell_set_by (j := 7) (cell_set_by (j := 6) (cell_set_by (j := 5) (cell_set_by (j := 4) (cell_set_by (j := 3) (cell_set_at (cell_set_by (j := 1) (cell_set_by (j := 0) c2 (by omega)) (by omega))) (by omega)) (by omega)) (by omega)) (by omega)) (by omega)) (by omega)) (by omega)) (by omega)) (by omega)) (by omega)) (by omega))
  · exact (cell_set_by (j := 13) (cell_set_by (j := 12) (cell_set_by (j := 11) (cell_set_by (j := 10) (cell_set_by (j := 9) (cell_set_by (j := 8) (cell_set_by (j := 7) (cell_set_by (j := 6) (cell_set_by (j := 5) (cell_set_by (j := 4) (cell_set_at (cell_set_by (j := 2) (cell_set_by (j := 1) (cell_set_by (j := 0) c3 (by omega)) (by omega)) (by omega))) (by omega)) (by omega)) (by omega)) (by omega)) (by omega)) (by omega)) (by omega)) (by omega)) (by omega)) (by omega))
  · exact (cell_set_by (j := 13) (cell_set_by (j := 12) (cell_set_by (j := 11) (cell_set_by (j := 10) (cell_set_by (j := 9) (cell_set_by (j := 8) (cell_set_by (j := 7) (cell_set_by (j := 6) (cell_set_by (j := 5) (cell_set_at (cell_set_by (j := 3) (cell_set_by (j := 2) (cell_set_by (j := 1) (cell_set_by (j := 0) c4 (by omega)) (by omega)) (by omega)) (by omega))) (by omega)) (by omega)) (by omega)) (by omega)) (by omega)) (by omega)) (by omega)) (by omega)) (by omega))
  · exact (cell_set_by (j := 13) (cell_set_by (j := 12) (cell_set_by (j := 11) (cell_set_by (j := 10) (cell_set_by (j := 9) (cell_set_by (j := 8) (cell_set_by (j := 7) (cell_set_by (j := 6) (cell_set_at (cell_set_by (j := 4) (cell_set_by (j := 3) (cell_set_by (j := 2) (cell_set_by (j := 1) (cell_set_by (j := 0) c5 (by omega)) (by omega)) (by omega)) (by omega)) (by omega))) (by omega)) (by omega)) (by omega)) (by omega)) (by omega)) (by omega)) (by omega)) (by omega))
  · exact (cell_set_by (j := 13) (cell_set_by (j := 12) (cell_set_by (j := 11) (cell_set_by (j := 10) (cell_set_by (j := 9) (cell_set_by (j := 8) (cell_set_by (j := 7) (cell_set_at (cell_set_by (j := 5) (cell_set_by (j := 4) (cell_set_by (j := 3) (cell_set_by (j := 2) (cell_set_by (j := 1) (cell_set_by (j := 0) c6 (by omega)) (by omega)) (by omega)) (by omega)) (by omega)) (by omega))) (by omega)) (by omega)) (by omega)) (by omega)) (by omega)) (by omega)) (by omega))
  · exact (cell_set_by (j := 13) (cell_set_by (j := 12) (cell_set_by (j := 11) (cell_set_by (j := 10) (cell_set_by (j := 9) (cell_set_by (j := 8) (cell_set_at (cell_set_by (j := 6) (cell_set_by (j := 5) (cell_set_by (j := 4) (cell_set_by (j := 3) (cell_set_by (j := 2) (cell_set_by (j := 1) (cell_set_by (j := 0) c7 (by omega)) (by omega)) (by omega)) (by omega)) (by omega)) (by omega)) (by omega))) (by omega)) (by omega)) (by omega)) (by omega)) (by omega)) (by omega))
  · exact (cell_set_by (j := 13) (cell_set_by (j := 12) (cell_set_by (j := 11) (cell_set_by (j := 10) (cell_set_by (j := 9) (cell_set_at (cell_set_by (j := 7) (cell_set_by (j := 6) (cell_set_by (j := 5) (cell_set_by (j := 4) (cell_set_by (j := 3) (cell_set_by (j := 2) (cell_set_by (j := 1) (cell_set_by (j := 0) c8 (by omega)) (by omega)) (by omega)) (by omega)) (by omega)) (by omega)) (by omega)) (by omega))) (by omega)) (by omega)) (by omega)) (by omega)) (by omega))
  · exact (cell_set_by (j := 13) (cell_set_by (j := 12) (cell_set_by (j := 11) (cell_set_by (j := 10) (cell_set_at (cell_set_by (j := 8) (cell_set_by (j := 7) (cell_set_by (j := 6) (cell_set_by (j := 5) (cell_set_by (j := 4) (cell_set_by (j := 3) (cell_set_by (j := 2) (cell_set_by (j := 1) (cell_set_by (j := 0) c9 (by omega)) (by omega)) (by omega)) (by omega)) (by omega)) (by omega)) (by omega)) (by omega)) (by omega))) (by omega)) (by omega)) (by omega)) (by omega))
  · exact (cell_set_by (j := 13) (cell_set_by (j := 12) (cell_set_by (j := 11) (cell_set_at (cell_set_by (j := 9) (cell_set_by (j := 8) (cell_set_by (j := 7) (cell_set_by (j := 6) (cell_set_by (j := 5) (cell_set_by (j := 4) (cell_set_by (j := 3) (cell_set_by (j := 2) (cell_set_by (j := 1) (cell_set_by (j := 0) c10 (by omega)) (by omega)) (by omega)) (by omega)) (by omega)) (by omega)) (by omega)) (by omega)) (by omega)) (by omega))) (by omega)) (by omega)) (by omega))
  · exact (cell_set_by (j := 13) (cell_set_by (j := 12) (cell_set_at (cell_set_by (j := 10) (cell_set_by (j := 9) (cell_set_by (j := 8) (cell_set_by (j := 7) (cell_set_by (j := 6) (cell_set_by (j := 5) (cell_set_by (j := 4) (cell_set_by (j := 3) (cell_set_by (j := 2) (cell_set_by (j := 1) (cell_set_by (j := 0) c11 (by omega)) (by omega)) (by omega)) (by omega)) (by omega)) (by omega)) (by omega)) (by omega)) (by omega)) (by omega)) (by omega))) (by omega)) (by omega))
  · exact (cell_set_by (j := 13) (cell_set_at (cell_set_by (j := 11) (cell_set_by (j := 10) (cell_set_by (j := 9) (cell_set_by (j := 8) (cell_set_by (j := 7) (cell_set_by (j := 6) (cell_set_by (j := 5) (cell_set_by (j := 4) (cell_set_by (j := 3) (cell_set_by (j := 2) (cell_set_by (j := 1) (cell_set_by (j := 0) c12 (by omega)) (by omega)) (by omega)) (by omega)) (by omega)) (by omega)) (by omega)) (by omega)) (by omega)) (by omega)) (by omega)) (by omega))) (by omega))
  · exact (cell_set_at (cell_set_by (j := 12) (cell_set_by (j := 11) (cell_set_by (j := 10) (cell_set_by (j := 9) (cell_set_by (j := 8) (cell_set_by (j := 7) (cell_set_by (j := 6) (cell_set_by (j := 5) (cell_set_by (j := 4) (cell_set_by (j := 3) (cell_set_by (j := 2) (cell_set_by (j := 1) (cell_set_by (j := 0) c13 (by omega)) (by omega)) (by omega)) (by omega)) (by omega)) (by omega)) (by omega)) (by omega)) (by omega)) (by omega)) (by omega)) (by omega)) (by omega)))
theorem V14.putK {w : World} {R : Nat} {x0 x1 x2 x3 x4 x5 x6 x7 x8 x9 x10 x11 x12 x13 : Value} (h : V14 w R x0 x1 x2 x3 x4 x5 x6 x7 x8 x9 x10 x11 x12 x13) (l0 : ¬ IsLimb x0) (l1 : ¬ IsLimb x1) (l2 : ¬ IsLimb x2) (l3 : ¬ IsLimb x3) (l4 : ¬ IsLimb x4) (l5 : ¬ IsLimb x5) (l6 : ¬ IsLimb x6) (l7 : ¬ IsLimb x7) (l8 : ¬ IsLimb x8) (l9 : ¬ IsLimb x9) (l10 : ¬ IsLimb x10) (l11 : ¬ IsLimb x11) (l12 : ¬ IsLimb x12) (l13 : ¬ IsLimb x13) (u0 u1 u2 u3 u4 u5 u6 u7 u8 u9 u10 u11 u12 u13 : Value) : KeepQ IsLimb w ((((((((((((((w.setCell ⟨R, 0, none⟩ u0).setCell ⟨R, 1, none⟩ u1).setCell ⟨R, 2, none⟩ u2).setCell ⟨R, 3, none⟩ u3).setCell ⟨R, 4, none⟩ u4).setCell ⟨R, 5, none⟩ u5).setCell ⟨R, 6, none⟩ u6).setCell ⟨R, 7, none⟩ u7).setCell ⟨R, 8, none⟩ u8).setCell ⟨R, 9, none⟩ u9).setCell ⟨R, 10, none⟩ u10).setCell ⟨R, 11, none⟩ u11).setCell ⟨R, 12, none⟩ u12).setCell ⟨R, 13, none⟩ u13) := by
  obtain ⟨c0, c1, c2, c3, c4, c5, c6, c7, c8, c9, c10, c11, c12, c13⟩ := h
  exact ((((((((((((((keepL_set c0 l0 u0).trans (keepL_set (cell_set_by (j := 0) c1 (by omega)) l1 u1)).trans (keepL_set (cell_set_by (j := 1) (cell_set_by (j := 0) c2 (by omega)) (by omega)) l2 u2)).trans (keepL_set (cell_set_by (j := 2) (cell_set_by (j := 1) (cell_set_by (j := 0) c3 (by omega)) (by omega)) (by omega)) l3 u3)).trans (keepL_set (cell_set_by (j := 3) (cell_set_by (j := 2) (cell_set_by (j := 1) (cell_set_by (j := 0) c4 (by omega)) (by omega)) (by omega)) (by omega)) l4 u4)).trans (keepL_set (cell_set_by (j := 4) (cell_set_by (j := 3) (cell_set_by (j := 2) (cell_set_by (j := 1) (cell_set_by (j := 0) c5 (by omega)) (by omega)) (by omega)) (by omega)) (by omega)) l5 u5)).trans (keepL_set (cell_set_by (j := 5) (cell_set_by (j := 4) (cell_set_by (j := 3) (cell_set_by (j := 2) (cell_set_by (j := 1) (cell_set_by (j := 0) c6 (by omega)) (by omega)) (by omega)) (by omega)) (by omega)) (by omega)) l6 u6)).trans (keepL_set (cell_set_by (j := 6) (cell_set_by (j := 5) (cell_set_by (j := 4) (cell_set_by (j := 3) (cell_set_by (j := 2) (cell_set_by (j := 1) (cell_set_by (j := 0) c7 (by omega)) (by omega)) (by omega)) (by omega)) (by omega)) (by omega)) (by omega)) l7 u7)).trans (keepL_set (cell_set_by (j := 7) (cell_set_by (j := 6) (cell_set_by (j := 5) (cell_set_by (j := 4) (cell_set_by (j := 3) (cell_set_by (j := 2) (cell_set_by (j := 1) (cell_set_by (j := 0) c8 (by omega)) (by omega)) (by omega)) (by omega)) (by omega)) (by omega)) (by omega)) (by omega)) l8 u8)).trans (keepL_set (cell_set_by (j := 8) (cell_set_by (j := 7) (cell_set_by (j := 6) (cell_set_by (j := 5) (cell_set_by (j := 4) (cell_set_by (j := 3) (cell_set_by (j := 2) (cell_set_by (j := 1) (cell_set_by (j := 0) c9 (by omega)) (by omega)) (by omega)) (by omega)) (by omega)) (by omega)) (by omega)) (by omega)) (by omega)) l9 u9)).trans (keepL_set (cell_set_by (j := 9) (cell_set_by (j := 8) (cell_set_by (j := 7) (cell_set_by (j := 6) (cell_set_by (j := 5) (cell_set_by (j := 4) (cell_set_by (j := 3) (cell_set_by (j := 2) (cell_set_by (j := 1) (cell_set_by (j := 0) c10 (by omega)) (by omega)) (by omega)) (by omega)) (by omega)) (by omega)) (by omega)) (by omega)) (by omega)) (by omega)) l10 u10)).trans (keepL_set (cell_set_by (j := 10) (cell_set_by (j := 9) (cell_set_by (j := 8) (cell_set_by (j := 7) (cell_set_by (j := 6) (cell_set_by (j := 5) (cell_set_by (j := 4) (cell_set_by (j := 3) (cell_set_by (j := 2) (cell_set_by (j := 1) (cell_set_by (j := 0) c11 (by omega)) (by omega)) (by omega)) (by omega)) (by omega)) (by omega)) (by omega)) (by omega)) (by omega)) (by omega)) (by omega)) l11 u11)).trans (keepL_set (cell_set_by (j := 11) (cell_set_by (j := 10) (cell_set_by (j := 9) (cell_set_by (j := 8) (cell_set_by (j := 7) (cell_set_by (j := 6) (cell_set_by (j := 5) (cell_set_by (j := 4) (cell_set_by (j := 3) (cell_set_by (j := 2) (cell_set_by (j := 1) (cell_set_by (j := 0) c12 (by omega)) (by omega)) (by omega)) (by omega)) (by omega)) (by omega)) (by omega)) (by omega)) (by omega)) (by omega)) (by omega)) (by omega)) l12 u12)).trans (keepL_set (cell_set_by (j := 12) (cell_set_by (j := 11) (cell_set_by (j := 10) (cell_set_by (j := 9) (cell_set_by (j := 8) (cell_set_by (j := 7) (cell_set_by (j := 6) (cell_set_by (j := 5) (cell_set_by (j := 4) (cell_set_by (j := 3) (cell_set_by (j := 2) (cell_set_by (j := 1) (cell_set_by (j := 0) c13 (by omega)) (by omega)) (by omega)) (by omega)) (by omega)) (by omega)) (by omega)) (by omega)) (by omega)) (by omega)) (by omega)) (by omega)) (by omega)) l13 u13))

end Go.Proofs.YtbelnhpjhpoacaaDoor

namespace Go.Proofs.YtbelnhpjhpoacaaDoor
open Go.RowKit
set_option linter.unusedVariables false
set_option linter.unusedSimpArgs false

/-- A node's variable that may be written. -/
def VS14 (w : World) (R : Nat) (x0 x1 x2 x3 x4 x5 x6 x7 x8 x9 x10 x11 x12 x13 : Value) : Prop := V14 w R x0 x1 x2 x3 x4 x5 x6 x7 x8 x9 x10 x11 x12 x13 ∧ ∀ j, w.frozen? ⟨R, j, none⟩ = false
theorem VS14.below {w w' : World} {R : Nat} {x0 x1 x2 x3 x4 x5 x6 x7 x8 x9 x10 x11 x12 x13 : Value} (h : VS14 w R x0 x1 x2 x3 x4 x5 x6 x7 x8 x9 x10 x11 x12 x13) (hb : Below w.heap.size w w') : VS14 w' R x0 x1 x2 x3 x4 x5 x6 x7 x8 x9 x10 x11 x12 x13 := ⟨h.1.below hb, soft_below h.2 h.1.lt hb⟩
/-- It is set. -/
def put14 (w : World) (R : Nat) (u0 u1 u2 u3 u4 u5 u6 u7 u8 u9 u10 u11 u12 u13 : Value) : World := (((((((((((((w.setCell ⟨R, 0, none⟩ u0).setCell ⟨R, 1, none⟩ u1).setCell ⟨R, 2, none⟩ u2).setCell ⟨R, 3, none⟩ u3).setCell ⟨R, 4, none⟩ u4).setCell ⟨R, 5, none⟩ u5).setCell ⟨R, 6, none⟩ u6).setCell ⟨R, 7, none⟩ u7).setCell ⟨R, 8, none⟩ u8).setCell ⟨R, 9, none⟩ u9).setCell ⟨R, 10, none⟩ u10).setCell ⟨R, 11, none⟩ u11).setCell ⟨R, 12, none⟩ u12).setCell ⟨R, 13, none⟩ u13
theorem put14_below {B : Nat} {a w : World} {R : Nat} (h : Below B a w) (hR : B ≤ R) (u0 u1 u2 u3 u4 u5 u6 u7 u8 u9 u10 u11 u12 u13 : Value) : Below B a (put14 w R u0 u1 u2 u3 u4 u5 u6 u7 u8 u9 u10 u11 u12 u13) := (((((((((((((h.setCell hR _).setCell hR _).setCell hR _).setCell hR _).setCell hR _).setCell hR _).setCell hR _).setCell hR _).setCell hR _).setCell hR _).setCell hR _).setCell hR _).setCell hR _).setCell hR _


set_option maxRecDepth 100000 in
set_option maxHeartbeats 8000000 in
theorem tidyN_at (d : Nd) (p1 p2 p3 : Bool) (a1 b1 a2 b2 a3 b3 : Option Addr) (n1 c1 m1 d1 n2 c2 m2 d2 n3 c3 m3 d3 : Nat) (L : Nat) (w : World) (hu : RatAt w (.agg #[.bool p1, .slice a1 n1 c1, .slice b1 m1 d1]) d.cut L) (hv : RatAt w (.agg #[.bool p2, .slice a2 n2 c2, .slice b2 m2 d2]) d.val L) (hc : RatAt w (.agg #[.bool p3, .slice a3 n3 c3, .slice b3 m3 d3]) d.cov L) (h1 : 1 ≤ L) (hM : L ≤ 9000) (ht : Tab w) :
    Calls Tryd.prog 14 #[.agg #[.bool d.leaf, .int .i64 d.feat, .bool p1, .slice a1 n1 c1, .slice b1 m1 d1, .int .i64 d.left, .int .i64 d.right, .bool d.miss, .bool p2, .slice a2 n2 c2, .slice b2 m2 d2, .bool p3, .slice a3 n3 c3, .slice b3 m3 d3]] w fun e w' => ∃ el : Nat → Value, e = .returned (.agg #[el 0, el 1, el 2, el 3, el 4, el 5, el 6, el 7, el 8, el 9, el 10, el 11, el 12, el 13]) ∧ TNode w' el (tidN d) ∧ Below w.heap.size w w' := by
  rcases d with ⟨lf, ft, q, ll, rr, ms, vl, cv⟩
  dsimp only at hu hv hc ⊢
  cases lf
  · have BB : Below w.heap.size w w := Below.refl _ _
    obtain ⟨W0, hW0, hS0, hL0, VN, FN⟩ := V14.lay w 37 (.bool false) (.int .i64 ft) (.bool p1) (.slice a1 n1 c1) (.slice b1 m1 d1) (.int .i64 ll) (.int .i64 rr) (.bool ms) (.bool p2) (.slice a2 n2 c2) (.slice b2 m2 d2) (.bool p3) (.slice a3 n3 c3) (.slice b3 m3 d3)
    obtain ⟨W1, hW1, hS1, hL1, VO, FO⟩ := V14.lay W0 37 (.bool false) (.int .i64 0) (.bool false) (.slice none 0 0) (.slice none 0 0) (.int .i64 0) (.int .i64 0) (.bool false) (.bool false) (.slice none 0 0) (.slice none 0 0) (.bool false) (.slice none 0 0) (.slice none 0 0)
    replace hu := (hu.below hL0).below hL1
    replace hv := (hv.below hL0).below hL1
    replace hc := (hc.below hL0).below hL1
    replace ht := (ht.below hL0).below hL1
    replace VN := VN.below hL1
    replace BB := (BB.trans (hL0.mono BB.size)).trans (hL1.mono (by omega))
    clear hL0 hL1
    have VZ : VS14 W1 W0.heap.size (.bool false) (.int .i64 0) (.bool false) (.slice none 0 0) (.slice none 0 0) (.int .i64 0) (.int .i64 0) (.bool false) (.bool false) (.slice none 0 0) (.slice none 0 0) (.bool false) (.slice none 0 0) (.slice none 0 0) := ⟨VO, FO⟩
    rw [hS0] at VZ
    clear VO FO FN
    obtain ⟨V_0, V_1, V_2, V_3, V_4, V_5, V_6, V_7, V_8, V_9, V_10, V_11, V_12, V_13⟩ := id VN
    rw [hW1, hW0] at V_0 V_1 V_2 V_3 V_4 V_5 V_6 V_7 V_8 V_9 V_10 V_11 V_12 V_13
    go_enter Tryd.func14, Tryd.ntmps14
    go_wp2_with fail
    clear V_0 V_1 V_2 V_3 V_4 V_5 V_6 V_7 V_8 V_9 V_10 V_11 V_12 V_13
    rw [← hW0, ← hW1]
    clear hW0 hW1 hS1 hS0
    refine (qclean_at _ cv L _ hc h1 (by omega) ht).mono ?_
    rintro e w1 ⟨rc, rfl, hcv, b1⟩
    replace hu := hu.below b1
    replace hv := hv.below b1
    replace ht := ht.below b1
    replace VN := VN.below b1
    replace VZ := VZ.below b1
    replace BB := BB.trans (b1.mono BB.size)
    clear b1 hc
    obtain ⟨pc, ac, nc, cc, bc, mc, dc, rfl⟩ := hcv.open
    obtain ⟨W3, hW3, hS3, hL3, VC⟩ := V3.lay w1 35 (.bool pc) (.slice ac nc cc) (.slice bc mc dc)
    have hR3 : w.heap.size + 1 < w1.heap.size := VZ.1.lt
    replace hu := hu.below hL3
    replace hv := hv.below hL3
    replace ht := ht.below hL3
    replace VN := VN.below hL3
    replace VZ := VZ.below hL3
    replace hcv := hcv.below hL3
    replace BB := BB.trans (hL3.mono BB.size)
    clear hL3
    obtain ⟨V_0, V_1, V_2, V_3, V_4, V_5, V_6, V_7, V_8, V_9, V_10, V_11, V_12, V_13⟩ := id VN
    rw [hW3] at V_0 V_1 V_2 V_3 V_4 V_5 V_6 V_7 V_8 V_9 V_10 V_11 V_12 V_13
    go_wp2_with fail
    clear V_0 V_1 V_2 V_3 V_4 V_5 V_6 V_7 V_8 V_9 V_10 V_11 V_12 V_13
    rw [← hW3]
    clear hW3 hS3
    generalize w1.heap.size = R3 at *
    clear hv
    refine wp_region_until 12 #[true, true, true, true, true, true, true, true, true, true, true, true, false, false] (fun aF lsd a' w' => ∃ vu0 vu1 vu2 vu3 vu4 vu5 vu6 vu7 vu8 vu9 vu10 vu11 : Value, a' = (((((((((((aF.put (some 14) vu0).put (some 15) vu1).put (some 16) vu2).put (some 17) vu3).put (some 18) vu4).put (some 19) vu5).put (some 20) vu6).put (some 21) vu7).put (some 22) vu8).put (some 23) vu9).put (some 24) vu10).put (some 25) vu11 ∧ Below W3.heap.size W3 w' ∧ (lsd.getD 0 false = true → vu0 = .pointer (some ⟨w.heap.size, 1, none⟩)) ∧ (lsd.getD 1 false = true → vu1 = .int .i64 ft) ∧ (lsd.getD 2 false = true → vu2 = .pointer (some ⟨w.heap.size, 2, none⟩)) ∧ (lsd.getD 3 false = true → vu3 = .agg #[.bool p1, .slice a1 n1 c1, .slice b1 m1 d1]) ∧ (lsd.getD 4 false = true → RepQ w' vu4 q) ∧ (lsd.getD 5 false = true → vu5 = .pointer (some ⟨w.heap.size, 5, none⟩)) ∧ (lsd.getD 6 false = true → vu6 = .int .i64 ll) ∧ (lsd.getD 7 false = true → vu7 = .pointer (some ⟨w.heap.size, 6, none⟩)) ∧ (lsd.getD 8 false = true → vu8 = .int .i64 rr) ∧ (lsd.getD 9 false = true → vu9 = .pointer (some ⟨w.heap.size, 7, none⟩)) ∧ (lsd.getD 10 false = true → vu10 = .bool ms) ∧ (lsd.getD 11 false = true → vu11 = .agg #[.bool pc, .slice ac nc cc, .slice bc mc dc])) (by kernel_rfl) (by decide) (by kernel_rfl) (by rfl) (by kernel_rfl) ?_ ?_ ?_
    · exact ⟨_, _, _, _, _, _, _, _, _, _, _, _, by simp only [Act.put, List.setIfInBounds_toArray, List.set_cons_zero, List.set_cons_succ]; rfl, (Below.refl _ _).drew, fun h => absurd h (fun h => mark_none h), fun h => absurd h (fun h => mark_none h), fun h => absurd h (fun h => mark_none h), fun h => absurd h (fun h => mark_none h), fun h => absurd h (fun h => mark_none h), fun h => absurd h (fun h => mark_none h), fun h => absurd h (fun h => mark_none h), fun h => absurd h (fun h => mark_none h), fun h => absurd h (fun h => mark_none h), fun h => absurd h (fun h => mark_none h), fun h => absurd h (fun h => mark_none h), fun h => absurd h (fun h => mark_none h)⟩
    · rintro lsd au wn iu hszu ⟨vu0, vu1, vu2, vu3, vu4, vu5, vu6, vu7, vu8, vu9, vu10, vu11, rfl, hbu, fu0, fu1, fu2, fu3, fu4, fu5, fu6, fu7, fu8, fu9, fu10, fu11⟩ himu hru
      rcases (show iu = 0 ∨ iu = 1 ∨ iu = 2 ∨ iu = 3 ∨ iu = 4 ∨ iu = 5 ∨ iu = 6 ∨ iu = 7 ∨ iu = 8 ∨ iu = 9 ∨ iu = 10 ∨ iu = 11 by omega) with rfl | rfl | rfl | rfl | rfl | rfl | rfl | rfl | rfl | rfl | rfl | rfl
      · refine wpOp_shut (by rfl) (fun K hK => ?_)
        simp only [Act.put, List.setIfInBounds_toArray, List.set_cons_zero, List.set_cons_succ]
        go_simp
        exact hK.out _ _ ⟨(.pointer (some ⟨w.heap.size, 1, none⟩)), vu1, vu2, vu3, vu4, vu5, vu6, vu7, vu8, vu9, vu10, vu11, by simp only [Act.put, List.setIfInBounds_toArray, List.set_cons_zero, List.set_cons_succ], hbu, fun _ => rfl, fun h => fu1 (mark_of (by decide) h), fun h => fu2 (mark_of (by decide) h), fun h => fu3 (mark_of (by decide) h), fun h => fu4 (mark_of (by decide) h), fun h => fu5 (mark_of (by decide) h), fun h => fu6 (mark_of (by decide) h), fun h => fu7 (mark_of (by decide) h), fun h => fu8 (mark_of (by decide) h), fun h => fu9 (mark_of (by decide) h), fun h => fu10 (mark_of (by decide) h), fun h => fu11 (mark_of (by decide) h)⟩
      · have eu0 := fu0 (dep_of 0 hru rfl (by kernel_rfl))
        replace eu0 := eu0.symm
        subst eu0
        refine wpOp_shut (by rfl) (fun K hK => ?_)
        simp only [Act.put, List.setIfInBounds_toArray, List.set_cons_zero, List.set_cons_succ]
        obtain ⟨V_0, V_1, V_2, V_3, V_4, V_5, V_6, V_7, V_8, V_9, V_10, V_11, V_12, V_13⟩ := VN.below hbu
        go_simp
        exact hK.out _ _ ⟨(.pointer (some ⟨w.heap.size, 1, none⟩)), (.int .i64 ft), vu2, vu3, vu4, vu5, vu6, vu7, vu8, vu9, vu10, vu11, by simp only [Act.put, List.setIfInBounds_toArray, List.set_cons_zero, List.set_cons_succ], hbu, fun _ => rfl, fun _ => rfl, fun h => fu2 (mark_of (by decide) h), fun h => fu3 (mark_of (by decide) h), fun h => fu4 (mark_of (by decide) h), fun h => fu5 (mark_of (by decide) h), fun h => fu6 (mark_of (by decide) h), fun h => fu7 (mark_of (by decide) h), fun h => fu8 (mark_of (by decide) h), fun h => fu9 (mark_of (by decide) h), fun h => fu10 (mark_of (by decide) h), fun h => fu11 (mark_of (by decide) h)⟩
      · refine wpOp_shut (by rfl) (fun K hK => ?_)
        simp only [Act.put, List.setIfInBounds_toArray, List.set_cons_zero, List.set_cons_succ]
        go_simp
        exact hK.out _ _ ⟨vu0, vu1, (.pointer (some ⟨w.heap.size, 2, none⟩)), vu3, vu4, vu5, vu6, vu7, vu8, vu9, vu10, vu11, by simp only [Act.put, List.setIfInBounds_toArray, List.set_cons_zero, List.set_cons_succ], hbu, fun h => fu0 (mark_of (by decide) h), fun h => fu1 (mark_of (by decide) h), fun _ => rfl, fun h => fu3 (mark_of (by decide) h), fun h => fu4 (mark_of (by decide) h), fun h => fu5 (mark_of (by decide) h), fun h => fu6 (mark_of (by decide) h), fun h => fu7 (mark_of (by decide) h), fun h => fu8 (mark_of (by decide) h), fun h => fu9 (mark_of (by decide) h), fun h => fu10 (mark_of (by decide) h), fun h => fu11 (mark_of (by decide) h)⟩
      · have eu2 := fu2 (dep_of 2 hru rfl (by kernel_rfl))
        replace eu2 := eu2.symm
        subst eu2
        refine wpOp_shut (by rfl) (fun K hK => ?_)
        simp only [Act.put, List.setIfInBounds_toArray, List.set_cons_zero, List.set_cons_succ]
        obtain ⟨V_0, V_1, V_2, V_3, V_4, V_5, V_6, V_7, V_8, V_9, V_10, V_11, V_12, V_13⟩ := VN.below hbu
        go_simp
        exact hK.out _ _ ⟨vu0, vu1, (.pointer (some ⟨w.heap.size, 2, none⟩)), (.agg #[.bool p1, .slice a1 n1 c1, .slice b1 m1 d1]), vu4, vu5, vu6, vu7, vu8, vu9, vu10, vu11, by simp only [Act.put, List.setIfInBounds_toArray, List.set_cons_zero, List.set_cons_succ], hbu, fun h => fu0 (mark_of (by decide) h), fun h => fu1 (mark_of (by decide) h), fun _ => rfl, fun _ => rfl, fun h => fu4 (mark_of (by decide) h), fun h => fu5 (mark_of (by decide) h), fun h => fu6 (mark_of (by decide) h), fun h => fu7 (mark_of (by decide) h), fun h => fu8 (mark_of (by decide) h), fun h => fu9 (mark_of (by decide) h), fun h => fu10 (mark_of (by decide) h), fun h => fu11 (mark_of (by decide) h)⟩
      · have eu3 := fu3 (dep_of 3 hru rfl (by kernel_rfl))
        replace eu3 := eu3.symm
        subst eu3
        refine wpOp_shut (by rfl) (fun K hK => ?_)
        simp only [Act.put, List.setIfInBounds_toArray, List.set_cons_zero, List.set_cons_succ]
        have ht := ht.below hbu
        have hu := hu.below hbu
        go_simp
        refine (qclean_at _ q L wn hu h1 (by omega) ht).mono ?_
        rintro eu wx ⟨x2, rfl, hx, bu⟩
        go_wp2_with fail
        have hbu2 := hbu.trans (bu.mono hbu.size)
        exact hK.out _ _ ⟨vu0, vu1, vu2, (.agg #[.bool p1, .slice a1 n1 c1, .slice b1 m1 d1]), _, vu5, vu6, vu7, vu8, vu9, vu10, vu11, by simp only [Act.put, List.setIfInBounds_toArray, List.set_cons_zero, List.set_cons_succ], hbu2, fun h => fu0 (mark_of (by decide) h), fun h => fu1 (mark_of (by decide) h), fun h => fu2 (mark_of (by decide) h), fun _ => rfl, fun _ => hx, fun h => fu5 (mark_of (by decide) h), fun h => fu6 (mark_of (by decide) h), fun h => fu7 (mark_of (by decide) h), fun h => fu8 (mark_of (by decide) h), fun h => fu9 (mark_of (by decide) h), fun h => fu10 (mark_of (by decide) h), fun h => fu11 (mark_of (by decide) h)⟩
      · refine wpOp_shut (by rfl) (fun K hK => ?_)
        simp only [Act.put, List.setIfInBounds_toArray, List.set_cons_zero, List.set_cons_succ]
        go_simp
        exact hK.out _ _ ⟨vu0, vu1, vu2, vu3, vu4, (.pointer (some ⟨w.heap.size, 5, none⟩)), vu6, vu7, vu8, vu9, vu10, vu11, by simp only [Act.put, List.setIfInBounds_toArray, List.set_cons_zero, List.set_cons_succ], hbu, fun h => fu0 (mark_of (by decide) h), fun h => fu1 (mark_of (by decide) h), fun h => fu2 (mark_of (by decide) h), fun h => fu3 (mark_of (by decide) h), fun h => fu4 (mark_of (by decide) h), fun _ => rfl, fun h => fu6 (mark_of (by decide) h), fun h => fu7 (mark_of (by decide) h), fun h => fu8 (mark_of (by decide) h), fun h => fu9 (mark_of (by decide) h), fun h => fu10 (mark_of (by decide) h), fun h => fu11 (mark_of (by decide) h)⟩
      · have eu5 := fu5 (dep_of 5 hru rfl (by kernel_rfl))
        replace eu5 := eu5.symm
        subst eu5
        refine wpOp_shut (by rfl) (fun K hK => ?_)
        simp only [Act.put, List.setIfInBounds_toArray, List.set_cons_zero, List.set_cons_succ]
        obtain ⟨V_0, V_1, V_2, V_3, V_4, V_5, V_6, V_7, V_8, V_9, V_10, V_11, V_12, V_13⟩ := VN.below hbu
        go_simp
        exact hK.out _ _ ⟨vu0, vu1, vu2, vu3, vu4, (.pointer (some ⟨w.heap.size, 5, none⟩)), (.int .i64 ll), vu7, vu8, vu9, vu10, vu11, by simp only [Act.put, List.setIfInBounds_toArray, List.set_cons_zero, List.set_cons_succ], hbu, fun h => fu0 (mark_of (by decide) h), fun h => fu1 (mark_of (by decide) h), fun h => fu2 (mark_of (by decide) h), fun h => fu3 (mark_of (by decide) h), fun h => fu4 (mark_of (by decide) h), fun _ => rfl, fun _ => rfl, fun h => fu7 (mark_of (by decide) h), fun h => fu8 (mark_of (by decide) h), fun h => fu9 (mark_of (by decide) h), fun h => fu10 (mark_of (by decide) h), fun h => fu11 (mark_of (by decide) h)⟩
      · refine wpOp_shut (by rfl) (fun K hK => ?_)
        simp only [Act.put, List.setIfInBounds_toArray, List.set_cons_zero, List.set_cons_succ]
        go_simp
        exact hK.out _ _ ⟨vu0, vu1, vu2, vu3, vu4, vu5, vu6, (.pointer (some ⟨w.heap.size, 6, none⟩)), vu8, vu9, vu10, vu11, by simp only [Act.put, List.setIfInBounds_toArray, List.set_cons_zero, List.set_cons_succ], hbu, fun h => fu0 (mark_of (by decide) h), fun h => fu1 (mark_of (by decide) h), fun h => fu2 (mark_of (by decide) h), fun h => fu3 (mark_of (by decide) h), fun h => fu4 (mark_of (by decide) h), fun h => fu5 (mark_of (by decide) h), fun h => fu6 (mark_of (by decide) h), fun _ => rfl, fun h => fu8 (mark_of (by decide) h), fun h => fu9 (mark_of (by decide) h), fun h => fu10 (mark_of (by decide) h), fun h => fu11 (mark_of (by decide) h)⟩
      · have eu7 := fu7 (dep_of 7 hru rfl (by kernel_rfl))
        replace eu7 := eu7.symm
        subst eu7
        refine wpOp_shut (by rfl) (fun K hK => ?_)
        simp only [Act.put, List.setIfInBounds_toArray, List.set_cons_zero, List.set_cons_succ]
        obtain ⟨V_0, V_1, V_2, V_3, V_4, V_5, V_6, V_7, V_8, V_9, V_10, V_11, V_12, V_13⟩ := VN.below hbu
        go_simp
        exact hK.out _ _ ⟨vu0, vu1, vu2, vu3, vu4, vu5, vu6, (.pointer (some ⟨w.heap.size, 6, none⟩)), (.int .i64 rr), vu9, vu10, vu11, by simp only [Act.put, List.setIfInBounds_toArray, List.set_cons_zero, List.set_cons_succ], hbu, fun h => fu0 (mark_of (by decide) h), fun h => fu1 (mark_of (by decide) h), fun h => fu2 (mark_of (by decide) h), fun h => fu3 (mark_of (by decide) h), fun h => fu4 (mark_of (by decide) h), fun h => fu5 (mark_of (by decide) h), fun h => fu6 (mark_of (by decide) h), fun _ => rfl, fun _ => rfl, fun h => fu9 (mark_of (by decide) h), fun h => fu10 (mark_of (by decide) h), fun h => fu11 (mark_of (by decide) h)⟩
      · refine wpOp_shut (by rfl) (fun K hK => ?_)
        simp only [Act.put, List.setIfInBounds_toArray, List.set_cons_zero, List.set_cons_succ]
        go_simp
        exact hK.out _ _ ⟨vu0, vu1, vu2, vu3, vu4, vu5, vu6, vu7, vu8, (.pointer (some ⟨w.heap.size, 7, none⟩)), vu10, vu11, by simp only [Act.put, List.setIfInBounds_toArray, List.set_cons_zero, List.set_cons_succ], hbu, fun h => fu0 (mark_of (by decide) h), fun h => fu1 (mark_of (by decide) h), fun h => fu2 (mark_of (by decide) h), fun h => fu3 (mark_of (by decide) h), fun h => fu4 (mark_of (by decide) h), fun h => fu5 (mark_of (by decide) h), fun h => fu6 (mark_of (by decide) h), fun h => fu7 (mark_of (by decide) h), fun h => fu8 (mark_of (by decide) h), fun _ => rfl, fun h => fu10 (mark_of (by decide) h), fun h => fu11 (mark_of (by decide) h)⟩
      · have eu9 := fu9 (dep_of 9 hru rfl (by kernel_rfl))
        replace eu9 := eu9.symm
        subst eu9
        refine wpOp_shut (by rfl) (fun K hK => ?_)
        simp only [Act.put, List.setIfInBounds_toArray, List.set_cons_zero, List.set_cons_succ]
        obtain ⟨V_0, V_1, V_2, V_3, V_4, V_5, V_6, V_7, V_8, V_9, V_10, V_11, V_12, V_13⟩ := VN.below hbu
        go_simp
        exact hK.out _ _ ⟨vu0, vu1, vu2, vu3, vu4, vu5, vu6, vu7, vu8, (.pointer (some ⟨w.heap.size, 7, none⟩)), (.bool ms), vu11, by simp only [Act.put, List.setIfInBounds_toArray, List.set_cons_zero, List.set_cons_succ], hbu, fun h => fu0 (mark_of (by decide) h), fun h => fu1 (mark_of (by decide) h), fun h => fu2 (mark_of (by decide) h), fun h => fu3 (mark_of (by decide) h), fun h => fu4 (mark_of (by decide) h), fun h => fu5 (mark_of (by decide) h), fun h => fu6 (mark_of (by decide) h), fun h => fu7 (mark_of (by decide) h), fun h => fu8 (mark_of (by decide) h), fun _ => rfl, fun _ => rfl, fun h => fu11 (mark_of (by decide) h)⟩
      · refine wpOp_shut (by rfl) (fun K hK => ?_)
        simp only [Act.put, List.setIfInBounds_toArray, List.set_cons_zero, List.set_cons_succ]
        obtain ⟨VC_0, VC_1, VC_2, VC_3, VC_4, VC_5⟩ := VC.below hbu
        go_simp
        exact hK.out _ _ ⟨vu0, vu1, vu2, vu3, vu4, vu5, vu6, vu7, vu8, vu9, vu10, (.agg #[.bool pc, .slice ac nc cc, .slice bc mc dc]), by simp only [Act.put, List.setIfInBounds_toArray, List.set_cons_zero, List.set_cons_succ], hbu, fun h => fu0 (mark_of (by decide) h), fun h => fu1 (mark_of (by decide) h), fun h => fu2 (mark_of (by decide) h), fun h => fu3 (mark_of (by decide) h), fun h => fu4 (mark_of (by decide) h), fun h => fu5 (mark_of (by decide) h), fun h => fu6 (mark_of (by decide) h), fun h => fu7 (mark_of (by decide) h), fun h => fu8 (mark_of (by decide) h), fun h => fu9 (mark_of (by decide) h), fun h => fu10 (mark_of (by decide) h), fun _ => rfl⟩
    rintro au Wu1 ⟨vu0, vu1, vu2, vu3, vu4, vu5, vu6, vu7, vu8, vu9, vu10, vu11, rfl, hbu, fu0, fu1, fu2, fu3, fu4, fu5, fu6, fu7, fu8, fu9, fu10, fu11⟩
    have eu0 := (fu0 rfl).symm
    subst eu0
    have eu1 := (fu1 rfl).symm
    subst eu1
    have eu2 := (fu2 rfl).symm
    subst eu2
    have eu3 := (fu3 rfl).symm
    subst eu3
    have hx := fu4 rfl
    have eu5 := (fu5 rfl).symm
    subst eu5
    have eu6 := (fu6 rfl).symm
    subst eu6
    have eu7 := (fu7 rfl).symm
    subst eu7
    have eu8 := (fu8 rfl).symm
    subst eu8
    have eu9 := (fu9 rfl).symm
    subst eu9
    have eu10 := (fu10 rfl).symm
    subst eu10
    have eu11 := (fu11 rfl).symm
    subst eu11
    clear fu0 fu1 fu2 fu3 fu4 fu5 fu6 fu7 fu8 fu9 fu10 fu11
    have hlVC : R3 < W3.heap.size := VC.lt
    replace ht := ht.below hbu
    replace VN := VN.below hbu
    replace VZ := VZ.below hbu
    replace hcv := hcv.below hbu
    replace hu := hu.below hbu
    replace VC := VC.below hbu
    replace BB := BB.trans (hbu.mono BB.size)
    clear hbu
    obtain ⟨px, ax, nx, cx, bx, mx, dx, rfl⟩ := hx.open
    simp only [Act.put, List.setIfInBounds_toArray, List.set_cons_zero, List.set_cons_succ]
    refine wpAnyH_ready (rs := [12]) (by kernel_rfl) (by simp) ?_
    refine AllReadyH.cons (by rfl) (fun K hK => ?_) AllReadyH.nil
    go_simp
    refine hK.out _ _ trivial (fun _ => ?_)
    clear hK K
    simp only [Act.put, List.setIfInBounds_toArray, List.set_cons_zero, List.set_cons_succ]
    refine wpAnyH_ready (rs := [13]) (by kernel_rfl) (by simp) ?_
    refine AllReadyH.cons (by rfl) (fun K hK => ?_) AllReadyH.nil
    obtain ⟨⟨Z_0, Z_1, Z_2, Z_3, Z_4, Z_5, Z_6, Z_7, Z_8, Z_9, Z_10, Z_11, Z_12, Z_13⟩, FZ⟩ := id VZ
    have K : KeepQ IsLimb Wu1 (put14 Wu1 (w.heap.size + 1) (.bool false) (.int .i64 ft) (.bool px) (.slice ax nx cx) (.slice bx mx dx) (.int .i64 ll) (.int .i64 rr) (.bool ms) (.bool false) (.slice none 0 0) (.slice none 0 0) (.bool pc) (.slice ac nc cc) (.slice bc mc dc)) := VZ.1.putK (limb_bool _) (limb_int _) (limb_bool _) (limb_slice _ _ _) (limb_slice _ _ _) (limb_int _) (limb_int _) (limb_bool _) (limb_bool _) (limb_slice _ _ _) (limb_slice _ _ _) (limb_bool _) (limb_slice _ _ _) (limb_slice _ _ _) (.bool false) (.int .i64 ft) (.bool px) (.slice ax nx cx) (.slice bx mx dx) (.int .i64 ll) (.int .i64 rr) (.bool ms) (.bool false) (.slice none 0 0) (.slice none 0 0) (.bool pc) (.slice ac nc cc) (.slice bc mc dc)
    have VO : V14 (put14 Wu1 (w.heap.size + 1) (.bool false) (.int .i64 ft) (.bool px) (.slice ax nx cx) (.slice bx mx dx) (.int .i64 ll) (.int .i64 rr) (.bool ms) (.bool false) (.slice none 0 0) (.slice none 0 0) (.bool pc) (.slice ac nc cc) (.slice bc mc dc)) (w.heap.size + 1) (.bool false) (.int .i64 ft) (.bool px) (.slice ax nx cx) (.slice bx mx dx) (.int .i64 ll) (.int .i64 rr) (.bool ms) (.bool false) (.slice none 0 0) (.slice none 0 0) (.bool pc) (.slice ac nc cc) (.slice bc mc dc) := VZ.1.put (.bool false) (.int .i64 ft) (.bool px) (.slice ax nx cx) (.slice bx mx dx) (.int .i64 ll) (.int .i64 rr) (.bool ms) (.bool false) (.slice none 0 0) (.slice none 0 0) (.bool pc) (.slice ac nc cc) (.slice bc mc dc)
    have BB2 : Below w.heap.size w (put14 Wu1 (w.heap.size + 1) (.bool false) (.int .i64 ft) (.bool px) (.slice ax nx cx) (.slice bx mx dx) (.int .i64 ll) (.int .i64 rr) (.bool ms) (.bool false) (.slice none 0 0) (.slice none 0 0) (.bool pc) (.slice ac nc cc) (.slice bc mc dc)) := put14_below BB (by omega) _ _ _ _ _ _ _ _ _ _ _ _ _ _
    have hx2 := hx.keepL K
    have hc2 := hcv.keepL K
    unfold put14 at VO BB2 hx2 hc2
    obtain ⟨Y_0, Y_1, Y_2, Y_3, Y_4, Y_5, Y_6, Y_7, Y_8, Y_9, Y_10, Y_11, Y_12, Y_13⟩ := id VO
    go_simp
    refine hK.out _ _ trivial (fun _ => ?_)
    clear hK K
    simp only [Act.put, List.setIfInBounds_toArray, List.set_cons_zero, List.set_cons_succ]
    refine wpAnyH_done (by kernel_rfl) ?_ _
    clear Z_0 Z_1 Z_2 Z_3 Z_4 Z_5 Z_6 Z_7 Z_8 Z_9 Z_10 Z_11 Z_12 Z_13 FZ K VZ VN VC hx hcv
    go_wp2_with fail
    (try simp only [Exit.inBlock, Exit.then])
    refine bodyPost_ret (v := .agg #[.bool false, .int .i64 ft, .bool px, .slice ax nx cx, .slice bx mx dx, .int .i64 ll, .int .i64 rr, .bool ms, .bool false, .slice none 0 0, .slice none 0 0, .bool pc, .slice ac nc cc, .slice bc mc dc]) (by simp [results, go_sem, Y_0, Y_1, Y_2, Y_3, Y_4, Y_5, Y_6, Y_7, Y_8, Y_9, Y_10, Y_11, Y_12, Y_13]) rfl ?_
    exact ⟨fun j => match j with | 0 => .bool false | 1 => .int .i64 ft | 2 => .bool px | 3 => .slice ax nx cx | 4 => .slice bx mx dx | 5 => .int .i64 ll | 6 => .int .i64 rr | 7 => .bool ms | 8 => .bool false | 9 => .slice none 0 0 | 10 => .slice none 0 0 | 11 => .bool pc | 12 => .slice ac nc cc | _ => .slice bc mc dc, rfl, ⟨rfl, rfl, hx2, rfl, rfl, rfl, ⟨rfl, rfl, rfl⟩, hc2⟩, BB2⟩
  · have BB : Below w.heap.size w w := Below.refl _ _
    obtain ⟨W0, hW0, hS0, hL0, VN, FN⟩ := V14.lay w 37 (.bool true) (.int .i64 ft) (.bool p1) (.slice a1 n1 c1) (.slice b1 m1 d1) (.int .i64 ll) (.int .i64 rr) (.bool ms) (.bool p2) (.slice a2 n2 c2) (.slice b2 m2 d2) (.bool p3) (.slice a3 n3 c3) (.slice b3 m3 d3)
    obtain ⟨W1, hW1, hS1, hL1, VO, FO⟩ := V14.lay W0 37 (.bool false) (.int .i64 0) (.bool false) (.slice none 0 0) (.slice none 0 0) (.int .i64 0) (.int .i64 0) (.bool false) (.bool false) (.slice none 0 0) (.slice none 0 0) (.bool false) (.slice none 0 0) (.slice none 0 0)
    replace hu := (hu.below hL0).below hL1
    replace hv := (hv.below hL0).below hL1
    replace hc := (hc.below hL0).below hL1
    replace ht := (ht.below hL0).below hL1
    replace VN := VN.below hL1
    replace BB := (BB.trans (hL0.mono BB.size)).trans (hL1.mono (by omega))
    clear hL0 hL1
    have VZ : VS14 W1 W0.heap.size (.bool false) (.int .i64 0) (.bool false) (.slice none 0 0) (.slice none 0 0) (.int .i64 0) (.int .i64 0) (.bool false) (.bool false) (.slice none 0 0) (.slice none 0 0) (.bool false) (.slice none 0 0) (.slice none 0 0) := ⟨VO, FO⟩
    rw [hS0] at VZ
    clear VO FO FN
    obtain ⟨V_0, V_1, V_2, V_3, V_4, V_5, V_6, V_7, V_8, V_9, V_10, V_11, V_12, V_13⟩ := id VN
    rw [hW1, hW0] at V_0 V_1 V_2 V_3 V_4 V_5 V_6 V_7 V_8 V_9 V_10 V_11 V_12 V_13
    go_enter Tryd.func14, Tryd.ntmps14
    go_wp2_with fail
    clear V_0 V_1 V_2 V_3 V_4 V_5 V_6 V_7 V_8 V_9 V_10 V_11 V_12 V_13
    rw [← hW0, ← hW1]
    clear hW0 hW1 hS1 hS0
    refine (qclean_at _ cv L _ hc h1 (by omega) ht).mono ?_
    rintro e w1 ⟨rc, rfl, hcv, b1⟩
    replace hu := hu.below b1
    replace hv := hv.below b1
    replace ht := ht.below b1
    replace VN := VN.below b1
    replace VZ := VZ.below b1
    replace BB := BB.trans (b1.mono BB.size)
    clear b1 hc
    obtain ⟨pc, ac, nc, cc, bc, mc, dc, rfl⟩ := hcv.open
    obtain ⟨W3, hW3, hS3, hL3, VC⟩ := V3.lay w1 35 (.bool pc) (.slice ac nc cc) (.slice bc mc dc)
    have hR3 : w.heap.size + 1 < w1.heap.size := VZ.1.lt
    replace hu := hu.below hL3
    replace hv := hv.below hL3
    replace ht := ht.below hL3
    replace VN := VN.below hL3
    replace VZ := VZ.below hL3
    replace hcv := hcv.below hL3
    replace BB := BB.trans (hL3.mono BB.size)
    clear hL3
    obtain ⟨V_0, V_1, V_2, V_3, V_4, V_5, V_6, V_7, V_8, V_9, V_10, V_11, V_12, V_13⟩ := id VN
    rw [hW3] at V_0 V_1 V_2 V_3 V_4 V_5 V_6 V_7 V_8 V_9 V_10 V_11 V_12 V_13
    go_wp2_with fail
    clear V_0 V_1 V_2 V_3 V_4 V_5 V_6 V_7 V_8 V_9 V_10 V_11 V_12 V_13
    rw [← hW3]
    clear hW3 hS3
    generalize w1.heap.size = R3 at *
    clear hu
    refine wp_region_until 4 #[true, true, true, true, false, false] (fun aF lsd a' w' => ∃ vu0 vu1 vu2 vu3 : Value, a' = (((aF.put (some 9) vu0).put (some 10) vu1).put (some 11) vu2).put (some 12) vu3 ∧ Below W3.heap.size W3 w' ∧ (lsd.getD 0 false = true → vu0 = .pointer (some ⟨w.heap.size, 8, none⟩)) ∧ (lsd.getD 1 false = true → vu1 = .agg #[.bool p2, .slice a2 n2 c2, .slice b2 m2 d2]) ∧ (lsd.getD 2 false = true → RepQ w' vu2 vl) ∧ (lsd.getD 3 false = true → vu3 = .agg #[.bool pc, .slice ac nc cc, .slice bc mc dc])) (by kernel_rfl) (by decide) (by kernel_rfl) (by rfl) (by kernel_rfl) ?_ ?_ ?_
    · exact ⟨_, _, _, _, by simp only [Act.put, List.setIfInBounds_toArray, List.set_cons_zero, List.set_cons_succ]; rfl, (Below.refl _ _).drew, fun h => absurd h (fun h => mark_none h), fun h => absurd h (fun h => mark_none h), fun h => absurd h (fun h => mark_none h), fun h => absurd h (fun h => mark_none h)⟩
    · rintro lsd au wn iu hszu ⟨vu0, vu1, vu2, vu3, rfl, hbu, fu0, fu1, fu2, fu3⟩ himu hru
      rcases (show iu = 0 ∨ iu = 1 ∨ iu = 2 ∨ iu = 3 by omega) with rfl | rfl | rfl | rfl
      · refine wpOp_shut (by rfl) (fun K hK => ?_)
        simp only [Act.put, List.setIfInBounds_toArray, List.set_cons_zero, List.set_cons_succ]
        go_simp
        exact hK.out _ _ ⟨(.pointer (some ⟨w.heap.size, 8, none⟩)), vu1, vu2, vu3, by simp only [Act.put, List.setIfInBounds_toArray, List.set_cons_zero, List.set_cons_succ], hbu, fun _ => rfl, fun h => fu1 (mark_of (by decide) h), fun h => fu2 (mark_of (by decide) h), fun h => fu3 (mark_of (by decide) h)⟩
      · have eu0 := fu0 (dep_of 0 hru rfl (by kernel_rfl))
        replace eu0 := eu0.symm
        subst eu0
        refine wpOp_shut (by rfl) (fun K hK => ?_)
        simp only [Act.put, List.setIfInBounds_toArray, List.set_cons_zero, List.set_cons_succ]
        obtain ⟨V_0, V_1, V_2, V_3, V_4, V_5, V_6, V_7, V_8, V_9, V_10, V_11, V_12, V_13⟩ := VN.below hbu
        go_simp
        exact hK.out _ _ ⟨(.pointer (some ⟨w.heap.size, 8, none⟩)), (.agg #[.bool p2, .slice a2 n2 c2, .slice b2 m2 d2]), vu2, vu3, by simp only [Act.put, List.setIfInBounds_toArray, List.set_cons_zero, List.set_cons_succ], hbu, fun _ => rfl, fun _ => rfl, fun h => fu2 (mark_of (by decide) h), fun h => fu3 (mark_of (by decide) h)⟩
      · have eu1 := fu1 (dep_of 1 hru rfl (by kernel_rfl))
        replace eu1 := eu1.symm
        subst eu1
        refine wpOp_shut (by rfl) (fun K hK => ?_)
        simp only [Act.put, List.setIfInBounds_toArray, List.set_cons_zero, List.set_cons_succ]
        have ht := ht.below hbu
        have hv := hv.below hbu
        go_simp
        refine (qclean_at _ vl L wn hv h1 (by omega) ht).mono ?_
        rintro eu wx ⟨x2, rfl, hx, bu⟩
        go_wp2_with fail
        have hbu2 := hbu.trans (bu.mono hbu.size)
        exact hK.out _ _ ⟨vu0, (.agg #[.bool p2, .slice a2 n2 c2, .slice b2 m2 d2]), _, vu3, by simp only [Act.put, List.setIfInBounds_toArray, List.set_cons_zero, List.set_cons_succ], hbu2, fun h => fu0 (mark_of (by decide) h), fun _ => rfl, fun _ => hx, fun h => fu3 (mark_of (by decide) h)⟩
      · refine wpOp_shut (by rfl) (fun K hK => ?_)
        simp only [Act.put, List.setIfInBounds_toArray, List.set_cons_zero, List.set_cons_succ]
        obtain ⟨VC_0, VC_1, VC_2, VC_3, VC_4, VC_5⟩ := VC.below hbu
        go_simp
        exact hK.out _ _ ⟨vu0, vu1, vu2, (.agg #[.bool pc, .slice ac nc cc, .slice bc mc dc]), by simp only [Act.put, List.setIfInBounds_toArray, List.set_cons_zero, List.set_cons_succ], hbu, fun h => fu0 (mark_of (by decide) h), fun h => fu1 (mark_of (by decide) h), fun h => fu2 (mark_of (by decide) h), fun _ => rfl⟩
    rintro au Wu1 ⟨vu0, vu1, vu2, vu3, rfl, hbu, fu0, fu1, fu2, fu3⟩
    have eu0 := (fu0 rfl).symm
    subst eu0
    have eu1 := (fu1 rfl).symm
    subst eu1
    have hx := fu2 rfl
    have eu3 := (fu3 rfl).symm
    subst eu3
    clear fu0 fu1 fu2 fu3
    have hlVC : R3 < W3.heap.size := VC.lt
    replace ht := ht.below hbu
    replace VN := VN.below hbu
    replace VZ := VZ.below hbu
    replace hcv := hcv.below hbu
    replace hv := hv.below hbu
    replace VC := VC.below hbu
    replace BB := BB.trans (hbu.mono BB.size)
    clear hbu
    obtain ⟨px, ax, nx, cx, bx, mx, dx, rfl⟩ := hx.open
    simp only [Act.put, List.setIfInBounds_toArray, List.set_cons_zero, List.set_cons_succ]
    refine wpAnyH_ready (rs := [4]) (by kernel_rfl) (by simp) ?_
    refine AllReadyH.cons (by rfl) (fun K hK => ?_) AllReadyH.nil
    go_simp
    refine hK.out _ _ trivial (fun _ => ?_)
    clear hK K
    simp only [Act.put, List.setIfInBounds_toArray, List.set_cons_zero, List.set_cons_succ]
    refine wpAnyH_ready (rs := [5]) (by kernel_rfl) (by simp) ?_
    refine AllReadyH.cons (by rfl) (fun K hK => ?_) AllReadyH.nil
    obtain ⟨⟨Z_0, Z_1, Z_2, Z_3, Z_4, Z_5, Z_6, Z_7, Z_8, Z_9, Z_10, Z_11, Z_12, Z_13⟩, FZ⟩ := id VZ
    have K : KeepQ IsLimb Wu1 (put14 Wu1 (w.heap.size + 1) (.bool true) (.int .i64 0) (.bool false) (.slice none 0 0) (.slice none 0 0) (.int .i64 0) (.int .i64 0) (.bool false) (.bool px) (.slice ax nx cx) (.slice bx mx dx) (.bool pc) (.slice ac nc cc) (.slice bc mc dc)) := VZ.1.putK (limb_bool _) (limb_int _) (limb_bool _) (limb_slice _ _ _) (limb_slice _ _ _) (limb_int _) (limb_int _) (limb_bool _) (limb_bool _) (limb_slice _ _ _) (limb_slice _ _ _) (limb_bool _) (limb_slice _ _ _) (limb_slice _ _ _) (.bool true) (.int .i64 0) (.bool false) (.slice none 0 0) (.slice none 0 0) (.int .i64 0) (.int .i64 0) (.bool false) (.bool px) (.slice ax nx cx) (.slice bx mx dx) (.bool pc) (.slice ac nc cc) (.slice bc mc dc)
    have VO : V14 (put14 Wu1 (w.heap.size + 1) (.bool true) (.int .i64 0) (.bool false) (.slice none 0 0) (.slice none 0 0) (.int .i64 0) (.int .i64 0) (.bool false) (.bool px) (.slice ax nx cx) (.slice bx mx dx) (.bool pc) (.slice ac nc cc) (.slice bc mc dc)) (w.heap.size + 1) (.bool true) (.int .i64 0) (.bool false) (.slice none 0 0) (.slice none 0 0) (.int .i64 0) (.int .i64 0) (.bool false) (.bool px) (.slice ax nx cx) (.slice bx mx dx) (.bool pc) (.slice ac nc cc) (.slice bc mc dc) := VZ.1.put (.bool true) (.int .i64 0) (.bool false) (.slice none 0 0) (.slice none 0 0) (.int .i64 0) (.int .i64 0) (.bool false) (.bool px) (.slice ax nx cx) (.slice bx mx dx) (.bool pc) (.slice ac nc cc) (.slice bc mc dc)
    have BB2 : Below w.heap.size w (put14 Wu1 (w.heap.size + 1) (.bool true) (.int .i64 0) (.bool false) (.slice none 0 0) (.slice none 0 0) (.int .i64 0) (.int .i64 0) (.bool false) (.bool px) (.slice ax nx cx) (.slice bx mx dx) (.bool pc) (.slice ac nc cc) (.slice bc mc dc)) := put14_below BB (by omega) _ _ _ _ _ _ _ _ _ _ _ _ _ _
    have hx2 := hx.keepL K
    have hc2 := hcv.keepL K
    unfold put14 at VO BB2 hx2 hc2
    obtain ⟨Y_0, Y_1, Y_2, Y_3, Y_4, Y_5, Y_6, Y_7, Y_8, Y_9, Y_10, Y_11, Y_12, Y_13⟩ := id VO
    go_simp
    refine hK.out _ _ trivial (fun _ => ?_)
    clear hK K
    simp only [Act.put, List.setIfInBounds_toArray, List.set_cons_zero, List.set_cons_succ]
    refine wpAnyH_done (by kernel_rfl) ?_ _
    clear Z_0 Z_1 Z_2 Z_3 Z_4 Z_5 Z_6 Z_7 Z_8 Z_9 Z_10 Z_11 Z_12 Z_13 FZ K VZ VN VC hx hcv
    go_wp2_with fail
    (try simp only [Exit.inBlock, Exit.then])
    refine bodyPost_ret (v := .agg #[.bool true, .int .i64 0, .bool false, .slice none 0 0, .slice none 0 0, .int .i64 0, .int .i64 0, .bool false, .bool px, .slice ax nx cx, .slice bx mx dx, .bool pc, .slice ac nc cc, .slice bc mc dc]) (by simp [results, go_sem, Y_0, Y_1, Y_2, Y_3, Y_4, Y_5, Y_6, Y_7, Y_8, Y_9, Y_10, Y_11, Y_12, Y_13]) rfl ?_
    exact ⟨fun j => match j with | 0 => .bool true | 1 => .int .i64 0 | 2 => .bool false | 3 => .slice none 0 0 | 4 => .slice none 0 0 | 5 => .int .i64 0 | 6 => .int .i64 0 | 7 => .bool false | 8 => .bool px | 9 => .slice ax nx cx | 10 => .slice bx mx dx | 11 => .bool pc | 12 => .slice ac nc cc | _ => .slice bc mc dc, rfl, ⟨rfl, rfl, ⟨rfl, rfl, rfl⟩, rfl, rfl, rfl, hx2, hc2⟩, BB2⟩

theorem ExT.open {w : World} {x y z : Value} {o : Option Rat} (h : ExT w x y z o) : ∃ p a n c b m d, x = .bool p ∧ y = .slice a n c ∧ z = .slice b m d := by
  cases o with
  | none => exact ⟨_, _, _, _, _, _, _, h.1, h.2.1, h.2.2⟩
  | some q =>
    obtain ⟨p, a, n, c, b, m, d, e⟩ := RepQ.open h
    injection e with e
    simp only [Array.mk.injEq, List.cons.injEq, and_true] at e
    exact ⟨p, a, n, c, b, m, d, e.1, e.2.1, e.2.2⟩
theorem TNode.open {w : World} {el : Nat → Value} {d : TidN} (h : TNode w el d) : ∃ lf ft y1 e1 f1 g1 h1 k1 l1 ll rr ms y2 e2 f2 g2 h2 k2 l2 y3 e3 f3 g3 h3 k3 l3, el 0 = .bool lf ∧ el 1 = .int .i64 ft ∧ el 2 = .bool y1 ∧ el 3 = .slice e1 f1 g1 ∧ el 4 = .slice h1 k1 l1 ∧ el 5 = .int .i64 ll ∧ el 6 = .int .i64 rr ∧ el 7 = .bool ms ∧ el 8 = .bool y2 ∧ el 9 = .slice e2 f2 g2 ∧ el 10 = .slice h2 k2 l2 ∧ el 11 = .bool y3 ∧ el 12 = .slice e3 f3 g3 ∧ el 13 = .slice h3 k3 l3 := by
  obtain ⟨h0, h1, h2, h5, h6, h7, h8, h11⟩ := h
  obtain ⟨p1, a1, n1, c1, b1, m1, d1, x2, x3, x4⟩ := h2.open
  obtain ⟨p2, a2, n2, c2, b2, m2, d2, x8, x9, x10⟩ := h8.open
  obtain ⟨p3, a3, n3, c3, b3, m3, d3, x11, x12, x13⟩ := h11.open
  exact ⟨_, _, _, _, _, _, _, _, _, _, _, _, _, _, _, _, _, _, _, _, _, _, _, _, _, _, h0, h1, x2, x3, x4, h5, h6, h7, x8, x9, x10, x11, x12, x13⟩
def tidL (t : Nat → Nd) (n : Nat) : List TidN := (List.range n).map fun i => tidN (t i)
theorem tidL_len (t : Nat → Nd) (n : Nat) : (tidL t n).length = n := by simp [tidL]
theorem tidL_succ (t : Nat → Nd) (n : Nat) : tidL t (n + 1) = tidL t n ++ [tidN (t n)] := by simp [tidL, List.range_succ]


set_option maxRecDepth 100000 in
set_option maxHeartbeats 8000000 in
theorem tidyT_at (v : Value) (n : Nat) (t : Nat → Nd) (L : Nat) (w : World) (hv : TRow w v n t L) (hnn : n ≤ 1000) (h1 : 1 ≤ L) (hM : L ≤ 9000) (ht : Tab w) :
    Calls Tryd.prog 10 #[v] w fun e w' => ∃ r, e = .returned r ∧ TTr w.heap.size w' r (tidL t n) ∧ Below w.heap.size w w' := by
  obtain ⟨ao, c, rfl, hnc, hc63⟩ := hv.open
  have BB : Below w.heap.size w w := Below.refl _ _
  go_enter Tryd.func10, Tryd.ntmps10
  go_wp2
  go_loopw [3, 8] (fun vo vi wr => ∃ i : Nat, i ≤ n ∧ vi = .int .i64 (i : Int) ∧ TTr w.heap.size wr vo (tidL t i) ∧ Below w.heap.size w wr) (fun _ vi _ => n - (intOf vi).toNat)
  case atStart => exact ⟨0, by omega, rfl, GOwn.nil, BB⟩
  case round =>
    clear BB
    obtain ⟨i, hi, rfl, TO0, BB⟩ := hrel
    have TO : TTr w.heap.size wr _ (tidL t i) := TO0
    clear TO0
    by_cases hlt : i < n
    · obtain ⟨avt, cvt, hfm, _⟩ := GOwn.form TO
      rw [tidL_len] at hfm
      subst hfm
      have g1 : (i : Int) < (n : Int) := by omega
      have g0 : (0 : Int) ≤ (i : Int) := by omega
      have TR1 := hv.below BB
      have htB := ht.below BB
      obtain ⟨b, off, cc, p1, a1, n1, c1, b1, m1, d1, p2, a2, n2, c2, b2, m2, d2, p3, a3, n3, c3, b3, m3, d3, hvv, hcc, hc6, NN, r1, r2, r3, i1, i2, i3⟩ := TR1.at hlt
      cases hvv
      obtain ⟨N_0, N_1, N_2, N_3, N_4, N_5, N_6, N_7, N_8, N_9, N_10, N_11, N_12, N_13⟩ := id NN
      obtain ⟨W1, hW1, hS1, hL1, VN, FN⟩ := V14.lay wr 37 (.bool (t i).leaf) (.int .i64 (t i).feat) (.bool p1) (.slice a1 n1 c1) (.slice b1 m1 d1) (.int .i64 (t i).left) (.int .i64 (t i).right) (.bool (t i).miss) (.bool p2) (.slice a2 n2 c2) (.slice b2 m2 d2) (.bool p3) (.slice a3 n3 c3) (.slice b3 m3 d3)
      replace r1 := r1.below hL1
      replace r2 := r2.below hL1
      replace r3 := r3.below hL1
      replace TO := TO.below hL1
      replace htB := htB.below hL1
      replace BB := BB.trans (hL1.mono BB.size)
      clear hL1
      obtain ⟨V_0, V_1, V_2, V_3, V_4, V_5, V_6, V_7, V_8, V_9, V_10, V_11, V_12, V_13⟩ := id VN
      rw [hW1] at V_0 V_1 V_2 V_3 V_4 V_5 V_6 V_7 V_8 V_9 V_10 V_11 V_12 V_13
      go_wp2_with fail
      clear V_0 V_1 V_2 V_3 V_4 V_5 V_6 V_7 V_8 V_9 V_10 V_11 V_12 V_13
      clear N_0 N_1 N_2 N_3 N_4 N_5 N_6 N_7 N_8 N_9 N_10 N_11 N_12 N_13
      rw [← hW1]
      generalize wr.heap.size = R1 at *
      clear hW1 hS1
      clear NN TR1 i1 i2 i3 FN VN
      refine (tidyN_at (t i) _ _ _ _ _ _ _ _ _ _ _ _ _ _ _ _ _ _ _ _ _ L _ r1 r2 r3 h1 hM htB).mono ?_
      rintro e w5 ⟨el, rfl, hn, b2⟩
      replace TO := TO.below b2
      replace BB := BB.trans (b2.mono BB.size)
      clear b2 r1 r2 r3 htB
      obtain ⟨lf, ft, y1, e1, f1, g1, h1, k1, l1, ll, rr, ms, y2, e2, f2, g2, h2, k2, l2, y3, e3, f3, g3, h3, k3, l3, z0, z1, z2, z3, z4, z5, z6, z7, z8, z9, z10, z11, z12, z13⟩ := hn.open
      have hn2 : TNode w5 (fun j => [.bool lf, .int .i64 ft, .bool y1, .slice e1 f1 g1, .slice h1 k1 l1, .int .i64 ll, .int .i64 rr, .bool ms, .bool y2, .slice e2 f2 g2, .slice h2 k2 l2, .bool y3, .slice e3 f3 g3, .slice h3 k3 l3].getD j undef) (tidN (t i)) := tnodeEl.congr hn (fun j hj => by
              match j, hj with
              | 0, _ => exact z0
              | 1, _ => exact z1
              | 2, _ => exact z2
              | 3, _ => exact z3
              | 4, _ => exact z4
              | 5, _ => exact z5
              | 6, _ => exact z6
              | 7, _ => exact z7
              | 8, _ => exact z8
              | 9, _ => exact z9
              | 10, _ => exact z10
              | 11, _ => exact z11
              | 12, _ => exact z12
              | 13, _ => exact z13)
      rw [z0, z1, z2, z3, z4, z5, z6, z7, z8, z9, z10, z11, z12, z13]
      clear hn z0 z1 z2 z3 z4 z5 z6 z7 z8 z9 z10 z11 z12 z13
      have hA : Below w5.heap.size w5 (w5.alloc (.cells #[.bool lf, .int .i64 ft, .bool y1, .slice e1 f1 g1, .slice h1 k1 l1, .int .i64 ll, .int .i64 rr, .bool ms, .bool y2, .slice e2 f2 g2, .slice h2 k2 l2, .bool y3, .slice e3 f3 g3, .slice h3 k3 l3] 37)) := (Below.refl _ _).alloc (Nat.le_refl _) _
      have TO2 : TTr w.heap.size (w5.alloc (.cells #[.bool lf, .int .i64 ft, .bool y1, .slice e1 f1 g1, .slice h1 k1 l1, .int .i64 ll, .int .i64 rr, .bool ms, .bool y2, .slice e2 f2 g2, .slice h2 k2 l2, .bool y3, .slice e3 f3 g3, .slice h3 k3 l3] 37)) _ (tidL t i) := TO.below hA
      have BB2 := BB.trans (hA.mono BB.size)
      obtain ⟨cs, hco, hcl, hcp, hcn⟩ := GOwn.parts TO2
      have hbk := TTr.blocks TO2
      rw [tidL_len] at hco hcl
      have hsz2 := BB2.size
      have HND : Hid (TNode (w5.alloc (.cells #[.bool lf, .int .i64 ft, .bool y1, .slice e1 f1 g1, .slice h1 k1 l1, .int .i64 ll, .int .i64 rr, .bool ms, .bool y2, .slice e2 f2 g2, .slice h2 k2 l2, .bool y3, .slice e3 f3 g3, .slice h3 k3 l3] 37)) (fun j => [.bool lf, .int .i64 ft, .bool y1, .slice e1 f1 g1, .slice h1 k1 l1, .int .i64 ll, .int .i64 rr, .bool ms, .bool y2, .slice e2 f2 g2, .slice h2 k2 l2, .bool y3, .slice e3 f3 g3, .slice h3 k3 l3].getD j undef) (tidN (t i))) := tnodeEl.keep hn2 (fun b o v _ hc => (hA.cell (World.block_lt_of_cell? _ ⟨b, o, none⟩ hc)).trans hc)
      have HCN : Hid (∀ q a, (tidL t i)[q]? = some a → TNode (w5.alloc (.cells #[.bool lf, .int .i64 ft, .bool y1, .slice e1 f1 g1, .slice h1 k1 l1, .int .i64 ll, .int .i64 rr, .bool ms, .bool y2, .slice e2 f2 g2, .slice h2 k2 l2, .bool y3, .slice e3 f3 g3, .slice h3 k3 l3] 37)) (fun j => cs.getD (q * 14 + j) undef) a) := hcn
      have hnb := news_block (heap_alloc_new w5 (.cells #[.bool lf, .int .i64 ft, .bool y1, .slice e1 f1 g1, .slice h1 k1 l1, .int .i64 ll, .int .i64 rr, .bool ms, .bool y2, .slice e2 f2 g2, .slice h2 k2 l2, .bool y3, .slice e3 f3 g3, .slice h3 k3 l3] 37))
      have HCL : Hid (cs.length = i * 14) := hcl
      clear hcn hcl TO2 TO hn2 BB hA
      go_wp2_with (first
              | (at_builtin
                 refine wpList_append_pure (Q' := IsLimb) rfl _ _ _ rfl w.heap.size 37 (.agg #[.bool false, .int .i64 0, .bool false, .slice none 0 0, .slice none 0 0, .int .i64 0, .int .i64 0, .bool false, .bool false, .slice none 0 0, .slice none 0 0, .bool false, .slice none 0 0, .slice none 0 0]) 14 208 Tryd.underlying29 info_node rfl (by omega) (.slice avt i cvt) rfl i cs hco hcp ⟨w5.heap.size, 0, none⟩ 1 rfl [.bool lf, .int .i64 ft, .bool y1, .slice e1 f1 g1, .slice h1 k1 l1, .int .i64 ll, .int .i64 rr, .bool ms, .bool y2, .slice e2 f2 g2, .slice h2 k2 l2, .bool y3, .slice e3 f3 g3, .slice h3 k3 l3] rfl ?g14 ?g15 ?g16 ?g17 (by omega) (by omega) hsz2 ?_
                 case g14 => exact hnb
                 case g15 => simp [Value.oneCell']
                 case g16 => simp [limb_bool, limb_slice, limb_int]
                 case g17 => simp [Value.cells, limb_bool, limb_slice, limb_int]
                 intro gN cN w6 ho5 hg5 _ hp5 hk5))
      have NO5 : TTr w.heap.size w6 (.slice (some ⟨gN, 0, none⟩) (i + 1) cN) (tidL t (i + 1)) := by
        rw [tidL_succ]
        exact GOwn.more (m := 1) (l' := [tidN (t i)]) tnodeEl rfl (by rw [tidL_len]; exact ho5) (by rw [tidL_len]; exact HCL.out) (fun g hg => by cases hg; exact hp5) hk5 HCN.out (fun q a hq => by
          have : q = 0 := by have := (List.getElem?_eq_some_iff.1 hq).1; simp at this; omega
          subst this
          simp only [List.getElem?_cons_zero, Option.some.injEq] at hq
          subst hq
          rw [Nat.zero_mul]
          simp only [Nat.zero_add]
          exact HND.out)
      have BI5 : Below w.heap.size w w6 := below_grownB BB2 hg5 hsz2 (fun g hg => (hbk g hg).1)
      clear ho5 hg5 hp5 hk5 hco hcp BB2 hbk HCN HND HCL
      go_roundw
      case rel => exact ⟨i + 1, by omega, by go_num, NO5, BI5⟩
      case measure => simp [intOf]; omega
    · obtain rfl : i = n := by omega
      have g1 : ¬ (i : Int) < (i : Int) := by omega
      go_wp2
      go_ret
      exact ⟨_, rfl, TO, BB⟩

def tidM (N : Nat → Nat) (T : Nat → Nat → Nd) (k : Nat) : List (List TidN) := (List.range k).map fun i => tidL (T i) (N i)
theorem tidM_len (N : Nat → Nat) (T : Nat → Nat → Nd) (k : Nat) : (tidM N T k).length = k := by simp [tidM]
theorem tidM_succ (N : Nat → Nat) (T : Nat → Nat → Nd) (k : Nat) : tidM N T (k + 1) = tidM N T k ++ [tidL (T k) (N k)] := by simp [tidM, List.range_succ]
theorem news_t7 {w : World} {R : Nat} {x : Value} (h : V1 w R x) : ∀ j u, [x][j]? = some u → w.cell? ((⟨R, 0, none⟩ : Addr).add j) = some u := fun j u hu => by
  have : j = 0 := by have := (List.getElem?_eq_some_iff.1 hu).1; simp at this; omega
  subst this
  simp only [List.getElem?_cons_zero, Option.some.injEq] at hu
  subst hu
  exact h.1
/-- A row of one tree. -/
def BltT (B : Nat) (w : World) (v : Value) (l : List TidN) : Prop := ∃ R a c, v = .slice (some ⟨R, 0, none⟩) 1 1 ∧ B ≤ R ∧ V1 w R (.slice a l.length c) ∧ TTr B w (.slice a l.length c) l
theorem BltT.below {B : Nat} {w w' : World} {v : Value} {l : List TidN} (h : BltT B w v l) (hb : Below w.heap.size w w') : BltT B w' v l := let ⟨R, a, c, e, b, d, f⟩ := h; ⟨R, a, c, e, b, d.below hb, TTr.below f hb⟩


set_option maxRecDepth 100000 in
set_option maxHeartbeats 8000000 in
theorem tidyM_at (F : Int) (v : Value) (k : Nat) (N : Nat → Nat) (T : Nat → Nat → Nd) (L : Nat) (w : World) (hv : MRow w v k N T L) (hk : k ≤ 1000) (hN : ∀ i, i < k → N i ≤ 1000) (h1 : 1 ≤ L) (hM : L ≤ 9000) (ht : Tab w) :
    Calls Tryd.prog 5 #[.agg #[.int .i64 F, v]] w fun e w' => ∃ r, e = .returned (.agg #[.int .i64 F, r]) ∧ TMo w.heap.size w' r (tidM N T k) ∧ Below w.heap.size w w' := by
  obtain ⟨ao, c, rfl, hnc, hc63⟩ := hv.open
  have BB : Below w.heap.size w w := Below.refl _ _
  obtain ⟨Wb0, hW0, hS0, hL0, VM⟩ := V2.lay w 24 (.int .i64 F) (.slice ao k c)
  replace BB := BB.trans (hL0.mono BB.size)
  have hv1 := hv.below hL0
  have ht1 := ht.below hL0
  clear hL0
  obtain ⟨Wb1, hW1, hS1, hL1, VR⟩ := V2.lay Wb0 24 (.int .i64 0) (.slice none 0 0)
  rw [hS0] at VR hS1
  replace VM := VM.below hL1
  replace BB := BB.trans (hL1.mono BB.size)
  have hv2 := hv1.below hL1
  have ht2 := ht1.below hL1
  clear hL1 hv1 ht1
  obtain ⟨W2, hW2, hS2, hL2, VO⟩ := V2.lay Wb1 24 (.int .i64 F) (.slice none 0 0)
  rw [hS1] at VO hS2
  have VM3 := VM.below hL2
  obtain ⟨VM_0, VM_1, VM_2, VM_3⟩ := id VM
  rw [hW1, hW0] at VM_0 VM_1 VM_2 VM_3
  obtain ⟨VO_0, VO_1, VO_2, VO_3⟩ := id VM3
  rw [hW2, hW1, hW0] at VO_0 VO_1 VO_2 VO_3
  go_enter Tryd.func5, Tryd.ntmps5
  go_wp2
  clear VM_0 VM_1 VM_2 VM_3 VO_0 VO_1 VO_2 VO_3 VM3
  rw [← hW0]
  rw [← hW1]
  rw [← hW2]
  clear hW0 hW1 hW2 VM hv ht
  have HS : Hid (Wb1.heap.size = (w.heap.size + 1 + 1)) := hS1
  have hs2 := hS1
  clear hS0 hS1 hS2
  have BB0 : Hid (Below w.heap.size w Wb1) := BB
  clear BB
  go_loopw [12] (fun vi wr => ∃ (i : Nat) (tr : Value), i ≤ k ∧ vi = .int .i64 (i : Int) ∧ V2 wr (w.heap.size + 1 + 1) (.int .i64 F) tr ∧ TMo (w.heap.size + 1 + 1 + 1) wr tr (tidM N T i) ∧ Below Wb1.heap.size Wb1 wr) (fun vi _ => k - (intOf vi).toNat)
  case atStart => exact ⟨0, _, by omega, rfl, VO, TMo.nil _ _, hL2⟩
  case round =>
    clear VO hL2
    obtain ⟨i, tr, hi, rfl, VO, MO, BL⟩ := hrel
    obtain ⟨at3, ct3, hfm, _⟩ := TMo.form MO
    rw [tidM_len] at hfm
    subst hfm
    by_cases hlt : i < k
    · have g1 : (i : Int) < (k : Int) := by omega
      have g0 : (0 : Int) ≤ (i : Int) := by omega
      obtain ⟨bT, oT, cT, aT, dT, hvv, hcc, XT0, TR0⟩ := hv2.at hlt
      cases hvv
      have XT := (BL.cell (World.block_lt_of_cell? _ _ XT0)).trans XT0
      have TR := TR0.below BL
      have htB := ht2.below BL
      have hni := hN i hlt
      go_wp2_with fail
      clear XT XT0 TR0
      have BB := BL
      clear BL
      have hR2 : (w.heap.size + 1 + 1) < wr.heap.size := VO.lt
      refine wp_region_until 5 #[true, true, true, true, true, false, false, false] (fun aF lsd a' w' => ∃ vu0 vu1 vu2 vu3 vu4 : Value, a' = ((((aF.put (some 16) vu0).put (some 17) vu1).put (some 18) vu2).put (some 19) vu3).put (some 20) vu4 ∧ Below wr.heap.size wr w' ∧ (lsd.getD 0 false = true → vu0 = .pointer (some ⟨(w.heap.size + 1 + 1), 1, none⟩)) ∧ (lsd.getD 1 false = true → vu1 = .slice at3 i ct3) ∧ (lsd.getD 2 false = true → vu2 = .slice aT (N i) dT) ∧ (lsd.getD 3 false = true → TTr wr.heap.size w' vu3 (tidL (T i) (N i))) ∧ (lsd.getD 4 false = true → BltT wr.heap.size w' vu4 (tidL (T i) (N i)))) (by kernel_rfl) (by decide) (by kernel_rfl) (by rfl) (by kernel_rfl) ?_ ?_ ?_
      · exact ⟨_, _, _, _, _, by simp only [Act.put, List.setIfInBounds_toArray, List.set_cons_zero, List.set_cons_succ]; rfl, (Below.refl _ _).drew, fun h => absurd h (fun h => mark_none h), fun h => absurd h (fun h => mark_none h), fun h => absurd h (fun h => mark_none h), fun h => absurd h (fun h => mark_none h), fun h => absurd h (fun h => mark_none h)⟩
      · rintro lsd au wn iu hszu ⟨vu0, vu1, vu2, vu3, vu4, rfl, hbu, fu0, fu1, fu2, fu3, fu4⟩ himu hru
        rcases (show iu = 0 ∨ iu = 1 ∨ iu = 2 ∨ iu = 3 ∨ iu = 4 by omega) with rfl | rfl | rfl | rfl | rfl
        · refine wpOp_shut (by rfl) (fun K hK => ?_)
          simp only [Act.put, List.setIfInBounds_toArray, List.set_cons_zero, List.set_cons_succ]
          go_simp
          exact hK.out _ _ ⟨(.pointer (some ⟨(w.heap.size + 1 + 1), 1, none⟩)), vu1, vu2, vu3, vu4, by simp only [Act.put, List.setIfInBounds_toArray, List.set_cons_zero, List.set_cons_succ], hbu, fun _ => rfl, fun h => fu1 (mark_of (by decide) h), fun h => fu2 (mark_of (by decide) h), fun h => fu3 (mark_of (by decide) h), fun h => fu4 (mark_of (by decide) h)⟩
        · have eu0 := fu0 (dep_of 0 hru rfl (by kernel_rfl))
          replace eu0 := eu0.symm
          subst eu0
          refine wpOp_shut (by rfl) (fun K hK => ?_)
          simp only [Act.put, List.setIfInBounds_toArray, List.set_cons_zero, List.set_cons_succ]
          obtain ⟨VO_0, VO_1, VO_2, VO_3⟩ := VO.below hbu
          go_simp
          exact hK.out _ _ ⟨(.pointer (some ⟨(w.heap.size + 1 + 1), 1, none⟩)), (.slice at3 i ct3), vu2, vu3, vu4, by simp only [Act.put, List.setIfInBounds_toArray, List.set_cons_zero, List.set_cons_succ], hbu, fun _ => rfl, fun _ => rfl, fun h => fu2 (mark_of (by decide) h), fun h => fu3 (mark_of (by decide) h), fun h => fu4 (mark_of (by decide) h)⟩
        · refine wpOp_shut (by rfl) (fun K hK => ?_)
          simp only [Act.put, List.setIfInBounds_toArray, List.set_cons_zero, List.set_cons_succ]
          go_simp
          exact hK.out _ _ ⟨vu0, vu1, (.slice aT (N i) dT), vu3, vu4, by simp only [Act.put, List.setIfInBounds_toArray, List.set_cons_zero, List.set_cons_succ], hbu, fun h => fu0 (mark_of (by decide) h), fun h => fu1 (mark_of (by decide) h), fun _ => rfl, fun h => fu3 (mark_of (by decide) h), fun h => fu4 (mark_of (by decide) h)⟩
        · have eu2 := fu2 (dep_of 2 hru rfl (by kernel_rfl))
          replace eu2 := eu2.symm
          subst eu2
          refine wpOp_shut (by rfl) (fun K hK => ?_)
          simp only [Act.put, List.setIfInBounds_toArray, List.set_cons_zero, List.set_cons_succ]
          have TR := TR.below hbu
          have htB := htB.below hbu
          go_simp
          refine (tidyT_at _ (N i) (T i) L wn TR hni h1 hM htB).mono ?_
          rintro eu wx ⟨ru, rfl, hru, bu⟩
          replace hru : TTr wr.heap.size wx ru (tidL (T i) (N i)) := GOwn.le hru hbu.size
          go_wp2_with fail
          have hbu2 := hbu.trans (bu.mono hbu.size)
          exact hK.out _ _ ⟨vu0, vu1, (.slice aT (N i) dT), _, vu4, by simp only [Act.put, List.setIfInBounds_toArray, List.set_cons_zero, List.set_cons_succ], hbu2, fun h => fu0 (mark_of (by decide) h), fun h => fu1 (mark_of (by decide) h), fun _ => rfl, fun _ => hru, fun h => (fu4 (mark_of (by decide) h)).below bu⟩
        · have hru := fu3 (dep_of 3 hru rfl (by kernel_rfl))
          refine wpOp_shut (by simp only [List.getElem?_toArray, List.getElem?_cons_succ, List.getElem?_cons_zero]; rfl) (fun K hK => ?_)
          simp only [Act.put, List.setIfInBounds_toArray, List.set_cons_zero, List.set_cons_succ]
          obtain ⟨ya, yc, hyf, _⟩ := GOwn.form hru
          subst hyf
          go_simp
          obtain ⟨wx, hWx, hSx, bu, VXu⟩ := V1.lay wn 29 (.slice ya (tidL (T i) (N i)).length yc)
          rw [← hWx]
          have hbu2 := hbu.trans (bu.mono hbu.size)
          exact hK.out _ _ ⟨vu0, vu1, vu2, (.slice ya (tidL (T i) (N i)).length yc), _, by simp only [Act.put, List.setIfInBounds_toArray, List.set_cons_zero, List.set_cons_succ], hbu2, fun h => fu0 (mark_of (by decide) h), fun h => fu1 (mark_of (by decide) h), fun h => fu2 (mark_of (by decide) h), fun h => (fu3 (mark_of (by decide) h)).below bu, fun _ => ⟨_, _, _, rfl, hbu.size, VXu, TTr.below hru bu⟩⟩
      rintro au Wu1 ⟨vu0, vu1, vu2, vu3, vu4, rfl, hbu, fu0, fu1, fu2, fu3, fu4⟩
      have eu0 := (fu0 rfl).symm
      subst eu0
      have eu1 := (fu1 rfl).symm
      subst eu1
      have eu2 := (fu2 rfl).symm
      subst eu2
      have hru := fu3 rfl
      have hbl := fu4 rfl
      clear fu0 fu1 fu2 fu3 fu4
      have hlVO : (w.heap.size + 1 + 1) < wr.heap.size := VO.lt
      replace TR := TR.below hbu
      replace htB := htB.below hbu
      replace MO := MO.below hbu
      replace VO := VO.below hbu
      replace BB := BB.trans (hbu.mono BB.size)
      clear hbu
      obtain ⟨RB, yb, zb, rfl, hRB, VB, hrb⟩ := hbl
      clear hru
      simp only [Act.put, List.setIfInBounds_toArray, List.set_cons_zero, List.set_cons_succ]
      refine wpAnyH_ready (rs := [5]) (by kernel_rfl) (by simp) ?_
      refine AllReadyH.cons (by rfl) (fun K hK => ?_) AllReadyH.nil
      obtain ⟨us, huo, hup⟩ := TMo.parts MO
      rw [tidM_len] at huo
      have hbk := TMo.blocks MO
      have hsz6 : (w.heap.size + 1 + 1 + 1) ≤ Wu1.heap.size := by have := VO.lt; omega
      refine step_append_pure (Q' := IsLimb) (by rfl) _ _ _ (by rfl) (w.heap.size + 1 + 1 + 1) 29 (.slice none 0 0) 1 24 Tryd.underlying22 info_tree (by rfl) (by omega) (.slice at3 i ct3) (by rfl) i us huo hup ⟨RB, 0, none⟩ 1 (by rfl) [.slice yb (tidL (T i) (N i)).length zb] rfl (news_t7 VB) (by simp [Value.oneCell']) (by simp [limb_slice]) (by simp [Value.cells, limb_slice]) (by omega) (by omega) hsz6 ?_
      intro gN cN w6 ho5 hg5 _ hp5 hk5
      have MO5 : TMo (w.heap.size + 1 + 1 + 1) w6 (.slice (some ⟨gN, 0, none⟩) (i + 1) cN) (tidM N T (i + 1)) := by
                rw [tidM_succ]
                exact TMo.more MO (by rw [tidM_len]; exact huo) (GOwn.le hrb (by omega)) (by rw [tidM_len]; exact ho5) hg5 (fun g hg => by cases hg; exact hp5) hk5
      have hlow : Below (w.heap.size + 1 + 1 + 1) Wu1 w6 := below_grownB (Below.refl _ _) hg5 hsz6 (fun g hg => (hbk g hg).1)
      have VO5 : V2 w6 (w.heap.size + 1 + 1) (.int .i64 F) (.slice at3 i ct3) := ⟨(hlow.cell (p := ⟨_, 0, none⟩) (by show w.heap.size + 1 + 1 < w.heap.size + 1 + 1 + 1; omega)).trans VO.1, (hlow.cell (p := ⟨_, 1, none⟩) (by show w.heap.size + 1 + 1 < w.heap.size + 1 + 1 + 1; omega)).trans VO.2.1, (hlow.frozen (p := ⟨_, 0, none⟩) (by show w.heap.size + 1 + 1 < w.heap.size + 1 + 1 + 1; omega)).trans VO.2.2.1, (hlow.frozen (p := ⟨_, 1, none⟩) (by show w.heap.size + 1 + 1 < w.heap.size + 1 + 1 + 1; omega)).trans VO.2.2.2⟩
      have BB5 : Below Wb1.heap.size Wb1 w6 := BB.trans (hlow.mono (by omega))
      clear ho5 hg5 hp5 hk5 huo hup hbk hlow MO VO BB hrb VB hsz6
      refine hK.out _ _ trivial (fun _ => ?_)
      clear hK K
      simp only [Act.put, List.setIfInBounds_toArray, List.set_cons_zero, List.set_cons_succ]
      refine wpAnyH_ready (rs := [6]) (by kernel_rfl) (by simp) ?_
      refine AllReadyH.cons (by rfl) (fun K hK => ?_) AllReadyH.nil
      go_simp
      refine hK.out _ _ trivial (fun _ => ?_)
      clear hK K
      simp only [Act.put, List.setIfInBounds_toArray, List.set_cons_zero, List.set_cons_succ]
      refine wpAnyH_ready (rs := [7]) (by kernel_rfl) (by simp) ?_
      refine AllReadyH.cons (by rfl) (fun K hK => ?_) AllReadyH.nil
      obtain ⟨U_0, U_1, U_2, U_3⟩ := id VO5
      have K5 : KeepQ IsLimb w6 (w6.setCell ⟨(w.heap.size + 1 + 1), 1, none⟩ (.slice (some ⟨gN, 0, none⟩) (i + 1) cN)) := keepL_set U_1 (limb_slice _ _ _) _
      have MO6 := MO5.set (a := ⟨(w.heap.size + 1 + 1), 1, none⟩) (by show w.heap.size + 1 + 1 < w.heap.size + 1 + 1 + 1; omega) _ K5
      have VO6 : V2 (w6.setCell ⟨(w.heap.size + 1 + 1), 1, none⟩ (.slice (some ⟨gN, 0, none⟩) (i + 1) cN)) (w.heap.size + 1 + 1) (.int .i64 F) (.slice (some ⟨gN, 0, none⟩) (i + 1) cN) := ⟨cell_set_by U_0 (by omega), cell_set_at U_1, by simp [U_2], by simp [U_3]⟩
      have BB6 := BB5.setCell (p := ⟨(w.heap.size + 1 + 1), 1, none⟩) (by show Wb1.heap.size ≤ (w.heap.size + 1 + 1); omega) (.slice (some ⟨gN, 0, none⟩) (i + 1) cN)
      go_simp
      refine hK.out _ _ trivial (fun _ => ?_)
      clear hK K
      simp only [Act.put, List.setIfInBounds_toArray, List.set_cons_zero, List.set_cons_succ]
      refine wpAnyH_done (by kernel_rfl) ?_ _
      go_wp2_with fail
      go_roundw
      case rel => exact ⟨i + 1, _, by omega, by go_num, VO6, MO6, BB6⟩
      case measure => simp [intOf]; omega
    · obtain rfl : i = k := by omega
      have g1 : ¬ (i : Int) < (i : Int) := by omega
      have VRB := VR.below BL
      obtain ⟨VO_0, VO_1, VO_2, VO_3⟩ := id VO
      obtain ⟨VR_0, VR_1, VR_2, VR_3⟩ := id VRB
      have K1 : KeepQ IsLimb wr (wr.setCell ⟨(w.heap.size + 1), 0, none⟩ (.int .i64 F)) := keepL_set VR_0 (limb_int _) _
      have K2 := keepL_set (cell_set_by (u := .int .i64 F) (j := 0) VR_1 (by omega)) (limb_slice _ _ _) (.slice at3 i ct3)
      have MO2 := (MO.set (a := ⟨(w.heap.size + 1), 0, none⟩) (by show w.heap.size + 1 < w.heap.size + 1 + 1 + 1; omega) _ K1).set (a := ⟨(w.heap.size + 1), 1, none⟩) (by show w.heap.size + 1 < w.heap.size + 1 + 1 + 1; omega) _ K2
      have VR2 := VRB.same (.int .i64 F) (.slice at3 i ct3)
      have BB2 := ((BB0.out.trans (BL.mono BB0.out.size)).setCell (p := ⟨(w.heap.size + 1), 0, none⟩) (by show w.heap.size ≤ w.heap.size + 1; omega) (.int .i64 F)).setCell (p := ⟨(w.heap.size + 1), 1, none⟩) (by show w.heap.size ≤ w.heap.size + 1; omega) (.slice at3 i ct3)
      obtain ⟨Y_0, Y_1, Y_2, Y_3⟩ := id VR2
      go_wp2_with fail
      (try simp only [Exit.inBlock, Exit.then])
      refine bodyPost_ret (v := .agg #[.int .i64 F, .slice at3 i ct3]) (by simp [results, go_sem, Y_0, Y_1]) rfl ?_
      exact ⟨_, rfl, MO2.le (by omega), BB2⟩

end Go.Proofs.YtbelnhpjhpoacaaDoor
