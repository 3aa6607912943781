/-
  Texts of mine.
-/
import Derived.Test.YthfjconpjeoakaaDoorJfd6f5ca892
import Derived.Test.YthfjconpjeoakaaDoorJ038cf378dc
import Derived.Test.YthfjconpjeoakaaDoorJb8143f06d2
import Derived.Test.YthfjconpjeoakaaDoorJ086c347e79
import Derived.Test.YthfjconpjeoakaaDoorJ0ea0c24eb6
namespace Go.Proofs.YthfjconpjeoakaaDoor
open Go.ChangeShapes Go.WideShapes Go.ChangeAt Go.RowKit
set_option linter.unusedVariables false

/-- A list of rational numbers as it comes in; q i is the i-th cut to K limbs above and below. -/
def RawQ (w : World) (v : Value) (n : Nat) (q : Nat → Rat) (K : Nat) : Prop :=
  ∃ el, RowAt 3 w v n el ∧ ∀ i, i < n → ∃ p ao m c bo k d f g, el i 0 = .bool p ∧ el i 1 = .slice ao m c ∧ el i 2 = .slice bo k d ∧ Raw w (.slice ao m c) m f ∧ Raw w (.slice bo k d) k g ∧ q i = mkRat (zof p (num f (min m K))) (num g (min k K))
theorem RawQ.below {w w' : World} {v : Value} {n : Nat} {q : Nat → Rat} {K : Nat} (h : RawQ w v n q K) (hb : Below w.heap.size w w') : RawQ w' v n q K := by
  obtain ⟨el, h1, h2⟩ := h
  exact ⟨el, h1.below hb, fun i hi => let ⟨p, ao, m, c, bo, k, d, f, g, a, b, x, r, r2, e⟩ := h2 i hi; ⟨p, ao, m, c, bo, k, d, f, g, a, b, x, r.below hb, r2.below hb, e⟩⟩
/-- The i-th of them. -/
theorem RawQ.at {w : World} {v : Value} {n : Nat} {q : Nat → Rat} {K : Nat} (h : RawQ w v n q K) (i : Nat) (hi : i < n) :
    ∃ b off c p ao m d bo k e f g, v = .slice (some ⟨b, off, none⟩) n c ∧ n ≤ c ∧ w.cell? ⟨b, off + i * 3, none⟩ = some (.bool p) ∧ w.cell? ⟨b, off + i * 3 + 1, none⟩ = some (.slice ao m d) ∧ w.cell? ⟨b, off + i * 3 + 2, none⟩ = some (.slice bo k e) ∧ Raw w (.slice ao m d) m f ∧ Raw w (.slice bo k e) k g ∧ q i = mkRat (zof p (num f (min m K))) (num g (min k K)) := by
  obtain ⟨el, ⟨a, c, h1, h2, h3, h4⟩, h5⟩ := h
  obtain ⟨b, off, rfl, hc⟩ := h4 (by omega)
  obtain ⟨p, ao, m, d, bo, k, e, f, g, e0, e1, e2, r, r2, eq⟩ := h5 i hi
  have c0 := hc i hi 0 (by omega)
  have c1 := hc i hi 1 (by omega)
  have c2 := hc i hi 2 (by omega)
  rw [e0] at c0
  rw [e1] at c1
  rw [e2] at c2
  exact ⟨b, off, c, p, ao, m, d, bo, k, e, f, g, h1, h2, c0, c1, c2, r, r2, eq⟩
theorem cells3 {l : List Value} (h : l.length = 3) : ∃ a b c, l = [a, b, c] := by
  match l, h with
  | [a, b, c], _ => exact ⟨a, b, c, rfl⟩

def I64 (z : Int) : Prop := -9223372036854775808 ≤ z ∧ z ≤ 9223372036854775807
theorem i64_wf {z : Int} (h : (Lit.int .i64 z).wf = true) : I64 z := by
  have := h
  simp [Lit.wf] at this
  unfold I64
  have e1 : IntKind.i64.min = -9223372036854775808 := by decide
  have e2 : IntKind.i64.max = 9223372036854775807 := by decide
  omega
/-- A rational number's three cells, as they come in; as a number of at most L limbs. -/
def RawN (w : World) (x y z : Value) (q : Rat) (K : Nat) : Prop := ∃ p ao m c bo k d f g, x = .bool p ∧ y = .slice ao m c ∧ z = .slice bo k d ∧ Raw w (.slice ao m c) m f ∧ Raw w (.slice bo k d) k g ∧ q = mkRat (zof p (num f (min m K))) (num g (min k K))
def AtN (w : World) (x y z : Value) (q : Rat) (L : Nat) : Prop := ∃ p ao m c bo k d, x = .bool p ∧ y = .slice ao m c ∧ z = .slice bo k d ∧ RatAt w (.agg #[.bool p, .slice ao m c, .slice bo k d]) q L
theorem RawN.below {w w' : World} {x y z : Value} {q : Rat} {K : Nat} (h : RawN w x y z q K) (hb : Below w.heap.size w w') : RawN w' x y z q K := by
  obtain ⟨p, ao, m, c, bo, k, d, f, g, a, b, e, r, r2, q⟩ := h
  exact ⟨p, ao, m, c, bo, k, d, f, g, a, b, e, r.below hb, r2.below hb, q⟩
theorem AtN.below {w w' : World} {x y z : Value} {q : Rat} {L : Nat} (h : AtN w x y z q L) (hb : Below w.heap.size w w') : AtN w' x y z q L := by
  obtain ⟨p, ao, m, c, bo, k, d, a, b, e, r⟩ := h
  exact ⟨p, ao, m, c, bo, k, d, a, b, e, r.below hb⟩
def NodeRaw (w : World) (el : Nat → Value) (d : Nd) (K : Nat) : Prop := el 0 = .bool d.leaf ∧ el 1 = .int .i64 d.feat ∧ RawN w (el 2) (el 3) (el 4) d.cut K ∧ el 5 = .int .i64 d.left ∧ el 6 = .int .i64 d.right ∧ el 7 = .bool d.miss ∧ RawN w (el 8) (el 9) (el 10) d.val K ∧ RawN w (el 11) (el 12) (el 13) d.cov K ∧ I64 d.feat ∧ I64 d.left ∧ I64 d.right
def NodeAt (w : World) (el : Nat → Value) (d : Nd) (L : Nat) : Prop := el 0 = .bool d.leaf ∧ el 1 = .int .i64 d.feat ∧ AtN w (el 2) (el 3) (el 4) d.cut L ∧ el 5 = .int .i64 d.left ∧ el 6 = .int .i64 d.right ∧ el 7 = .bool d.miss ∧ AtN w (el 8) (el 9) (el 10) d.val L ∧ AtN w (el 11) (el 12) (el 13) d.cov L ∧ I64 d.feat ∧ I64 d.left ∧ I64 d.right
theorem NodeRaw.below {w w' : World} {el : Nat → Value} {d : Nd} {K : Nat} (h : NodeRaw w el d K) (hb : Below w.heap.size w w') : NodeRaw w' el d K := by
  obtain ⟨a, b, c, e, f, g, i, j, k⟩ := h
  exact ⟨a, b, c.below hb, e, f, g, i.below hb, j.below hb, k⟩
theorem NodeAt.below {w w' : World} {el : Nat → Value} {d : Nd} {L : Nat} (h : NodeAt w el d L) (hb : Below w.heap.size w w') : NodeAt w' el d L := by
  obtain ⟨a, b, c, e, f, g, i, j, k⟩ := h
  exact ⟨a, b, c.below hb, e, f, g, i.below hb, j.below hb, k⟩
def TRaw (w : World) (v : Value) (n : Nat) (t : Nat → Nd) (K : Nat) : Prop := ∃ el, RowAt 14 w v n el ∧ ∀ i, i < n → NodeRaw w (el i) (t i) K
def TRow (w : World) (v : Value) (n : Nat) (t : Nat → Nd) (L : Nat) : Prop := ∃ el, RowAt 14 w v n el ∧ ∀ i, i < n → NodeAt w (el i) (t i) L
theorem TRaw.below {w w' : World} {v : Value} {n : Nat} {t : Nat → Nd} {K : Nat} (h : TRaw w v n t K) (hb : Below w.heap.size w w') : TRaw w' v n t K := by
  obtain ⟨el, h1, h2⟩ := h
  exact ⟨el, h1.below hb, fun i hi => (h2 i hi).below hb⟩
theorem TRow.below {w w' : World} {v : Value} {n : Nat} {t : Nat → Nd} {L : Nat} (h : TRow w v n t L) (hb : Below w.heap.size w w') : TRow w' v n t L := by
  obtain ⟨el, h1, h2⟩ := h
  exact ⟨el, h1.below hb, fun i hi => (h2 i hi).below hb⟩
theorem TRow.open {w : World} {v : Value} {n : Nat} {t : Nat → Nd} {L : Nat} (h : TRow w v n t L) : ∃ a c, v = .slice a n c ∧ n ≤ c ∧ c ≤ 9223372036854775807 := by
  obtain ⟨el, ⟨a, c, h1, h2, h3, _⟩, _⟩ := h
  exact ⟨a, c, h1, h2, h3⟩
theorem TRaw.open {w : World} {v : Value} {n : Nat} {t : Nat → Nd} {L : Nat} (h : TRaw w v n t L) : ∃ a c, v = .slice a n c ∧ n ≤ c ∧ c ≤ 9223372036854775807 := by
  obtain ⟨el, ⟨a, c, h1, h2, h3, _⟩, _⟩ := h
  exact ⟨a, c, h1, h2, h3⟩
/-- Fourteen cells in a row. -/
structure N14 (w : World) (b o : Nat) (x0 x1 x2 x3 x4 x5 x6 x7 x8 x9 x10 x11 x12 x13 : Value) : Prop where
  c0 : w.cell? ⟨b, o, none⟩ = some x0
  c1 : w.cell? ⟨b, o + 1, none⟩ = some x1
  c2 : w.cell? ⟨b, o + 2, none⟩ = some x2
  c3 : w.cell? ⟨b, o + 3, none⟩ = some x3
  c4 : w.cell? ⟨b, o + 4, none⟩ = some x4
  c5 : w.cell? ⟨b, o + 5, none⟩ = some x5
  c6 : w.cell? ⟨b, o + 6, none⟩ = some x6
  c7 : w.cell? ⟨b, o + 7, none⟩ = some x7
  c8 : w.cell? ⟨b, o + 8, none⟩ = some x8
  c9 : w.cell? ⟨b, o + 9, none⟩ = some x9
  c10 : w.cell? ⟨b, o + 10, none⟩ = some x10
  c11 : w.cell? ⟨b, o + 11, none⟩ = some x11
  c12 : w.cell? ⟨b, o + 12, none⟩ = some x12
  c13 : w.cell? ⟨b, o + 13, none⟩ = some x13
theorem RowAt.n14 {w : World} {v : Value} {n : Nat} {el : Nat → Nat → Value} (h : RowAt 14 w v n el) {i : Nat} (hi : i < n) : ∃ b off c, v = .slice (some ⟨b, off, none⟩) n c ∧ n ≤ c ∧ c ≤ 9223372036854775807 ∧ N14 w b (off + i * 14) (el i 0) (el i 1) (el i 2) (el i 3) (el i 4) (el i 5) (el i 6) (el i 7) (el i 8) (el i 9) (el i 10) (el i 11) (el i 12) (el i 13) := by
  obtain ⟨a, c, h1, h2, h3, h4⟩ := h
  obtain ⟨b, off, rfl, hc⟩ := h4 (by omega)
  have hc := hc i hi
  exact ⟨b, off, c, h1, h2, h3, hc 0 (by omega), hc 1 (by omega), hc 2 (by omega), hc 3 (by omega), hc 4 (by omega), hc 5 (by omega), hc 6 (by omega), hc 7 (by omega), hc 8 (by omega), hc 9 (by omega), hc 10 (by omega), hc 11 (by omega), hc 12 (by omega), hc 13 (by omega)⟩
theorem TRow.at {w : World} {v : Value} {n : Nat} {t : Nat → Nd} {L : Nat} (h : TRow w v n t L) {i : Nat} (hi : i < n) :
    ∃ b off c p1 a1 n1 c1 b1 m1 d1 p2 a2 n2 c2 b2 m2 d2 p3 a3 n3 c3 b3 m3 d3, v = .slice (some ⟨b, off, none⟩) n c ∧ n ≤ c ∧ c ≤ 9223372036854775807 ∧
      N14 w b (off + i * 14) (.bool (t i).leaf) (.int .i64 (t i).feat) (.bool p1) (.slice a1 n1 c1) (.slice b1 m1 d1) (.int .i64 (t i).left) (.int .i64 (t i).right) (.bool (t i).miss) (.bool p2) (.slice a2 n2 c2) (.slice b2 m2 d2) (.bool p3) (.slice a3 n3 c3) (.slice b3 m3 d3) ∧
      RatAt w (.agg #[.bool p1, .slice a1 n1 c1, .slice b1 m1 d1]) (t i).cut L ∧ RatAt w (.agg #[.bool p2, .slice a2 n2 c2, .slice b2 m2 d2]) (t i).val L ∧ RatAt w (.agg #[.bool p3, .slice a3 n3 c3, .slice b3 m3 d3]) (t i).cov L ∧ I64 (t i).feat ∧ I64 (t i).left ∧ I64 (t i).right := by
  obtain ⟨el, h1, h2⟩ := h
  obtain ⟨b, off, c, e, hc, hm, hN⟩ := h1.n14 hi
  obtain ⟨e0, e1, ⟨p1, a1, n1, c1, b1, m1, d1, e2, e3, e4, r1⟩, e5, e6, e7, ⟨p2, a2, n2, c2, b2, m2, d2, e8, e9, e10, r2⟩, ⟨p3, a3, n3, c3, b3, m3, d3, e11, e12, e13, r3⟩, i1, i2, i3⟩ := h2 i hi
  rw [e0, e1, e2, e3, e4, e5, e6, e7, e8, e9, e10, e11, e12, e13] at hN
  exact ⟨b, off, c, p1, a1, n1, c1, b1, m1, d1, p2, a2, n2, c2, b2, m2, d2, p3, a3, n3, c3, b3, m3, d3, e, hc, hm, hN, r1, r2, r3, i1, i2, i3⟩
theorem TRaw.at {w : World} {v : Value} {n : Nat} {t : Nat → Nd} {K : Nat} (h : TRaw w v n t K) {i : Nat} (hi : i < n) :
    ∃ b off c p1 a1 n1 c1 b1 m1 d1 f1 g1 p2 a2 n2 c2 b2 m2 d2 f2 g2 p3 a3 n3 c3 b3 m3 d3 f3 g3, v = .slice (some ⟨b, off, none⟩) n c ∧ n ≤ c ∧ c ≤ 9223372036854775807 ∧
      N14 w b (off + i * 14) (.bool (t i).leaf) (.int .i64 (t i).feat) (.bool p1) (.slice a1 n1 c1) (.slice b1 m1 d1) (.int .i64 (t i).left) (.int .i64 (t i).right) (.bool (t i).miss) (.bool p2) (.slice a2 n2 c2) (.slice b2 m2 d2) (.bool p3) (.slice a3 n3 c3) (.slice b3 m3 d3) ∧
      (Raw w (.slice a1 n1 c1) n1 f1 ∧ Raw w (.slice b1 m1 d1) m1 g1 ∧ (t i).cut = mkRat (zof p1 (num f1 (min n1 K))) (num g1 (min m1 K))) ∧
      (Raw w (.slice a2 n2 c2) n2 f2 ∧ Raw w (.slice b2 m2 d2) m2 g2 ∧ (t i).val = mkRat (zof p2 (num f2 (min n2 K))) (num g2 (min m2 K))) ∧
      (Raw w (.slice a3 n3 c3) n3 f3 ∧ Raw w (.slice b3 m3 d3) m3 g3 ∧ (t i).cov = mkRat (zof p3 (num f3 (min n3 K))) (num g3 (min m3 K))) ∧ I64 (t i).feat ∧ I64 (t i).left ∧ I64 (t i).right := by
  obtain ⟨el, h1, h2⟩ := h
  obtain ⟨b, off, c, e, hc, hm, hN⟩ := h1.n14 hi
  obtain ⟨e0, e1, ⟨p1, a1, n1, c1, b1, m1, d1, f1, g1, e2, e3, e4, r1⟩, e5, e6, e7, ⟨p2, a2, n2, c2, b2, m2, d2, f2, g2, e8, e9, e10, r2⟩, ⟨p3, a3, n3, c3, b3, m3, d3, f3, g3, e11, e12, e13, r3⟩, i1, i2, i3⟩ := h2 i hi
  rw [e0, e1, e2, e3, e4, e5, e6, e7, e8, e9, e10, e11, e12, e13] at hN
  exact ⟨b, off, c, p1, a1, n1, c1, b1, m1, d1, f1, g1, p2, a2, n2, c2, b2, m2, d2, f2, g2, p3, a3, n3, c3, b3, m3, d3, f3, g3, e, hc, hm, hN, r1, r2, r3, i1, i2, i3⟩
/-- A model's trees. -/
def MRaw (w : World) (v : Value) (k : Nat) (N : Nat → Nat) (t : Nat → Nat → Nd) (K : Nat) : Prop := ∃ el, RowAt 1 w v k el ∧ ∀ i, i < k → TRaw w (el i 0) (N i) (t i) K
def MRow (w : World) (v : Value) (k : Nat) (N : Nat → Nat) (t : Nat → Nat → Nd) (L : Nat) : Prop := ∃ el, RowAt 1 w v k el ∧ ∀ i, i < k → TRow w (el i 0) (N i) (t i) L
theorem MRaw.below {w w' : World} {v : Value} {k : Nat} {N : Nat → Nat} {t : Nat → Nat → Nd} {K : Nat} (h : MRaw w v k N t K) (hb : Below w.heap.size w w') : MRaw w' v k N t K := by
  obtain ⟨el, h1, h2⟩ := h
  exact ⟨el, h1.below hb, fun i hi => (h2 i hi).below hb⟩
theorem MRow.below {w w' : World} {v : Value} {k : Nat} {N : Nat → Nat} {t : Nat → Nat → Nd} {L : Nat} (h : MRow w v k N t L) (hb : Below w.heap.size w w') : MRow w' v k N t L := by
  obtain ⟨el, h1, h2⟩ := h
  exact ⟨el, h1.below hb, fun i hi => (h2 i hi).below hb⟩
theorem MRow.open {w : World} {v : Value} {k : Nat} {N : Nat → Nat} {t : Nat → Nat → Nd} {L : Nat} (h : MRow w v k N t L) : ∃ a c, v = .slice a k c ∧ k ≤ c ∧ c ≤ 9223372036854775807 := by
  obtain ⟨el, ⟨a, c, h1, h2, h3, _⟩, _⟩ := h
  exact ⟨a, c, h1, h2, h3⟩
theorem MRaw.open {w : World} {v : Value} {k : Nat} {N : Nat → Nat} {t : Nat → Nat → Nd} {L : Nat} (h : MRaw w v k N t L) : ∃ a c, v = .slice a k c ∧ k ≤ c ∧ c ≤ 9223372036854775807 := by
  obtain ⟨el, ⟨a, c, h1, h2, h3, _⟩, _⟩ := h
  exact ⟨a, c, h1, h2, h3⟩
theorem MRow.at {w : World} {v : Value} {k : Nat} {N : Nat → Nat} {t : Nat → Nat → Nd} {L : Nat} (h : MRow w v k N t L) {i : Nat} (hi : i < k) : ∃ b off c a d, v = .slice (some ⟨b, off, none⟩) k c ∧ k ≤ c ∧ w.cell? ⟨b, off + i, none⟩ = some (.slice a (N i) d) ∧ TRow w (.slice a (N i) d) (N i) (t i) L := by
  obtain ⟨el, ⟨a, c, h1, h2, h3, h4⟩, h5⟩ := h
  obtain ⟨b, off, rfl, hc⟩ := h4 (by omega)
  obtain ⟨a, d, e, _⟩ := (h5 i hi).open
  have := hc i hi 0 (by omega)
  rw [Nat.mul_one, Nat.add_zero, e] at this
  exact ⟨b, off, c, a, d, h1, h2, this, e ▸ h5 i hi⟩
theorem MRaw.at {w : World} {v : Value} {k : Nat} {N : Nat → Nat} {t : Nat → Nat → Nd} {L : Nat} (h : MRaw w v k N t L) {i : Nat} (hi : i < k) : ∃ b off c a d, v = .slice (some ⟨b, off, none⟩) k c ∧ k ≤ c ∧ w.cell? ⟨b, off + i, none⟩ = some (.slice a (N i) d) ∧ TRaw w (.slice a (N i) d) (N i) (t i) L := by
  obtain ⟨el, ⟨a, c, h1, h2, h3, h4⟩, h5⟩ := h
  obtain ⟨b, off, rfl, hc⟩ := h4 (by omega)
  obtain ⟨a, d, e, _⟩ := (h5 i hi).open
  have := hc i hi 0 (by omega)
  rw [Nat.mul_one, Nat.add_zero, e] at this
  exact ⟨b, off, c, a, d, h1, h2, this, e ▸ h5 i hi⟩
/-- A variable for a node, and what it holds. -/
structure V14 (w : World) (R : Nat) (x0 x1 x2 x3 x4 x5 x6 x7 x8 x9 x10 x11 x12 x13 : Value) : Prop where
  c0 : w.cell? ⟨R, 0, none⟩ = some x0
  c1 : w.cell? ⟨R, 1, none⟩ = some x1
  c2 : w.cell? ⟨R, 2, none⟩ = some x2
  c3 : w.cell? ⟨R, 3, none⟩ = some x3
  c4 : w.cell? ⟨R, 4, none⟩ = some x4
  c5 : w.cell? ⟨R, 5, none⟩ = some x5
  c6 : w.cell? ⟨R, 6, none⟩ = some x6
  c7 : w.cell? ⟨R, 7, none⟩ = some x7
  c8 : w.cell? ⟨R, 8, none⟩ = some x8
  c9 : w.cell? ⟨R, 9, none⟩ = some x9
  c10 : w.cell? ⟨R, 10, none⟩ = some x10
  c11 : w.cell? ⟨R, 11, none⟩ = some x11
  c12 : w.cell? ⟨R, 12, none⟩ = some x12
  c13 : w.cell? ⟨R, 13, none⟩ = some x13
theorem V14.lt {w : World} {R : Nat} {x0 x1 x2 x3 x4 x5 x6 x7 x8 x9 x10 x11 x12 x13 : Value} (h : V14 w R x0 x1 x2 x3 x4 x5 x6 x7 x8 x9 x10 x11 x12 x13) : R < w.heap.size := World.block_lt_of_cell? _ _ h.c0
theorem V14.below {w w' : World} {R : Nat} {x0 x1 x2 x3 x4 x5 x6 x7 x8 x9 x10 x11 x12 x13 : Value} (h : V14 w R x0 x1 x2 x3 x4 x5 x6 x7 x8 x9 x10 x11 x12 x13) (hb : Below w.heap.size w w') : V14 w' R x0 x1 x2 x3 x4 x5 x6 x7 x8 x9 x10 x11 x12 x13 := by
  have hl := h.lt
  obtain ⟨h0, h1, h2, h3, h4, h5, h6, h7, h8, h9, h10, h11, h12, h13⟩ := h
  exact ⟨(hb.cell hl).trans h0, (hb.cell hl).trans h1, (hb.cell hl).trans h2, (hb.cell hl).trans h3, (hb.cell hl).trans h4, (hb.cell hl).trans h5, (hb.cell hl).trans h6, (hb.cell hl).trans h7, (hb.cell hl).trans h8, (hb.cell hl).trans h9, (hb.cell hl).trans h10, (hb.cell hl).trans h11, (hb.cell hl).trans h12, (hb.cell hl).trans h13⟩
theorem V14.lay (w : World) (t : TypeId) (x0 x1 x2 x3 x4 x5 x6 x7 x8 x9 x10 x11 x12 x13 : Value) : ∃ W, W = w.alloc (.cells #[x0, x1, x2, x3, x4, x5, x6, x7, x8, x9, x10, x11, x12, x13] t) ∧ W.heap.size = w.heap.size + 1 ∧ Below w.heap.size w W ∧ V14 W w.heap.size x0 x1 x2 x3 x4 x5 x6 x7 x8 x9 x10 x11 x12 x13 ∧ (∀ j, W.frozen? ⟨w.heap.size, j, none⟩ = false) := by
  have hb := heap_alloc_new w (.cells #[x0, x1, x2, x3, x4, x5, x6, x7, x8, x9, x10, x11, x12, x13] t)
  refine ⟨_, rfl, by simp, (Below.refl _ _).alloc (Nat.le_refl _) _, ?_, ?_⟩
  · constructor <;> (rw [cell_of_row _ _ _ _ _ _ hb]; rfl)
  · intro j
    simp only [World.frozen?]
    rw [hb]
    simp
/-- A fault. -/
def fltV (x : Option (Int × Nat × Nat)) : Value := match x with
  | none => .agg #[.int .i64 0, .int .i64 0, .int .i64 0, .int .i64 0]
  | some (e, i, nd) => .agg #[.int .i64 e, .int .i64 0, .int .i64 (i : Int), .int .i64 (nd : Int)]

theorem cells14 {l : List Value} (h : l.length = 14) : ∃ x0 x1 x2 x3 x4 x5 x6 x7 x8 x9 x10 x11 x12 x13, l = [x0, x1, x2, x3, x4, x5, x6, x7, x8, x9, x10, x11, x12, x13] := by
  match l, h with
  | [x0, x1, x2, x3, x4, x5, x6, x7, x8, x9, x10, x11, x12, x13], _ => exact ⟨x0, x1, x2, x3, x4, x5, x6, x7, x8, x9, x10, x11, x12, x13, rfl⟩
theorem cells_node : Tryd.prog.cellsOf 41 = 14 := by kernel_rfl
theorem cells_int : Tryd.prog.cellsOf 3 = 1 := by kernel_rfl
set_option maxRecDepth 100000 in
theorem trod_rat3 {H : Type} {enc : TypeId × Value → H} {W : World} {base n : Nat} {c0 c1 c2 : Value} {y : DataW H × List MemPlace} (K : Nat) (h : DataW.trod enc Tryd.prog W base (fun _ => true) true n 39 [c0, c1, c2] = some y) : ∃ q, RawN W c0 c1 c2 q K := by
  obtain ⟨y0, y1, m, hx, _, hy0, hy1⟩ := trod_struct2 Tryd.underlying39 h
  obtain ⟨z0, z1, m2, hx2, _, hz0, hz1⟩ := trod_struct2 Tryd.underlying37 hy0
  obtain ⟨b, e0, _⟩ := DataW.trod_bool Tryd.underlying4 hz0
  obtain ⟨ao, n1, c3, f, e1, hraw⟩ := open_nat hz1
  obtain ⟨bo, m3, d3, g, e2, hraw2⟩ := open_nat hy1
  simp [cells_bool, cells_nat, cells_wint] at e0 e1 e2
  exact ⟨_, b, ao, n1, c3, bo, m3, d3, f, g, e0, e1, e2, hraw, hraw2, rfl⟩
set_option maxRecDepth 100000 in
theorem trod_node {H : Type} {enc : TypeId × Value → H} {W : World} {base n : Nat} {x0 x1 x2 x3 x4 x5 x6 x7 x8 x9 x10 x11 x12 x13 : Value} {y : DataW H × List MemPlace} (K : Nat) (h : DataW.trod enc Tryd.prog W base (fun _ => true) true n 41 [x0, x1, x2, x3, x4, x5, x6, x7, x8, x9, x10, x11, x12, x13] = some y) :
    ∃ d : Nd, NodeRaw W (fun j => [x0, x1, x2, x3, x4, x5, x6, x7, x8, x9, x10, x11, x12, x13].getD j undef) d K := by
  obtain ⟨xs, m, _, _, _, hxl, hf⟩ := DataW.trod_struct Tryd.underlying41 h
  have get : ∀ i, i < 8 → ∃ z, xs[i]? = some z := fun i hi => ⟨xs[i]'(by rw [hxl]; exact hi), List.getElem?_eq_getElem _⟩
  obtain ⟨z0, g0⟩ := get 0 (by omega)
  obtain ⟨z1, g1⟩ := get 1 (by omega)
  obtain ⟨z2, g2⟩ := get 2 (by omega)
  obtain ⟨z3, g3⟩ := get 3 (by omega)
  obtain ⟨z4, g4⟩ := get 4 (by omega)
  obtain ⟨z5, g5⟩ := get 5 (by omega)
  obtain ⟨z6, g6⟩ := get 6 (by omega)
  obtain ⟨z7, g7⟩ := get 7 (by omega)
  have h0 : DataW.trod enc Tryd.prog W base (fun _ => true) true m 4 [x0] = some z0 := by
    have h : DataW.trod enc Tryd.prog W base (fun _ => true) true m 4 (List.take (Tryd.prog.cellsOf 4) (List.drop 0 [x0, x1, x2, x3, x4, x5, x6, x7, x8, x9, x10, x11, x12, x13])) = some z0 := (hf 0 _ rfl).trans g0
    rw [cells_bool] at h
    exact h
  have h1 : DataW.trod enc Tryd.prog W base (fun _ => true) true m 3 [x1] = some z1 := by
    have h : DataW.trod enc Tryd.prog W base (fun _ => true) true m 3 (List.take (Tryd.prog.cellsOf 3) (List.drop 1 [x0, x1, x2, x3, x4, x5, x6, x7, x8, x9, x10, x11, x12, x13])) = some z1 := (hf 1 _ rfl).trans g1
    rw [cells_int] at h
    exact h
  have h2 : DataW.trod enc Tryd.prog W base (fun _ => true) true m 39 [x2, x3, x4] = some z2 := by
    have h : DataW.trod enc Tryd.prog W base (fun _ => true) true m 39 (List.take (Tryd.prog.cellsOf 39) (List.drop 2 [x0, x1, x2, x3, x4, x5, x6, x7, x8, x9, x10, x11, x12, x13])) = some z2 := (hf 2 _ rfl).trans g2
    rw [cells_wrat] at h
    exact h
  have h3 : DataW.trod enc Tryd.prog W base (fun _ => true) true m 3 [x5] = some z3 := by
    have h : DataW.trod enc Tryd.prog W base (fun _ => true) true m 3 (List.take (Tryd.prog.cellsOf 3) (List.drop 5 [x0, x1, x2, x3, x4, x5, x6, x7, x8, x9, x10, x11, x12, x13])) = some z3 := (hf 3 _ rfl).trans g3
    rw [cells_int] at h
    exact h
  have h4 : DataW.trod enc Tryd.prog W base (fun _ => true) true m 3 [x6] = some z4 := by
    have h : DataW.trod enc Tryd.prog W base (fun _ => true) true m 3 (List.take (Tryd.prog.cellsOf 3) (List.drop 6 [x0, x1, x2, x3, x4, x5, x6, x7, x8, x9, x10, x11, x12, x13])) = some z4 := (hf 4 _ rfl).trans g4
    rw [cells_int] at h
    exact h
  have h5 : DataW.trod enc Tryd.prog W base (fun _ => true) true m 4 [x7] = some z5 := by
    have h : DataW.trod enc Tryd.prog W base (fun _ => true) true m 4 (List.take (Tryd.prog.cellsOf 4) (List.drop 7 [x0, x1, x2, x3, x4, x5, x6, x7, x8, x9, x10, x11, x12, x13])) = some z5 := (hf 5 _ rfl).trans g5
    rw [cells_bool] at h
    exact h
  have h6 : DataW.trod enc Tryd.prog W base (fun _ => true) true m 39 [x8, x9, x10] = some z6 := by
    have h : DataW.trod enc Tryd.prog W base (fun _ => true) true m 39 (List.take (Tryd.prog.cellsOf 39) (List.drop 8 [x0, x1, x2, x3, x4, x5, x6, x7, x8, x9, x10, x11, x12, x13])) = some z6 := (hf 6 _ rfl).trans g6
    rw [cells_wrat] at h
    exact h
  have h7 : DataW.trod enc Tryd.prog W base (fun _ => true) true m 39 [x11, x12, x13] = some z7 := by
    have h : DataW.trod enc Tryd.prog W base (fun _ => true) true m 39 (List.take (Tryd.prog.cellsOf 39) (List.drop 11 [x0, x1, x2, x3, x4, x5, x6, x7, x8, x9, x10, x11, x12, x13])) = some z7 := (hf 7 _ rfl).trans g7
    rw [cells_wrat] at h
    exact h
  obtain ⟨lf, e0, _⟩ := DataW.trod_bool Tryd.underlying4 h0
  obtain ⟨ft, e1, _, w1⟩ := DataW.trod_int Tryd.underlying3 h1
  obtain ⟨qc, r2⟩ := trod_rat3 K h2
  obtain ⟨lt, e3, _, w3⟩ := DataW.trod_int Tryd.underlying3 h3
  obtain ⟨rt, e4, _, w4⟩ := DataW.trod_int Tryd.underlying3 h4
  obtain ⟨ms, e5, _⟩ := DataW.trod_bool Tryd.underlying4 h5
  obtain ⟨qv, r6⟩ := trod_rat3 K h6
  obtain ⟨qo, r7⟩ := trod_rat3 K h7
  simp only [List.cons.injEq, and_true] at e0 e1 e3 e4 e5
  exact ⟨⟨lf, ft, qc, lt, rt, ms, qv, qo⟩, e0, e1, r2, e3, e4, e5, r6, r7, i64_wf w1, i64_wf w3, i64_wf w4⟩
set_option maxRecDepth 100000 in
theorem trod_tree {H : Type} {enc : TypeId × Value → H} {W : World} {base fuel : Nat} {c : Value} {y : DataW H × List MemPlace} (K : Nat) (hf : DataW.trod enc Tryd.prog W base (fun _ => true) true fuel 33 [c] = some y) : ∃ n t, TRaw W c n t K := by
  rcases Go.Deep.open_slice Tryd.underlying33 hf with ⟨hcs, _⟩ | ⟨x, l, c', m, n, D, Pl, hcs, _, hl, hm, hmm, _, hall⟩
  · simp only [List.cons.injEq, and_true] at hcs
    subst hcs
    exact ⟨0, fun _ => ⟨false, 0, 0, 0, 0, false, 0, 0⟩, fun _ _ => .bool false, RowAt.nil _ _ _, fun i hi => by omega⟩
  · simp only [List.cons.injEq, and_true] at hcs
    subst hcs
    rw [if_pos rfl] at hmm
    subst hmm
    rw [cells_node] at hall
    have each : ∀ i, ∃ y : Nd × (Nat → Value), i < l → (∀ j, j < 14 → W.cell? (x.add (i * 14 + j)) = some (y.2 j)) ∧ NodeRaw W y.2 y.1 K := by
      intro i
      by_cases hi : i < l
      · obtain ⟨cs, h1, h2⟩ := hall i (by omega)
        obtain ⟨_, hlen, hcell⟩ := World.cells?_some h1
        obtain ⟨x0, x1, x2, x3, x4, x5, x6, x7, x8, x9, x10, x11, x12, x13, rfl⟩ := cells14 hlen
        obtain ⟨d, hd⟩ := trod_node K h2
        refine ⟨(d, _), fun _ => ⟨fun j hj => ?_, hd⟩⟩
        have k := hcell j (by omega)
        rw [Go.Deep.add_add] at k
        rw [k]
        rcases (by omega : j = 0 ∨ j = 1 ∨ j = 2 ∨ j = 3 ∨ j = 4 ∨ j = 5 ∨ j = 6 ∨ j = 7 ∨ j = 8 ∨ j = 9 ∨ j = 10 ∨ j = 11 ∨ j = 12 ∨ j = 13) with rfl | rfl | rfl | rfl | rfl | rfl | rfl | rfl | rfl | rfl | rfl | rfl | rfl | rfl <;> rfl
      · exact ⟨(⟨false, 0, 0, 0, 0, false, 0, 0⟩, fun _ => .bool false), fun h => absurd h hi⟩
    obtain ⟨Y, hY⟩ := Classical.axiomOfChoice each
    refine ⟨l, fun i => (Y i).1, fun i => (Y i).2, ⟨_, _, rfl, hl, by unfold maxLen at hm; omega, fun h0 => ?_⟩, fun i hi => (hY i hi).2⟩
    obtain ⟨b, off, spot⟩ := x
    have hc := (hY 0 (by omega)).1 0 (by omega)
    have hspot : spot = none := by simpa [Addr.add] using World.cell?_spot hc
    subst hspot
    refine ⟨b, off, rfl, fun i hi j hj => ?_⟩
    have := (hY i hi).1 j hj
    rw [add_off] at this
    rw [Nat.add_assoc]
    exact this
set_option maxRecDepth 100000 in
theorem trod_trees {H : Type} {enc : TypeId × Value → H} {W : World} {base fuel : Nat} {c : Value} {y : DataW H × List MemPlace} (K : Nat) (hf : DataW.trod enc Tryd.prog W base (fun _ => true) true fuel 22 [c] = some y) : ∃ k N t, MRaw W c k N t K := by
  rcases Go.Deep.open_slice Tryd.underlying22 hf with ⟨hcs, _⟩ | ⟨x, l, c', m, n, D, Pl, hcs, _, hl, hm, hmm, _, hall⟩
  · simp only [List.cons.injEq, and_true] at hcs
    subst hcs
    exact ⟨0, fun _ => 0, fun _ _ => ⟨false, 0, 0, 0, 0, false, 0, 0⟩, fun _ _ => .bool false, RowAt.nil _ _ _, fun i hi => by omega⟩
  · simp only [List.cons.injEq, and_true] at hcs
    subst hcs
    rw [if_pos rfl] at hmm
    subst hmm
    rw [show Tryd.prog.cellsOf 33 = 1 by kernel_rfl] at hall
    have each : ∀ i, ∃ y : Value × Nat × (Nat → Nd), i < l → W.cell? (x.add (i * 1)) = some y.1 ∧ TRaw W y.1 y.2.1 y.2.2 K := by
      intro i
      by_cases hi : i < l
      · obtain ⟨cs, h1, h2⟩ := hall i (by omega)
        obtain ⟨_, hlen, hcell⟩ := World.cells?_some h1
        obtain ⟨u, rfl⟩ : ∃ u, cs = [u] := by
          match cs, hlen with
          | [u], _ => exact ⟨u, rfl⟩
        obtain ⟨n, t, ht⟩ := trod_tree K h2
        refine ⟨(u, n, t), fun _ => ⟨?_, ht⟩⟩
        have k := hcell 0 (by omega)
        rw [Go.Deep.add_add, Nat.add_zero] at k
        exact k
      · exact ⟨(.bool false, 0, fun _ => ⟨false, 0, 0, 0, 0, false, 0, 0⟩), fun h => absurd h hi⟩
    obtain ⟨Y, hY⟩ := Classical.axiomOfChoice each
    refine ⟨l, fun i => (Y i).2.1, fun i => (Y i).2.2, fun i _ => (Y i).1, ⟨_, _, rfl, hl, by unfold maxLen at hm; omega, fun h0 => ?_⟩, fun i hi => (hY i hi).2⟩
    obtain ⟨b, off, spot⟩ := x
    have hc := (hY 0 (by omega)).1
    have hspot : spot = none := by simpa [Addr.add] using World.cell?_spot hc
    subst hspot
    refine ⟨b, off, rfl, fun i hi j hj => ?_⟩
    have := (hY i hi).1
    rw [add_off] at this
    rw [show j = 0 by omega, Nat.add_zero]
    exact this
set_option maxRecDepth 100000 in
/-- A list of nodes that comes in; a model that comes in. -/
theorem open_nodes {H : Type} {enc : TypeId × Value → H} {W : World} {base b0 : Nat} {r : Reach} {v : Value} {d : DataW H} {ps : List MemPlace} (K : Nat)
    (hval : Value.okWide Tryd.prog W r b0 33 v) (h : DataW.Trod enc Tryd.prog W base (fun _ => true) true 33 v d ps) : ∃ n t, TRaw W v n t K := by
  obtain ⟨a, len, cap, rfl⟩ := okWide_slice Tryd.underlying33 hval
  obtain ⟨fuel, hf⟩ := h
  exact trod_tree K hf
set_option maxRecDepth 100000 in
theorem open_model {H : Type} {enc : TypeId × Value → H} {W : World} {base b0 : Nat} {r : Reach} {v : Value} {d : DataW H} {ps : List MemPlace} (K : Nat)
    (hval : Value.okWide Tryd.prog W r b0 24 v) (h : DataW.Trod enc Tryd.prog W base (fun _ => true) true 24 v d ps) : ∃ F a c k N t, v = .agg #[.int .i64 F, .slice a k c] ∧ I64 F ∧ MRaw W (.slice a k c) k N t K := by
  obtain ⟨cs, rfl, hsz⟩ := okWide_struct Tryd.underlying24 hval
  rw [show Tryd.prog.cellsOf 24 = 2 by kernel_rfl] at hsz
  obtain ⟨c0, c1, rfl⟩ : ∃ a b, cs = #[a, b] := by
    obtain ⟨l⟩ := cs
    match l, hsz with
    | [a, b], _ => exact ⟨a, b, rfl⟩
  obtain ⟨fuel, hf⟩ := h
  obtain ⟨y0, y1, m, hx, _, hy0, hy1⟩ := trod_struct2 Tryd.underlying24 hf
  obtain ⟨F, e0, _, w0⟩ := DataW.trod_int Tryd.underlying3 hy0
  simp [Value.cells, cells_int, show Tryd.prog.cellsOf 22 = 1 by kernel_rfl] at e0 hy1
  obtain ⟨k, N, t, ht⟩ := trod_trees K hy1
  obtain ⟨a, c, e, _⟩ := ht.open
  exact ⟨F, a, c, k, N, t, by rw [e0, e], i64_wf w0, e ▸ ht⟩

end Go.Proofs.YthfjconpjeoakaaDoor

namespace Go.Proofs.YthfjconpjeoakaaDoor
open Go.RowKit
set_option linter.unusedVariables false

theorem cell_set_at {w : World} {R i : Nat} {x u : Value} (h : w.cell? ⟨R, i, none⟩ = some x) : (w.setCell ⟨R, i, none⟩ u).cell? ⟨R, i, none⟩ = some u := World.cell?_setCell_same _ _ _ h
theorem cell_set_by {w : World} {R i j : Nat} {x u : Value} (h : w.cell? ⟨R, i, none⟩ = some x) (hne : i ≠ j) : (w.setCell ⟨R, j, none⟩ u).cell? ⟨R, i, none⟩ = some x := by
  rw [World.cell?_setCell_other _ _ _ _ (fun e => hne (by injection e with _ e2; exact e2.symm))]; exact h
theorem grown_at (w : World) (a : Addr) (x : Value) : w.grownBy (w.setCell a x) (some a.block) :=
  ⟨rfl, rfl, rfl, by simp, fun k _ hk => by rw [Below.heap_setCell _ _ _ _ (fun e => hk (by rw [e]))]⟩
theorem limb_bool (b : Bool) : ¬ IsLimb (.bool b) := fun ⟨_, h⟩ => by rcases h with h | h <;> cases h
theorem limb_slice (a : Option Addr) (n c : Nat) : ¬ IsLimb (.slice a n c) := fun ⟨_, h⟩ => by rcases h with h | h <;> cases h
theorem AtN.keepL {w w' : World} {x y z : Value} {q : Rat} {L : Nat} (h : AtN w x y z q L) (hk : KeepQ IsLimb w w') : AtN w' x y z q L := by
  obtain ⟨p, ao, m, c, bo, k, d, a, b, e, r⟩ := h
  exact ⟨p, ao, m, c, bo, k, d, a, b, e, r.keepL hk⟩
theorem NodeAt.keepL {w w' : World} {el : Nat → Value} {d : Nd} {L : Nat} (h : NodeAt w el d L) (hk : KeepQ IsLimb w w') : NodeAt w' el d L := by
  obtain ⟨a, b, c, e, f, g, i, j, k⟩ := h
  exact ⟨a, b, c.keepL hk, e, f, g, i.keepL hk, j.keepL hk, k⟩
theorem NodeAt.congr {w : World} {el el' : Nat → Value} {d : Nd} {L : Nat} (h : NodeAt w el d L) (e : ∀ j, j < 14 → el j = el' j) : NodeAt w el' d L := by
  unfold NodeAt at h ⊢
  rw [← e 0 (by omega), ← e 1 (by omega), ← e 2 (by omega), ← e 3 (by omega), ← e 4 (by omega), ← e 5 (by omega), ← e 6 (by omega), ← e 7 (by omega), ← e 8 (by omega), ← e 9 (by omega), ← e 10 (by omega), ← e 11 (by omega), ← e 12 (by omega), ← e 13 (by omega)]
  exact h
/-- A tree of the call's own. -/
def NOwn (B : Nat) (w : World) (v : Value) (n : Nat) (t : Nat → Nd) (L : Nat) : Prop := ∃ cs : List Value, w.ownsRow B 41 14 v n cs ∧ (∀ g, v.ownBlock = some g → PureB IsLimb w g) ∧ ∀ i, i < n → NodeAt w (fun j => cs.getD (i * 14 + j) undef) (t i) L
theorem NOwn.nil (B : Nat) (w : World) (t : Nat → Nd) (L : Nat) : NOwn B w (.slice none 0 0) 0 t L := ⟨[], World.ownsRow_nil _ _ _ _, fun g h => by simp [Value.ownBlock] at h, fun i hi => by omega⟩
theorem owns_le {B B' k : Nat} {e : TypeId} {w : World} {v : Value} {n : Nat} {us : List Value} (h : w.ownsRow B e k v n us) (hb : B' ≤ B) : w.ownsRow B' e k v n us := by
  refine ⟨h.1, ?_⟩
  rcases h.2 with hn | ⟨g, cap, cur, rfl, hB, rest⟩
  · exact .inl hn
  · exact .inr ⟨g, cap, cur, rfl, by omega, rest⟩
theorem NOwn.le {B B' : Nat} {w : World} {v : Value} {n : Nat} {t : Nat → Nd} {L : Nat} (h : NOwn B w v n t L) (hb : B' ≤ B) : NOwn B' w v n t L := by
  obtain ⟨cs, h1, h2, h3⟩ := h
  exact ⟨cs, owns_le h1 hb, h2, h3⟩
theorem NOwn.later {B : Nat} {w w' : World} {v : Value} {n : Nat} {t : Nat → Nd} {L : Nat} (h : NOwn B w v n t L) (hb : Below w.heap.size w w') : NOwn B w' v n t L := by
  obtain ⟨cs, h1, h2, h3⟩ := h
  exact ⟨cs, owns_later h1 hb, fun g hg => (h2 g hg).below hb (World.ownsRow.lt h1 g hg).2, fun i hi => (h3 i hi).below hb⟩
theorem NOwn.form {B : Nat} {w : World} {v : Value} {n : Nat} {t : Nat → Nd} {L : Nat} (h : NOwn B w v n t L) : ∃ a c, v = .slice a n c := by
  obtain ⟨cs, h1, _⟩ := h
  rcases h1.2 with ⟨rfl, rfl⟩ | ⟨g, c, _, rfl, _⟩
  · exact ⟨none, 0, rfl⟩
  · exact ⟨_, c, rfl⟩
theorem NOwn.row {B : Nat} {w : World} {v : Value} {n : Nat} {t : Nat → Nd} {L : Nat} (h : NOwn B w v n t L) : TRow w v n t L := by
  obtain ⟨cs, h1, _, h3⟩ := h
  refine ⟨fun i j => cs.getD (i * 14 + j) undef, ?_, h3⟩
  have hl := h1.1
  rcases h1.2 with ⟨rfl, rfl⟩ | ⟨g, c, cur, rfl, hB, hg, hc, hm, rest⟩
  · exact RowAt.nil _ _ _
  · refine ⟨_, c, rfl, hc, by unfold maxLen at hm; omega, fun _ => ⟨g, 0, rfl, fun i hi j hj => ?_⟩⟩
    have hlt : i * 14 + j < cs.length := by rw [hl]; omega
    rw [Nat.zero_add]
    exact owns_cell h1 (by show cs[i * 14 + j]? = some (cs.getD (i * 14 + j) undef); rw [List.getD_eq_getElem?_getD, List.getElem?_eq_getElem hlt]; rfl)
/-- One node more. -/
theorem NOwn.more {B : Nat} {w w' : World} {v v' : Value} {n : Nat} {t : Nat → Nd} {L : Nat} {cs news : List Value} (h1 : w'.ownsRow B 41 14 v' (n + 1) (cs ++ news)) (hl : cs.length = n * 14) (hp : ∀ g, v'.ownBlock = some g → PureB IsLimb w' g) (hk : KeepQ IsLimb w w') (h3 : ∀ i, i < n → NodeAt w (fun j => cs.getD (i * 14 + j) undef) (t i) L) (hn : NodeAt w (fun j => news.getD j undef) (t n) L) : NOwn B w' v' (n + 1) t L := by
  refine ⟨_, h1, hp, fun i hi => ?_⟩
  by_cases e : i = n
  · subst e
    refine (hn.keepL hk).congr (fun j hj => ?_)
    simp only [List.getD_eq_getElem?_getD]
    rw [List.getElem?_append_right (by omega), hl, Nat.add_sub_cancel_left]
  · refine ((h3 i (by omega)).keepL hk).congr (fun j hj => ?_)
    simp only [List.getD_eq_getElem?_getD]
    rw [List.getElem?_append_left (by omega)]
/-- Another row was written. -/
theorem NOwn.kept {B : Nat} {w w' : World} {v : Value} {n : Nat} {t : Nat → Nd} {L : Nat} {row : Option Nat} (h : NOwn B w v n t L) (hg : w.grownBy w' row) (hk : KeepQ IsLimb w w') (hne : v.ownBlock = none ∨ v.ownBlock ≠ row) : NOwn B w' v n t L := by
  obtain ⟨cs, h1, h2, h3⟩ := h
  refine ⟨cs, h1.kept hg hne, fun g hgg o u hu => h2 g hgg o u ?_, fun i hi => (h3 i hi).keepL hk⟩
  have hlt := (World.ownsRow.lt h1 g hgg).2
  have hne2 : some g ≠ row := fun e => by
    rcases hne with a | a
    · rw [hgg] at a; cases a
    · exact a (hgg.trans e)
  rw [← World.cell?_of_block (w := w) (hg.block g hlt hne2)]; exact hu
theorem NOwn.set {B : Nat} {w : World} {v : Value} {n : Nat} {t : Nat → Nd} {L : Nat} (h : NOwn B w v n t L) {a : Addr} (ha : a.block < B) (u : Value) (hk : KeepQ IsLimb w (w.setCell a u)) : NOwn B (w.setCell a u) v n t L := by
  obtain ⟨cs, h1, h2, h3⟩ := h
  refine ⟨cs, ownsRow_setCell_below h1 ha u, fun g hgg o x hx => h2 g hgg o x ?_, fun i hi => (h3 i hi).keepL hk⟩
  have hlt := (World.ownsRow.lt h1 g hgg).1
  rwa [World.cell?_setCell_other _ _ _ _ (fun e => by rw [e] at ha; simp at ha; omega)] at hx
/-- Two rows of unlike elements lie in two blocks. -/
theorem unlike {B B' k k' n n' : Nat} {e e' : TypeId} {w : World} {v v' : Value} {us us' : List Value} (h : w.ownsRow B e k v n us) (h' : w.ownsRow B' e' k' v' n' us') (hne : e ≠ e') : v.ownBlock = none ∨ v.ownBlock ≠ v'.ownBlock := by
  rcases h.2 with ⟨rfl, _⟩ | ⟨g, c, cur, rfl, _, hg, _⟩
  · exact .inl rfl
  · refine .inr (fun e9 => ?_)
    rcases h'.2 with ⟨rfl, _⟩ | ⟨g', c', cur', rfl, _, hg', _⟩
    · cases e9
    · have : g = g' := by injection e9
      subst this
      rw [hg] at hg'
      injection hg' with hh
      injection hh with _ h2
      exact hne h2
/-- A model's trees, all of the call's own. -/
def MOwn (B : Nat) (w : World) (v : Value) (k : Nat) (N : Nat → Nat) (T : Nat → Nat → Nd) (L : Nat) : Prop := ∃ us : List Value, w.ownsRow B 33 1 v k us ∧ (∀ g, v.ownBlock = some g → PureB IsLimb w g) ∧ ∀ i, i < k → ∃ u, us[i]? = some u ∧ NOwn B w u (N i) (T i) L
theorem MOwn.nil (B : Nat) (w : World) (N : Nat → Nat) (T : Nat → Nat → Nd) (L : Nat) : MOwn B w (.slice none 0 0) 0 N T L := ⟨[], World.ownsRow_nil _ _ _ _, fun g h => by simp [Value.ownBlock] at h, fun i hi => by omega⟩
theorem MOwn.later {B : Nat} {w w' : World} {v : Value} {k : Nat} {N : Nat → Nat} {T : Nat → Nat → Nd} {L : Nat} (h : MOwn B w v k N T L) (hb : Below w.heap.size w w') : MOwn B w' v k N T L := by
  obtain ⟨us, h1, h2, h3⟩ := h
  exact ⟨us, owns_later h1 hb, fun g hg => (h2 g hg).below hb (World.ownsRow.lt h1 g hg).2, fun i hi => let ⟨u, a, b⟩ := h3 i hi; ⟨u, a, b.later hb⟩⟩
theorem MOwn.set {B : Nat} {w : World} {v : Value} {k : Nat} {N : Nat → Nat} {T : Nat → Nat → Nd} {L : Nat} (h : MOwn B w v k N T L) {a : Addr} (ha : a.block < B) (u : Value) (hk : KeepQ IsLimb w (w.setCell a u)) : MOwn B (w.setCell a u) v k N T L := by
  obtain ⟨us, h1, h2, h3⟩ := h
  refine ⟨us, ownsRow_setCell_below h1 ha u, fun g hgg o x hx => h2 g hgg o x ?_, fun i hi => let ⟨y, a1, b1⟩ := h3 i hi; ⟨y, a1, b1.set ha u hk⟩⟩
  have hlt := (World.ownsRow.lt h1 g hgg).1
  rwa [World.cell?_setCell_other _ _ _ _ (fun e => by rw [e] at ha; simp at ha; omega)] at hx
theorem MOwn.form {B : Nat} {w : World} {v : Value} {k : Nat} {N : Nat → Nat} {T : Nat → Nat → Nd} {L : Nat} (h : MOwn B w v k N T L) : ∃ a c, v = .slice a k c := by
  obtain ⟨cs, h1, _⟩ := h
  rcases h1.2 with ⟨rfl, rfl⟩ | ⟨g, c, _, rfl, _⟩
  · exact ⟨none, 0, rfl⟩
  · exact ⟨_, c, rfl⟩
theorem MOwn.row {B : Nat} {w : World} {v : Value} {k : Nat} {N : Nat → Nat} {T : Nat → Nat → Nd} {L : Nat} (h : MOwn B w v k N T L) : MRow w v k N T L := by
  obtain ⟨us, h1, _, h3⟩ := h
  refine ⟨fun i _ => us.getD i undef, ?_, fun i hi => ?_⟩
  · have hl := h1.1
    rcases h1.2 with ⟨rfl, rfl⟩ | ⟨g, c, cur, rfl, hB, hg, hc, hm, rest⟩
    · exact RowAt.nil _ _ _
    · refine ⟨_, c, rfl, hc, by unfold maxLen at hm; omega, fun _ => ⟨g, 0, rfl, fun i hi j hj => ?_⟩⟩
      obtain ⟨u, hu, _⟩ := h3 i hi
      rw [show j = 0 by omega, Nat.zero_add, Nat.mul_one, Nat.add_zero]
      exact owns_cell h1 (by show us[i]? = some (us.getD i undef); rw [List.getD_eq_getElem?_getD, hu]; rfl)
  · obtain ⟨u, hu, ho⟩ := h3 i hi
    show TRow w (us.getD i undef) (N i) (T i) L
    rw [List.getD_eq_getElem?_getD, hu]
    exact ho.row
/-- One tree more. -/
theorem MOwn.more {B : Nat} {w w' : World} {v v' y : Value} {k : Nat} {N : Nat → Nat} {T : Nat → Nat → Nd} {L : Nat} (h : MOwn B w v k N T L) (hy : NOwn B w y (N k) (T k) L) (h1 : ∀ us, w.ownsRow B 33 1 v k us → w'.ownsRow B 33 1 v' (k + 1) (us ++ [y])) (hg : w.grownBy w' v.ownBlock) (hp : ∀ g, v'.ownBlock = some g → PureB IsLimb w' g) (hk : KeepQ IsLimb w w') : MOwn B w' v' (k + 1) N T L := by
  obtain ⟨us, o1, o2, o3⟩ := h
  have hl := o1.1
  have stay : ∀ u n t, NOwn B w u n t L → NOwn B w' u n t L := fun u n t ht => by
    obtain ⟨cs, c1, _⟩ := id ht
    exact ht.kept hg hk (unlike c1 o1 (by decide))
  refine ⟨us ++ [y], h1 us o1, hp, fun i hi => ?_⟩
  by_cases e : i = k
  · subst e
    exact ⟨y, by rw [List.getElem?_append_right (by omega), hl, Nat.mul_one, Nat.sub_self]; rfl, stay _ _ _ hy⟩
  · obtain ⟨u, hu, ho⟩ := o3 i (by omega)
    exact ⟨u, by rw [List.getElem?_append_left (by omega)]; exact hu, stay _ _ _ ho⟩
theorem info_node : (Tryd.prog.info? 41).map (fun i => (i.zero, i.size, i.bytes)) = some (some (.agg #[.bool false, .int .i64 0, .bool false, .slice none 0 0, .slice none 0 0, .int .i64 0, .int .i64 0, .bool false, .bool false, .slice none 0 0, .slice none 0 0, .bool false, .slice none 0 0, .slice none 0 0]), 14, 208) := by kernel_rfl
theorem info_tree : (Tryd.prog.info? 33).map (fun i => (i.zero, i.size, i.bytes)) = some (some (.slice none 0 0), 1, 24) := by kernel_rfl

theorem V14.set2 {w : World} {R : Nat} {x0 x1 x2 x3 x4 x5 x6 x7 x8 x9 x10 x11 x12 x13 : Value} (h : V14 w R x0 x1 x2 x3 x4 x5 x6 x7 x8 x9 x10 x11 x12 x13) (u0 u1 u2 : Value) : V14 (((w.setCell ⟨R, 2, none⟩ u0).setCell ⟨R, 3, none⟩ u1).setCell ⟨R, 4, none⟩ u2) R x0 x1 u0 u1 u2 x5 x6 x7 x8 x9 x10 x11 x12 x13 := by
  constructor
  · exact cell_set_by (cell_set_by (cell_set_by h.c0 (by omega)) (by omega)) (by omega)
  · exact cell_set_by (cell_set_by (cell_set_by h.c1 (by omega)) (by omega)) (by omega)
  · exact cell_set_by (cell_set_by (cell_set_at h.c2) (by omega)) (by omega)
  · exact cell_set_by (cell_set_at (cell_set_by h.c3 (by omega))) (by omega)
  · exact cell_set_at (cell_set_by (cell_set_by h.c4 (by omega)) (by omega))
  · exact cell_set_by (cell_set_by (cell_set_by h.c5 (by omega)) (by omega)) (by omega)
  · exact cell_set_by (cell_set_by (cell_set_by h.c6 (by omega)) (by omega)) (by omega)
  · exact cell_set_by (cell_set_by (cell_set_by h.c7 (by omega)) (by omega)) (by omega)
  · exact cell_set_by (cell_set_by (cell_set_by h.c8 (by omega)) (by omega)) (by omega)
  · exact cell_set_by (cell_set_by (cell_set_by h.c9 (by omega)) (by omega)) (by omega)
  · exact cell_set_by (cell_set_by (cell_set_by h.c10 (by omega)) (by omega)) (by omega)
  · exact cell_set_by (cell_set_by (cell_set_by h.c11 (by omega)) (by omega)) (by omega)
  · exact cell_set_by (cell_set_by (cell_set_by h.c12 (by omega)) (by omega)) (by omega)
  · exact cell_set_by (cell_set_by (cell_set_by h.c13 (by omega)) (by omega)) (by omega)
theorem V14.keep2 {w : World} {R : Nat} {x0 x1 x2 x3 x4 x5 x6 x7 x8 x9 x10 x11 x12 x13 : Value} (h : V14 w R x0 x1 x2 x3 x4 x5 x6 x7 x8 x9 x10 x11 x12 x13) (h0 : ¬ IsLimb x2) (h1 : ¬ IsLimb x3) (h2 : ¬ IsLimb x4) (u0 u1 u2 : Value) : KeepQ IsLimb w (((w.setCell ⟨R, 2, none⟩ u0).setCell ⟨R, 3, none⟩ u1).setCell ⟨R, 4, none⟩ u2) :=
  ((keepL_set h.c2 h0 u0).trans (keepL_set (cell_set_by h.c3 (by omega)) h1 u1)).trans (keepL_set (cell_set_by (cell_set_by h.c4 (by omega)) (by omega)) h2 u2)
theorem V14.set8 {w : World} {R : Nat} {x0 x1 x2 x3 x4 x5 x6 x7 x8 x9 x10 x11 x12 x13 : Value} (h : V14 w R x0 x1 x2 x3 x4 x5 x6 x7 x8 x9 x10 x11 x12 x13) (u0 u1 u2 : Value) : V14 (((w.setCell ⟨R, 8, none⟩ u0).setCell ⟨R, 9, none⟩ u1).setCell ⟨R, 10, none⟩ u2) R x0 x1 x2 x3 x4 x5 x6 x7 u0 u1 u2 x11 x12 x13 := by
  constructor
  · exact cell_set_by (cell_set_by (cell_set_by h.c0 (by omega)) (by omega)) (by omega)
  · exact cell_set_by (cell_set_by (cell_set_by h.c1 (by omega)) (by omega)) (by omega)
  · exact cell_set_by (cell_set_by (cell_set_by h.c2 (by omega)) (by omega)) (by omega)
  · exact cell_set_by (cell_set_by (cell_set_by h.c3 (by omega)) (by omega)) (by omega)
  · exact cell_set_by (cell_set_by (cell_set_by h.c4 (by omega)) (by omega)) (by omega)
  · exact cell_set_by (cell_set_by (cell_set_by h.c5 (by omega)) (by omega)) (by omega)
  · exact cell_set_by (cell_set_by (cell_set_by h.c6 (by omega)) (by omega)) (by omega)
  · exact cell_set_by (cell_set_by (cell_set_by h.c7 (by omega)) (by omega)) (by omega)
  · exact cell_set_by (cell_set_by (cell_set_at h.c8) (by omega)) (by omega)
  · exact cell_set_by (cell_set_at (cell_set_by h.c9 (by omega))) (by omega)
  · exact cell_set_at (cell_set_by (cell_set_by h.c10 (by omega)) (by omega))
  · exact cell_set_by (cell_set_by (cell_set_by h.c11 (by omega)) (by omega)) (by omega)
  · exact cell_set_by (cell_set_by (cell_set_by h.c12 (by omega)) (by omega)) (by omega)
  · exact cell_set_by (cell_set_by (cell_set_by h.c13 (by omega)) (by omega)) (by omega)
theorem V14.keep8 {w : World} {R : Nat} {x0 x1 x2 x3 x4 x5 x6 x7 x8 x9 x10 x11 x12 x13 : Value} (h : V14 w R x0 x1 x2 x3 x4 x5 x6 x7 x8 x9 x10 x11 x12 x13) (h0 : ¬ IsLimb x8) (h1 : ¬ IsLimb x9) (h2 : ¬ IsLimb x10) (u0 u1 u2 : Value) : KeepQ IsLimb w (((w.setCell ⟨R, 8, none⟩ u0).setCell ⟨R, 9, none⟩ u1).setCell ⟨R, 10, none⟩ u2) :=
  ((keepL_set h.c8 h0 u0).trans (keepL_set (cell_set_by h.c9 (by omega)) h1 u1)).trans (keepL_set (cell_set_by (cell_set_by h.c10 (by omega)) (by omega)) h2 u2)
theorem V14.set11 {w : World} {R : Nat} {x0 x1 x2 x3 x4 x5 x6 x7 x8 x9 x10 x11 x12 x13 : Value} (h : V14 w R x0 x1 x2 x3 x4 x5 x6 x7 x8 x9 x10 x11 x12 x13) (u0 u1 u2 : Value) : V14 (((w.setCell ⟨R, 11, none⟩ u0).setCell ⟨R, 12, none⟩ u1).setCell ⟨R, 13, none⟩ u2) R x0 x1 x2 x3 x4 x5 x6 x7 x8 x9 x10 u0 u1 u2 := by
  constructor
  · exact cell_set_by (cell_set_by (cell_set_by h.c0 (by omega)) (by omega)) (by omega)
  · exact cell_set_by (cell_set_by (cell_set_by h.c1 (by omega)) (by omega)) (by omega)
  · exact cell_set_by (cell_set_by (cell_set_by h.c2 (by omega)) (by omega)) (by omega)
  · exact cell_set_by (cell_set_by (cell_set_by h.c3 (by omega)) (by omega)) (by omega)
  · exact cell_set_by (cell_set_by (cell_set_by h.c4 (by omega)) (by omega)) (by omega)
  · exact cell_set_by (cell_set_by (cell_set_by h.c5 (by omega)) (by omega)) (by omega)
  · exact cell_set_by (cell_set_by (cell_set_by h.c6 (by omega)) (by omega)) (by omega)
  · exact cell_set_by (cell_set_by (cell_set_by h.c7 (by omega)) (by omega)) (by omega)
  · exact cell_set_by (cell_set_by (cell_set_by h.c8 (by omega)) (by omega)) (by omega)
  · exact cell_set_by (cell_set_by (cell_set_by h.c9 (by omega)) (by omega)) (by omega)
  · exact cell_set_by (cell_set_by (cell_set_by h.c10 (by omega)) (by omega)) (by omega)
  · exact cell_set_by (cell_set_by (cell_set_at h.c11) (by omega)) (by omega)
  · exact cell_set_by (cell_set_at (cell_set_by h.c12 (by omega))) (by omega)
  · exact cell_set_at (cell_set_by (cell_set_by h.c13 (by omega)) (by omega))
theorem V14.keep11 {w : World} {R : Nat} {x0 x1 x2 x3 x4 x5 x6 x7 x8 x9 x10 x11 x12 x13 : Value} (h : V14 w R x0 x1 x2 x3 x4 x5 x6 x7 x8 x9 x10 x11 x12 x13) (h0 : ¬ IsLimb x11) (h1 : ¬ IsLimb x12) (h2 : ¬ IsLimb x13) (u0 u1 u2 : Value) : KeepQ IsLimb w (((w.setCell ⟨R, 11, none⟩ u0).setCell ⟨R, 12, none⟩ u1).setCell ⟨R, 13, none⟩ u2) :=
  ((keepL_set h.c11 h0 u0).trans (keepL_set (cell_set_by h.c12 (by omega)) h1 u1)).trans (keepL_set (cell_set_by (cell_set_by h.c13 (by omega)) (by omega)) h2 u2)
theorem soft_set {w : World} {R : Nat} (h : ∀ j, w.frozen? ⟨R, j, none⟩ = false) (a : Addr) (u : Value) : ∀ j, (w.setCell a u).frozen? ⟨R, j, none⟩ = false := fun j => by simp [h j]
theorem soft_below {w w' : World} {R : Nat} (h : ∀ j, w.frozen? ⟨R, j, none⟩ = false) (hR : R < w.heap.size) (hb : Below w.heap.size w w') : ∀ j, w'.frozen? ⟨R, j, none⟩ = false := fun j => (hb.frozen (p := ⟨R, j, none⟩) hR).trans (h j)

theorem NOwn.apart {B : Nat} {w : World} {v : Value} {n : Nat} {t : Nat → Nd} {L : Nat} (h : NOwn B w v n t L) {a : Addr} (ha : ∀ g, v.ownBlock = some g → g ≠ a.block) (u : Value) (hk : KeepQ IsLimb w (w.setCell a u)) : NOwn B (w.setCell a u) v n t L := by
  refine h.kept (grown_at w a u) hk ?_
  cases e : v.ownBlock with
  | none => exact .inl rfl
  | some g => exact .inr (fun e2 => ha g e (by injection e2))
theorem NOwn.blocks {B : Nat} {w : World} {v : Value} {n : Nat} {t : Nat → Nd} {L : Nat} (h : NOwn B w v n t L) : ∀ g, v.ownBlock = some g → B ≤ g ∧ g < w.heap.size := by
  obtain ⟨cs, h1, _⟩ := h
  exact World.ownsRow.lt h1
theorem NOwn.apart2 {B : Nat} {w : World} {v : Value} {n : Nat} {t : Nat → Nd} {L R : Nat} (h : NOwn B w v n t L) (ha : ∀ g, v.ownBlock = some g → g ≠ R) {x2 x3 x4 : Value} (c2 : w.cell? ⟨R, 2, none⟩ = some x2) (c3 : w.cell? ⟨R, 3, none⟩ = some x3) (c4 : w.cell? ⟨R, 4, none⟩ = some x4) (h0 : ¬ IsLimb x2) (h1 : ¬ IsLimb x3) (h2 : ¬ IsLimb x4) (u0 u1 u2 : Value) : NOwn B (((w.setCell ⟨R, 2, none⟩ u0).setCell ⟨R, 3, none⟩ u1).setCell ⟨R, 4, none⟩ u2) v n t L :=
  ((h.apart (a := ⟨R, 2, none⟩) ha u0 (keepL_set c2 h0 u0)).apart (a := ⟨R, 3, none⟩) ha u1 (keepL_set (cell_set_by c3 (by omega)) h1 u1)).apart (a := ⟨R, 4, none⟩) ha u2 (keepL_set (cell_set_by (cell_set_by c4 (by omega)) (by omega)) h2 u2)
theorem NOwn.apart8 {B : Nat} {w : World} {v : Value} {n : Nat} {t : Nat → Nd} {L R : Nat} (h : NOwn B w v n t L) (ha : ∀ g, v.ownBlock = some g → g ≠ R) {x2 x3 x4 : Value} (c2 : w.cell? ⟨R, 8, none⟩ = some x2) (c3 : w.cell? ⟨R, 9, none⟩ = some x3) (c4 : w.cell? ⟨R, 10, none⟩ = some x4) (h0 : ¬ IsLimb x2) (h1 : ¬ IsLimb x3) (h2 : ¬ IsLimb x4) (u0 u1 u2 : Value) : NOwn B (((w.setCell ⟨R, 8, none⟩ u0).setCell ⟨R, 9, none⟩ u1).setCell ⟨R, 10, none⟩ u2) v n t L :=
  ((h.apart (a := ⟨R, 8, none⟩) ha u0 (keepL_set c2 h0 u0)).apart (a := ⟨R, 9, none⟩) ha u1 (keepL_set (cell_set_by c3 (by omega)) h1 u1)).apart (a := ⟨R, 10, none⟩) ha u2 (keepL_set (cell_set_by (cell_set_by c4 (by omega)) (by omega)) h2 u2)
theorem NOwn.apart11 {B : Nat} {w : World} {v : Value} {n : Nat} {t : Nat → Nd} {L R : Nat} (h : NOwn B w v n t L) (ha : ∀ g, v.ownBlock = some g → g ≠ R) {x2 x3 x4 : Value} (c2 : w.cell? ⟨R, 11, none⟩ = some x2) (c3 : w.cell? ⟨R, 12, none⟩ = some x3) (c4 : w.cell? ⟨R, 13, none⟩ = some x4) (h0 : ¬ IsLimb x2) (h1 : ¬ IsLimb x3) (h2 : ¬ IsLimb x4) (u0 u1 u2 : Value) : NOwn B (((w.setCell ⟨R, 11, none⟩ u0).setCell ⟨R, 12, none⟩ u1).setCell ⟨R, 13, none⟩ u2) v n t L :=
  ((h.apart (a := ⟨R, 11, none⟩) ha u0 (keepL_set c2 h0 u0)).apart (a := ⟨R, 12, none⟩) ha u1 (keepL_set (cell_set_by c3 (by omega)) h1 u1)).apart (a := ⟨R, 13, none⟩) ha u2 (keepL_set (cell_set_by (cell_set_by c4 (by omega)) (by omega)) h2 u2)
/-- What the append of a node needs, and what it leaves. -/
theorem NOwn.parts {B : Nat} {w : World} {v : Value} {n : Nat} {t : Nat → Nd} {L : Nat} (h : NOwn B w v n t L) : ∃ cs : List Value, cs.length = n * 14 ∧ w.ownsRow B 41 14 v n cs ∧ (∀ g, v.ownBlock = some g → PureB IsLimb w g) ∧ ∀ i, i < n → NodeAt w (fun j => cs.getD (i * 14 + j) undef) (t i) L := by
  obtain ⟨cs, h1, h2, h3⟩ := h
  exact ⟨cs, h1.1, h1, h2, h3⟩
theorem MOwn.parts {B : Nat} {w : World} {v : Value} {k : Nat} {N : Nat → Nat} {T : Nat → Nat → Nd} {L : Nat} (h : MOwn B w v k N T L) : ∃ us : List Value, w.ownsRow B 33 1 v k us ∧ (∀ g, v.ownBlock = some g → PureB IsLimb w g) := by
  obtain ⟨us, h1, h2, _⟩ := h
  exact ⟨us, h1, h2⟩
theorem MOwn.blocks {B : Nat} {w : World} {v : Value} {k : Nat} {N : Nat → Nat} {T : Nat → Nat → Nd} {L : Nat} (h : MOwn B w v k N T L) : ∀ g, v.ownBlock = some g → B ≤ g ∧ g < w.heap.size := by
  obtain ⟨cs, h1, _⟩ := h
  exact World.ownsRow.lt h1
/-- One tree more: the row of trees is told by its cells. -/
theorem MOwn.more1 {B : Nat} {w w' : World} {v v' y : Value} {k : Nat} {N : Nat → Nat} {T : Nat → Nat → Nd} {L : Nat} {us : List Value} (h : MOwn B w v k N T L) (hu : w.ownsRow B 33 1 v k us) (hy : NOwn B w y (N k) (T k) L) (h1 : w'.ownsRow B 33 1 v' (k + 1) (us ++ [y])) (hg : w.grownBy w' v.ownBlock) (hp : ∀ g, v'.ownBlock = some g → PureB IsLimb w' g) (hk : KeepQ IsLimb w w') : MOwn B w' v' (k + 1) N T L := by
  refine h.more hy (fun us2 h2 => ?_) hg hp hk
  have : us2 = us := by
    rcases hu.2 with ⟨rfl, rfl⟩ | ⟨g, c, cur, rfl, _, hgg, _, _, _, ht⟩
    · have a9 : us2 = [] := by simpa using h2.1
      have b9 : us = [] := by simpa using hu.1
      rw [a9, b9]
    · rcases h2.2 with ⟨h3, _⟩ | ⟨g', c', cur', h3, _, hgg', _, _, _, ht'⟩
      · cases h3
      · cases h3
        rw [hgg] at hgg'
        cases hgg'
        rw [← ht, ← ht']
  rw [this]
  exact h1
theorem MOwn.le {B B' : Nat} {w : World} {v : Value} {k : Nat} {N : Nat → Nat} {T : Nat → Nat → Nd} {L : Nat} (h : MOwn B w v k N T L) (hb : B' ≤ B) : MOwn B' w v k N T L := by
  obtain ⟨us, h1, h2, h3⟩ := h
  exact ⟨us, owns_le h1 hb, h2, fun i hi => let ⟨u, a, b⟩ := h3 i hi; ⟨u, a, b.le hb⟩⟩
theorem MOwn.below {B : Nat} {w w' : World} {v : Value} {k : Nat} {N : Nat → Nat} {T : Nat → Nat → Nd} {L : Nat} (h : MOwn B w v k N T L) (hb : Below w.heap.size w w') : MOwn B w' v k N T L := h.later hb

end Go.Proofs.YthfjconpjeoakaaDoor

namespace Go.Proofs.YthfjconpjeoakaaDoor
open Go.RowKit
set_option linter.unusedVariables false
set_option linter.unusedSimpArgs false

/-- Where a node does not fit; does a tree, does a model fit? -/
def badF (t : Nat → Nd) (i : Nat) : Bool := !(decide (0 ≤ (t i).feat ∧ (t i).feat ≤ 64) && decide (0 ≤ (t i).left ∧ (t i).left ≤ 255) && decide (0 ≤ (t i).right ∧ (t i).right ≤ 255))
def tfit (t : Nat → Nd) (n : Nat) : Bool := decide (1 ≤ n ∧ n ≤ 255) && (fb (badF t) n).isNone
def mfit (F : Int) (k : Nat) (N : Nat → Nat) (T : Nat → Nat → Nd) : Bool := decide (0 ≤ F ∧ F ≤ 64) && decide (k ≤ 64) && (fb (fun i => !tfit (T i) (N i)) k).isNone
theorem tfit_no {t : Nat → Nd} {n i : Nat} (hi : i < n) (h : ∀ j, j < i → badF t j = false) (hp : badF t i = true) : tfit t n = false := by
  unfold tfit
  rw [fb_some hi h hp]
  simp
theorem tfit_yes {t : Nat → Nd} {n : Nat} (hn : 1 ≤ n ∧ n ≤ 255) (h : ∀ j, j < n → badF t j = false) : tfit t n = true := by
  unfold tfit
  rw [fb_none h, decide_eq_true hn]
  rfl
theorem tfit_len {t : Nat → Nd} {n : Nat} (hn : ¬ (1 ≤ n ∧ n ≤ 255)) : tfit t n = false := by
  unfold tfit
  rw [decide_eq_false hn]
  rfl
theorem mfit_no {F : Int} {k : Nat} {N : Nat → Nat} {T : Nat → Nat → Nd} {i : Nat} (hi : i < k) (h : ∀ j, j < i → tfit (T j) (N j) = true) (hp : tfit (T i) (N i) = false) : mfit F k N T = false := by
  unfold mfit
  rw [fb_some (p := fun i => !tfit (T i) (N i)) hi (fun j hj => by simp [h j hj]) (by simp [hp])]
  simp
theorem mfit_yes {F : Int} {k : Nat} {N : Nat → Nat} {T : Nat → Nat → Nd} (hF : 0 ≤ F ∧ F ≤ 64) (hk : k ≤ 64) (h : ∀ j, j < k → tfit (T j) (N j) = true) : mfit F k N T = true := by
  unfold mfit
  rw [fb_none (p := fun i => !tfit (T i) (N i)) (fun j hj => by simp [h j hj]), decide_eq_true hF, decide_eq_true hk]
  rfl
theorem mfit_is {F : Int} {k : Nat} {N : Nat → Nat} {T : Nat → Nat → Nd} (h : mfit F k N T = true) : 0 ≤ F ∧ F ≤ 64 ∧ k ≤ 64 ∧ ∀ i, i < k → 1 ≤ N i ∧ N i ≤ 255 := by
  unfold mfit at h
  simp only [Bool.and_eq_true, decide_eq_true_eq] at h
  refine ⟨h.1.1.1, h.1.1.2, h.1.2, fun i hi => ?_⟩
  have := fb_is (p := fun i => !tfit (T i) (N i)) (n := k) (by cases e : fb (fun i => !tfit (T i) (N i)) k with | none => rfl | some j => rw [e] at h; simp at h) i hi
  simp at this
  unfold tfit at this
  simp only [Bool.and_eq_true, decide_eq_true_eq] at this
  exact this.1


set_option maxRecDepth 100000 in
set_option maxHeartbeats 8000000 in
theorem treeFits_at (v : Value) (n : Nat) (t : Nat → Nd) (L : Nat) (w : World) (hv : TRow w v n t L) :
    Calls Tryd.prog 20 #[v] w fun e w' => e = .returned (.bool (tfit t n)) ∧ Below w.heap.size w w' := by
  obtain ⟨ao, c, rfl, hnc, hc63⟩ := hv.open
  have BB : Below w.heap.size w w := Below.refl _ _
  go_enter Tryd.func20, Tryd.ntmps20
  go_wp2_with fail
  refine (within_at _ _ _ _).mono ?_
  rintro e wx ⟨rfl, hwx⟩
  replace hwx := hwx.symm
  subst hwx
  by_cases hn : 1 ≤ n ∧ n ≤ 255
  · have hni : (1 : Int) ≤ (n : Int) ∧ (n : Int) ≤ 255 := by omega
    rw [decide_eq_true hni]
    go_wp2
    go_loopw [11] (fun vi wr => ∃ i : Nat, i ≤ n ∧ vi = .int .i64 (i : Int) ∧ Hid (∀ j, j < i → badF t j = false) ∧ Below w.heap.size w wr) (fun vi _ => n - (intOf vi).toNat)
    case atStart => exact ⟨0, by omega, rfl, fun j hj => by omega, BB⟩
    case round =>
      clear BB
      obtain ⟨i, hi, rfl, HB, BB⟩ := hrel
      by_cases hlt : i < n
      · have g1 : (i : Int) < (n : Int) := by omega
        have g0 : (0 : Int) ≤ (i : Int) := by omega
        have hv1 := hv.below BB
        obtain ⟨b, off, cc, p1, a1, n1, c1, b1, m1, d1, p2, a2, n2, c2, b2, m2, d2, p3, a3, n3, c3, b3, m3, d3, hvv, hcc, hc6, NN, r1, r2, r3, i1, i2, i3⟩ := hv1.at hlt
        cases hvv
        clear hv1
        obtain ⟨N_0, N_1, N_2, N_3, N_4, N_5, N_6, N_7, N_8, N_9, N_10, N_11, N_12, N_13⟩ := id NN
        obtain ⟨W1, hW1, hS1, hL1, VN, FN⟩ := V14.lay wr 41 (.bool (t i).leaf) (.int .i64 (t i).feat) (.bool p1) (.slice a1 n1 c1) (.slice b1 m1 d1) (.int .i64 (t i).left) (.int .i64 (t i).right) (.bool (t i).miss) (.bool p2) (.slice a2 n2 c2) (.slice b2 m2 d2) (.bool p3) (.slice a3 n3 c3) (.slice b3 m3 d3)
        replace BB := BB.trans (hL1.mono BB.size)
        clear hL1
        obtain ⟨V_0, V_1, V_2, V_3, V_4, V_5, V_6, V_7, V_8, V_9, V_10, V_11, V_12, V_13⟩ := id VN
        rw [hW1] at V_0 V_1 V_2 V_3 V_4 V_5 V_6 V_7 V_8 V_9 V_10 V_11 V_12 V_13
        go_wp2_with fail
        clear V_0 V_1 V_2 V_3 V_4 V_5 V_6 V_7 V_8 V_9 V_10 V_11 V_12 V_13
        clear N_0 N_1 N_2 N_3 N_4 N_5 N_6 N_7 N_8 N_9 N_10 N_11 N_12 N_13
        rw [← hW1]
        generalize wr.heap.size = R1 at *
        clear hW1 hS1
        refine (within_at _ _ _ _).mono ?_
        rintro e wx ⟨rfl, hwx⟩
        replace hwx := hwx.symm
        subst hwx
        have HP : Hid (badF t i = !(decide (0 ≤ (t i).feat ∧ (t i).feat ≤ 64) && decide (0 ≤ (t i).left ∧ (t i).left ≤ 255) && decide (0 ≤ (t i).right ∧ (t i).right ≤ 255))) := rfl
        by_cases h1 : 0 ≤ (t i).feat ∧ (t i).feat ≤ 64
        · rw [decide_eq_true h1]
          obtain ⟨V_0, V_1, V_2, V_3, V_4, V_5, V_6, V_7, V_8, V_9, V_10, V_11, V_12, V_13⟩ := id VN
          go_wp2_with fail
          clear V_0 V_1 V_2 V_3 V_4 V_5 V_6 V_7 V_8 V_9 V_10 V_11 V_12 V_13
          refine (within_at _ _ _ _).mono ?_
          rintro e wx ⟨rfl, hwx⟩
          replace hwx := hwx.symm
          subst hwx
          by_cases h2 : 0 ≤ (t i).left ∧ (t i).left ≤ 255
          · rw [decide_eq_true h2]
            obtain ⟨V_0, V_1, V_2, V_3, V_4, V_5, V_6, V_7, V_8, V_9, V_10, V_11, V_12, V_13⟩ := id VN
            go_wp2_with fail
            clear V_0 V_1 V_2 V_3 V_4 V_5 V_6 V_7 V_8 V_9 V_10 V_11 V_12 V_13
            refine (within_at _ _ _ _).mono ?_
            rintro e wx ⟨rfl, hwx⟩
            replace hwx := hwx.symm
            subst hwx
            by_cases h3 : 0 ≤ (t i).right ∧ (t i).right ≤ 255
            · rw [decide_eq_true h3]
              have HB2 : Hid (∀ j, j < i + 1 → badF t j = false) := fun j hj => by
                by_cases e : j = i
                · subst e; rw [HP.out]; simp [h1, h2, h3]
                · exact HB.out j (by omega)
              clear HB HP
              go_wp2
              go_roundw
              case rel => exact ⟨i + 1, by omega, by go_num, HB2, BB⟩
              case measure => simp [intOf]; omega
            · rw [decide_eq_false h3]
              go_wp2
              go_ret
              exact ⟨ret_bool (a := false) (tfit_no hlt HB.out (by rw [HP.out, decide_eq_false h3]; simp)).symm, BB⟩
          · rw [decide_eq_false h2]
            go_wp2
            go_ret
            exact ⟨ret_bool (a := false) (tfit_no hlt HB.out (by rw [HP.out, decide_eq_false h2]; simp)).symm, BB⟩
        · rw [decide_eq_false h1]
          go_wp2
          go_ret
          exact ⟨ret_bool (a := false) (tfit_no hlt HB.out (by rw [HP.out, decide_eq_false h1]; simp)).symm, BB⟩
      · obtain rfl : i = n := by omega
        have g1 : ¬ (i : Int) < (i : Int) := by omega
        go_wp2
        go_ret
        exact ⟨ret_bool (a := true) (tfit_yes hn HB.out).symm, BB⟩
  · have hni : ¬ ((1 : Int) ≤ (n : Int) ∧ (n : Int) ≤ 255) := by omega
    rw [decide_eq_false hni]
    go_wp2
    go_ret
    exact ⟨ret_bool (a := false) (tfit_len hn).symm, BB⟩


set_option maxRecDepth 100000 in
set_option maxHeartbeats 8000000 in
theorem fits_at (F : Int) (v : Value) (k : Nat) (N : Nat → Nat) (T : Nat → Nat → Nd) (L : Nat) (w : World) (hv : MRow w v k N T L) :
    Calls Tryd.prog 7 #[.agg #[.int .i64 F, v]] w fun e w' => e = .returned (.bool (mfit F k N T)) ∧ Below w.heap.size w w' := by
  obtain ⟨ao, c, rfl, hnc, hc63⟩ := hv.open
  have BB : Below w.heap.size w w := Below.refl _ _
  obtain ⟨Wb0, hW0, hS0, hL0, VM⟩ := V2.lay w 24 (.int .i64 F) (.slice ao k c)
  replace hv := hv.below hL0
  replace BB := BB.trans (hL0.mono BB.size)
  clear hL0
  go_enter Tryd.func7, Tryd.ntmps7
  go_wp2_with fail
  rw [← hW0]
  clear hW0 hS0
  have hv0 := hv
  clear hv
  obtain ⟨VM_0, VM_1, VM_2, VM_3⟩ := id VM
  refine (within_at _ _ _ _).mono ?_
  rintro e wx ⟨rfl, hwx⟩
  replace hwx := hwx.symm
  subst hwx
  by_cases hF : 0 ≤ F ∧ F ≤ 64
  · rw [decide_eq_true hF]
    go_wp2_with fail
    refine (within_at _ _ _ _).mono ?_
    rintro e wx ⟨rfl, hwx⟩
    replace hwx := hwx.symm
    subst hwx
    by_cases hk : k ≤ 64
    · have hki : (0 : Int) ≤ (k : Int) ∧ (k : Int) ≤ 64 := by omega
      rw [decide_eq_true hki]
      go_wp2
      clear VM_0 VM_1 VM_2 VM_3
      go_loopw [19] (fun vi wr => ∃ i : Nat, i ≤ k ∧ vi = .int .i64 (i : Int) ∧ Hid (∀ j, j < i → tfit (T j) (N j) = true) ∧ Below Wb0.heap.size Wb0 wr) (fun vi _ => k - (intOf vi).toNat)
      case atStart => exact ⟨0, by omega, rfl, fun j hj => by omega, Below.refl _ _⟩
      case round =>
        obtain ⟨i, hi, rfl, HB, BL⟩ := hrel
        by_cases hlt : i < k
        · have g1 : (i : Int) < (k : Int) := by omega
          have g0 : (0 : Int) ≤ (i : Int) := by omega
          obtain ⟨b, off, cc, a, d, hvv, hcc, XC, TR⟩ := (hv0.below BL).at hlt
          cases hvv
          go_wp2_with fail
          refine (treeFits_at _ (N i) (T i) L _ TR).mono ?_
          rintro e w1 ⟨rfl, b1⟩
          replace BL := BL.trans (b1.mono BL.size)
          clear b1 XC
          obtain ⟨fi, hfi⟩ : ∃ fi, tfit (T i) (N i) = fi := ⟨_, rfl⟩
          have HFI : Hid (tfit (T i) (N i) = fi) := hfi
          rw [hfi]
          clear hfi
          cases fi
          · go_wp2
            go_ret
            exact ⟨ret_bool (a := false) (mfit_no hlt HB.out HFI.out).symm, BB.trans (BL.mono BB.size)⟩
          · have HB2 : Hid (∀ j, j < i + 1 → tfit (T j) (N j) = true) := fun j hj => by
              by_cases e : j = i
              · subst e; exact HFI.out
              · exact HB.out j (by omega)
            clear HB HFI
            go_wp2
            go_roundw
            case rel => exact ⟨i + 1, by omega, by go_num, HB2, BL⟩
            case measure => simp [intOf]; omega
        · obtain rfl : i = k := by omega
          have g1 : ¬ (i : Int) < (i : Int) := by omega
          go_wp2
          go_ret
          exact ⟨ret_bool (a := true) (mfit_yes hF hk HB.out).symm, BB.trans (BL.mono BB.size)⟩
    · have hki : ¬ ((0 : Int) ≤ (k : Int) ∧ (k : Int) ≤ 64) := by omega
      rw [decide_eq_false hki]
      go_wp2
      go_ret
      exact ⟨ret_bool (a := false) (by unfold mfit; rw [decide_eq_false hk]; simp), BB⟩
  · rw [decide_eq_false hF]
    go_wp2
    go_ret
    exact ⟨ret_bool (a := false) (by unfold mfit; rw [decide_eq_false hF]; simp), BB⟩

/-- The fault at the first place of which p holds. -/
def nfV (p : Nat → Bool) (n : Nat) (e : Int) : Value := fltV ((fb p n).map (fun i => (e, 0, i)))
def rlV (F : Int) (t : Nat → Nd) (n r : Nat) : Value := fltV ((rl F t n r).map (fun x => (x.1, 0, x.2)))
theorem nfV_some {p : Nat → Bool} {n i : Nat} {e : Int} (hi : i < n) (h : ∀ j, j < i → p j = false) (hp : p i = true) : nfV p n e = .agg #[.int .i64 e, .int .i64 0, .int .i64 0, .int .i64 (i : Int)] := by
  unfold nfV
  rw [fb_some hi h hp]
  rfl
theorem nfV_none {p : Nat → Bool} {n : Nat} {e : Int} (h : ∀ j, j < n → p j = false) : nfV p n e = .agg #[.int .i64 0, .int .i64 0, .int .i64 0, .int .i64 0] := by
  unfold nfV
  rw [fb_none h]
  rfl
theorem nfV_congr {p q : Nat → Bool} {n : Nat} {e : Int} (h : ∀ j, j < n → p j = q j) : nfV p n e = nfV q n e := by
  unfold nfV
  rw [fb_congr h]
theorem rlV0 (F : Int) (t : Nat → Nd) (n : Nat) : rlV F t n 0 = nfV (bad0 F t n) n 8 := by
  unfold rlV nfV
  show fltV ((Option.map (fun i => ((8 : Int), i)) (fb (bad0 F t n) n)).map _) = _
  rw [Option.map_map]
  rfl
theorem rlV2 (F : Int) (t : Nat → Nd) (n : Nat) : rlV F t n 2 = nfV (bad3 t) n 12 := by
  unfold rlV nfV
  show fltV ((Option.map (fun i => ((12 : Int), i)) (fb (bad3 t) n)).map _) = _
  rw [Option.map_map]
  rfl
theorem rlV3 (F : Int) (t : Nat → Nd) (n : Nat) : rlV F t n 3 = nfV (bad4 t) n 13 := by
  unfold rlV nfV
  show fltV ((Option.map (fun i => ((13 : Int), i)) (fb (bad4 t) n)).map _) = _
  rw [Option.map_map]
  rfl
theorem rlV1 (F : Int) (t : Nat → Nd) (n : Nat) : rlV F t n 1 = match fb (bad1 t n) n with
    | some _ => nfV (bad1 t n) n 11
    | none => nfV (bad2 t n) n 11 := by
  unfold rlV nfV
  show fltV ((Option.map (fun i => ((11 : Int), i)) ((fb (bad1 t n) n).or (fb (bad2 t n) n))).map _) = _
  rw [Option.map_map]
  cases e : fb (bad1 t n) n with
  | none => rfl
  | some i => rfl
def bad5 (f : Nat) (z : Nat → Int) (i : Nat) : Bool := decide (f ≤ i) && decide (z i ≠ 1)


end Go.Proofs.YthfjconpjeoakaaDoor

namespace Go.Proofs.YthfjconpjeoakaaDoor
open Go.RowKit
set_option linter.unusedVariables false

/-- A row of ints of the call's own. -/
def IntOwn (B : Nat) (w : World) (v : Value) (zs : List Nat) : Prop := w.ownsRow B 3 1 v zs.length (zs.map (fun x : Nat => Value.int .i64 (x : Int)))
theorem IntOwn.later {B : Nat} {w w' : World} {v : Value} {zs : List Nat} (h : IntOwn B w v zs) (hb : Below w.heap.size w w') : IntOwn B w' v zs := owns_later h hb
theorem IntOwn.open {B : Nat} {w : World} {v : Value} {zs : List Nat} (h : IntOwn B w v zs) (h0 : 0 < zs.length) : ∃ g c, v = .slice (some ⟨g, 0, none⟩) zs.length c ∧ zs.length ≤ c := by
  rcases h.2 with ⟨_, e⟩ | ⟨g, c, _, e, _, _, hc, _⟩
  · omega
  · exact ⟨g, c, e, hc⟩
theorem IntOwn.form {B : Nat} {w : World} {v : Value} {zs : List Nat} (h : IntOwn B w v zs) : ∃ a c, v = .slice a zs.length c ∧ zs.length ≤ c := by
  rcases h.2 with ⟨e, e2⟩ | ⟨g, c, _, e, _, _, hc, _⟩
  · exact ⟨none, 0, by rw [e, e2], by omega⟩
  · exact ⟨_, c, e, hc⟩
theorem IntOwn.cell {B : Nat} {w : World} {g c n : Nat} {zs : List Nat} (h : IntOwn B w (.slice (some ⟨g, 0, none⟩) n c) zs) (hn : n = zs.length) {j x : Nat} (hj : zs[j]? = some x) : w.cell? ⟨g, j, none⟩ = some (.int .i64 (x : Int)) := by
  subst hn
  exact owns_cell h (by rw [List.getElem?_map, hj]; rfl)
/-- All but the last. -/
theorem IntOwn.pop {B : Nat} {w : World} {g c n : Nat} {zs : List Nat} {x : Nat} (h : IntOwn B w (.slice (some ⟨g, 0, none⟩) n c) (zs ++ [x])) : IntOwn B w (.slice (some ⟨g, 0, none⟩) zs.length c) zs := by
  unfold IntOwn at h ⊢
  refine ⟨by simp, ?_⟩
  rcases h.2 with ⟨e, _⟩ | ⟨g', c', cur, e, hB, hg, hc, hm, hs, ht⟩
  · cases e
  · injection e with e1 e2 e3
    injection e1 with e1
    injection e1 with e1
    subst e1 e3
    refine .inr ⟨g, c, cur, rfl, hB, hg, by simp at hc; omega, hm, hs, ?_⟩
    have := congrArg (List.take (zs.length * 1)) ht
    rw [List.take_take, show min (zs.length * 1) ((zs ++ [x]).length * 1) = zs.length * 1 by simp] at this
    rw [this, List.map_append, List.take_append_of_le_length (by simp), List.take_of_length_le (by simp)]
def AsideI (v1 v2 : Value) : Prop := ∀ g, v1.ownBlock = some g → v2.ownBlock ≠ some g
theorem AsideI.symm {v1 v2 : Value} (h : AsideI v1 v2) : AsideI v2 v1 := fun g h1 h2 => h g h2 h1
theorem IntOwn.stay {B : Nat} {w w' : World} {v x : Value} {zs : List Nat} (h : IntOwn B w v zs) (hg : w.grownBy w' x.ownBlock) (ha : AsideI v x) : IntOwn B w' v zs := by
  refine World.ownsRow.kept h hg ?_
  cases hb : v.ownBlock with
  | none => exact .inl rfl
  | some g => exact .inr (fun e => ha g hb e.symm)
theorem IntOwn.both {B : Nat} {w : World} {v : Value} {zs : List Nat} (h : IntOwn B w v zs) (g : Nat) (hg : v.ownBlock = some g) : B ≤ g ∧ g < w.heap.size := World.ownsRow.lt h g hg
theorem asideI_new {B : Nat} {w : World} {v x : Value} {zs : List Nat} {g5 m c : Nat} (h : IntOwn B w v zs) (ha : AsideI v x) (hat : x.ownBlock = some g5 ∨ g5 = w.heap.size) : AsideI v (.slice (some ⟨g5, 0, none⟩) m c) := by
  intro g hg e
  have e' : g5 = g := by injection e
  subst e'
  rcases hat with h1 | h1
  · exact ha g5 hg h1
  · have := (h.both g5 hg).2; omega
theorem IntOwn.nums {B : Nat} {w : World} {v : Value} {zs : List Nat} (h : IntOwn B w v zs) (hl : zs.length ≤ 100000) : Nums .i64 w v zs.length (fun i => (zs.getD i 0 : Int)) := by
  rcases h.2 with ⟨rfl, e⟩ | ⟨g, c, _, rfl, _, _, hc, _⟩
  · rw [e]; exact Nums.nil _ _ _
  · refine ⟨_, _, rfl, hc, by unfold LIM; omega, fun _ => ⟨g, 0, rfl, fun i hi => ?_⟩⟩
    rw [Nat.zero_add]
    refine IntOwn.cell h rfl ?_
    rw [List.getD_eq_getElem?_getD, List.getElem?_eq_getElem hi]
    rfl
/-- The first of a row: the slice that a literal makes. -/
theorem int_first (w : World) (x : Nat) (B : Nat) (hB : B ≤ w.heap.size) : IntOwn B (w.alloc (.cells #[.int .i64 (x : Int)] 3)) (.slice (some ⟨w.heap.size, 0, none⟩) 1 1) [x] := by
  have := owns_new w B 1 3 #[.int .i64 (x : Int)] hB rfl
  exact this

end Go.Proofs.YthfjconpjeoakaaDoor

namespace Go.Proofs.YthfjconpjeoakaaDoor
open Go.RowKit
set_option linter.unusedVariables false
set_option linter.unusedSimpArgs false

theorem par_le (t : Nat → Nd) (x : Nat) : ∀ n, par t x n ≤ 2 * n
  | 0 => Nat.le_refl _
  | n + 1 => by
    have := par_le t x n
    have h : kc t x n ≤ 2 := by unfold kc; split <;> split <;> omega
    show par t x n + kc t x n ≤ _
    omega
theorem TRow.addr {w : World} {a : Option Addr} {n c : Nat} {t : Nat → Nd} {L : Nat} (h : TRow w (.slice a n c) n t L) (h0 : 0 < n) : ∃ b off, a = some ⟨b, off, none⟩ := by
  obtain ⟨el, ⟨a', c', e, _, _, h4⟩, _⟩ := h
  cases e
  obtain ⟨b, off, rfl, _⟩ := h4 h0
  exact ⟨b, off, rfl⟩
theorem N14.low {w w' : World} {b o : Nat} {x0 x1 x2 x3 x4 x5 x6 x7 x8 x9 x10 x11 x12 x13 : Value} (h : N14 w b o x0 x1 x2 x3 x4 x5 x6 x7 x8 x9 x10 x11 x12 x13) (hb : Below w.heap.size w w') : N14 w' b o x0 x1 x2 x3 x4 x5 x6 x7 x8 x9 x10 x11 x12 x13 := by
  have hl : b < w.heap.size := World.block_lt_of_cell? _ _ h.c0
  obtain ⟨h0, h1, h2, h3, h4, h5, h6, h7, h8, h9, h10, h11, h12, h13⟩ := h
  exact ⟨(hb.cell hl).trans h0, (hb.cell hl).trans h1, (hb.cell hl).trans h2, (hb.cell hl).trans h3, (hb.cell hl).trans h4, (hb.cell hl).trans h5, (hb.cell hl).trans h6, (hb.cell hl).trans h7, (hb.cell hl).trans h8, (hb.cell hl).trans h9, (hb.cell hl).trans h10, (hb.cell hl).trans h11, (hb.cell hl).trans h12, (hb.cell hl).trans h13⟩
theorem int_more {B : Nat} {w : World} {g c x : Nat} {zs : List Nat} (h : w.ownsRow B 3 1 (.slice (some ⟨g, 0, none⟩) (zs.length + 1) c) (zs.length + 1) (zs.map (fun x : Nat => Value.int .i64 (x : Int)) ++ [.int .i64 (x : Int)])) : IntOwn B w (.slice (some ⟨g, 0, none⟩) (zs.length + 1) c) (zs ++ [x]) := by
  unfold IntOwn
  rw [List.map_append, List.length_append]
  exact h
theorem int_more2 {B : Nat} {w : World} {g c x y k : Nat} {zs : List Nat} (hk : zs.length = k) (h : w.ownsRow B 3 1 (.slice (some ⟨g, 0, none⟩) (k + 2) c) (k + 2) (zs.map (fun x : Nat => Value.int .i64 (x : Int)) ++ [.int .i64 (x : Int), .int .i64 (y : Int)])) : IntOwn B w (.slice (some ⟨g, 0, none⟩) (k + 2) c) (zs ++ [x, y]) := by
  unfold IntOwn
  rw [List.map_append, List.length_append, hk]
  exact h
theorem int_len {B : Nat} {w : World} {v : Value} {k : Nat} {zs : List Nat} (hk : zs.length = k) (h : IntOwn B w v zs) : w.ownsRow B 3 1 v k (zs.map (fun x : Nat => Value.int .i64 (x : Int))) := by
  unfold IntOwn at h
  rw [hk] at h
  exact h
def lenV : Value → Nat
  | .slice _ n _ => n
  | _ => 0
theorem zero_off {w : World} {k : IntKind} {g n : Nat} {f : Nat → Int} (h : Cells w k g 0 n f) {i : Nat} (hi : i < n) : w.cell? ⟨g, i, none⟩ = some (.int k (f i)) := by
  have := h i hi
  rwa [Nat.zero_add] at this
theorem zero_soft {w : World} {g n : Nat} (h : Soft w g 0 n) {i : Nat} (hi : i < n) : w.frozen? ⟨g, i, none⟩ = false := by
  have := h i hi
  rwa [Nat.zero_add] at this
theorem zero_set {w : World} {k : IntKind} {g n : Nat} {f : Nat → Int} (h : Cells w k g 0 n f) {j : Nat} (hj : j < n) (v : Int) : Cells (w.setCell ⟨g, j, none⟩ (.int k v)) k g 0 n (put f j v) := by
  have := h.set j hj v
  rwa [Nat.zero_add] at this

set_option maxRecDepth 20000 in
set_option maxHeartbeats 1000000 in
theorem number7_at (p : Bool) (s t : Value) (n m : Nat) (f g : Nat → Int) (w : World) (h : Raw w s n f) (k : Raw w t m g) :
    Calls Tryd.prog 14 #[.agg #[.bool p, s, t]] w fun e w' => FewOut p (min n 4) (min m 4) f g w e w' := by
  have hA : ∀ o o', Below w.heap.size w ((w.alloc o).alloc o') := fun o o' => ((Below.refl _ _).alloc (Nat.le_refl _) _).alloc (by simp) _
  obtain ⟨ao, c, rfl, hnil, hnc, hcm, hu, h4⟩ := h
  obtain ⟨bo, d, rfl, knil, knc, kcm, ku, k4⟩ := k
  unfold maxLen at hcm kcm
  by_cases hlt : 4 < n
  · obtain ⟨b1, off1, rfl, hc⟩ := h4 (by omega)
    have hN : Nums .u64 w (.slice (some ⟨b1, off1, none⟩) 4 c) 4 f := ⟨_, _, rfl, by omega, by unfold LIM; omega, fun _ => ⟨_, _, rfl, hc.mono (by omega)⟩⟩
    have hi : (n : Int) > 4 := by omega
    rw [show min n 4 = 4 by omega]
    by_cases klt : 4 < m
    · obtain ⟨b2, off2, rfl, kc⟩ := k4 (by omega)
      have kN : Nums .u64 w (.slice (some ⟨b2, off2, none⟩) 4 d) 4 g := ⟨_, _, rfl, by omega, by unfold LIM; omega, fun _ => ⟨_, _, rfl, kc.mono (by omega)⟩⟩
      have ki : (m : Int) > 4 := by omega
      rw [show min m 4 = 4 by omega]
      go_enter Tryd.func14, Tryd.ntmps14
      go_wp2
      refine bodyPost_ret (v := .agg #[.bool p, .slice (some ⟨b1, off1, none⟩) 4 c, .slice (some ⟨b2, off2, none⟩) 4 d]) (by simp [results, go_sem]) rfl ?_
      exact ⟨_, _, _, _, rfl, hN.below (hA _ _), fun i hi => hu i (by omega), kN.below (hA _ _), fun i hi => ku i (by omega), hA _ _⟩
    · have kN : Nums .u64 w (.slice bo m d) m g := ⟨_, _, rfl, knc, by unfold LIM; omega, k4⟩
      have ki : ¬ (m : Int) > 4 := by omega
      rw [show min m 4 = m by omega]
      go_enter Tryd.func14, Tryd.ntmps14
      go_wp2
      refine bodyPost_ret (v := .agg #[.bool p, .slice (some ⟨b1, off1, none⟩) 4 c, .slice bo m d]) (by simp [results, go_sem]) rfl ?_
      exact ⟨_, _, _, _, rfl, hN.below (hA _ _), fun i hi => hu i (by omega), kN.below (hA _ _), fun i hi => ku i (by omega), hA _ _⟩
  · have hN : Nums .u64 w (.slice ao n c) n f := ⟨_, _, rfl, hnc, by unfold LIM; omega, h4⟩
    have hi : ¬ (n : Int) > 4 := by omega
    rw [show min n 4 = n by omega]
    by_cases klt : 4 < m
    · obtain ⟨b2, off2, rfl, kc⟩ := k4 (by omega)
      have kN : Nums .u64 w (.slice (some ⟨b2, off2, none⟩) 4 d) 4 g := ⟨_, _, rfl, by omega, by unfold LIM; omega, fun _ => ⟨_, _, rfl, kc.mono (by omega)⟩⟩
      have ki : (m : Int) > 4 := by omega
      rw [show min m 4 = 4 by omega]
      go_enter Tryd.func14, Tryd.ntmps14
      go_wp2
      refine bodyPost_ret (v := .agg #[.bool p, .slice ao n c, .slice (some ⟨b2, off2, none⟩) 4 d]) (by simp [results, go_sem]) rfl ?_
      exact ⟨_, _, _, _, rfl, hN.below (hA _ _), fun i hi => hu i (by omega), kN.below (hA _ _), fun i hi => ku i (by omega), hA _ _⟩
    · have kN : Nums .u64 w (.slice bo m d) m g := ⟨_, _, rfl, knc, by unfold LIM; omega, k4⟩
      have ki : ¬ (m : Int) > 4 := by omega
      rw [show min m 4 = m by omega]
      go_enter Tryd.func14, Tryd.ntmps14
      go_wp2
      refine bodyPost_ret (v := .agg #[.bool p, .slice ao n c, .slice bo m d]) (by simp [results, go_sem]) rfl ?_
      exact ⟨_, _, _, _, rfl, hN.below (hA _ _), fun i hi => hu i (by omega), kN.below (hA _ _), fun i hi => ku i (by omega), hA _ _⟩

set_option maxRecDepth 100000 in
set_option maxHeartbeats 8000000 in
theorem few7_at (F : Int) (v : Value) (k : Nat) (N : Nat → Nat) (T : Nat → Nat → Nd) (w : World) (hv : MRaw w v k N T 4) :
    Calls Tryd.prog 5 #[.agg #[.int .i64 F, v]] w fun e w' => ∃ r, e = .returned (.agg #[.int .i64 F, r]) ∧ MOwn w.heap.size w' r (min k 6) (fun i => min (N i) 15) T 4 ∧ Below w.heap.size w w' := by
  obtain ⟨ao, c, rfl, hnc, hc63⟩ := hv.open
  have BB : Below w.heap.size w w := Below.refl _ _
  obtain ⟨Wb0, hW0, hS0, hL0, VM⟩ := V2.lay w 24 (.int .i64 F) (.slice ao k c)
  replace BB := BB.trans (hL0.mono BB.size)
  clear hL0
  obtain ⟨Wb1, hW1, hS1, hL1, VR⟩ := V2.lay Wb0 24 (.int .i64 0) (.slice none 0 0)
  rw [hS0] at VR hS1
  replace VM := VM.below hL1
  replace BB := BB.trans (hL1.mono BB.size)
  clear hL1
  go_enter Tryd.func5, Tryd.ntmps5
  obtain ⟨W2, hW2, hS2, hL2, VO⟩ := V2.lay Wb1 24 (.int .i64 F) (.slice none 0 0)
  obtain ⟨VM_0, VM_1, VM_2, VM_3⟩ := id VM
  rw [hW1, hW0] at VM_0 VM_1 VM_2 VM_3
  obtain ⟨VO_0, VO_1, VO_2, VO_3⟩ := id VO
  rw [hW2, hW1, hW0] at VO_0 VO_1 VO_2 VO_3
  go_wp2
  clear VM_0 VM_1 VM_2 VM_3 VO_0 VO_1 VO_2 VO_3
  rw [← hW0]
  rw [← hW1]
  rw [← hW2]
  have HS : Hid (Wb1.heap.size = w.heap.size + 1 + 1) := hS1
  have hR3 : w.heap.size + 1 < Wb1.heap.size := by omega
  rw [hS1] at VO
  clear hW0 hW1 hW2 hS0 hS1
  have VM0 := VM
  have VR0 := VR
  have BB0 : Hid (Below w.heap.size w Wb1) := BB
  clear VM VR BB
  go_loopw [4] (fun vi wr => ∃ (i : Nat) (tr : Value), i ≤ min k 6 ∧ vi = .int .i64 (i : Int) ∧ V2 wr (w.heap.size + 1 + 1) (.int .i64 F) tr ∧ MOwn (w.heap.size + 1 + 1 + 1) wr tr i (fun i => min (N i) 15) T 4 ∧ Below Wb1.heap.size Wb1 wr) (fun vi _ => min k 6 - (intOf vi).toNat)
  case atStart => exact ⟨0, _, by omega, rfl, VO, MOwn.nil _ _ _ _ _, hL2⟩
  case round =>
    clear VO hL2
    obtain ⟨i, tr, hi, rfl, VO, MO, BL⟩ := hrel
    obtain ⟨at3, ct3, rfl⟩ := MO.form
    obtain ⟨VM_0, VM_1, VM_2, VM_3⟩ := VM0.below BL
    by_cases hlt : i < min k 6
    · have hik : i < k := by omega
      have h6 : i < 6 := by omega
      have g1 : (i : Int) < (k : Int) := by omega
      have g2 : (i : Int) < 6 := by omega
      have g0 : (0 : Int) ≤ (i : Int) := by omega
      obtain ⟨bT, oT, cT, aT, dT, hvv, hcc, XT0, TR⟩ := hv.at hik
      cases hvv
      go_wp2
      clear VM_0 VM_1 VM_2 VM_3
      obtain ⟨wo, rfl⟩ : ∃ wo, wo = wr := ⟨_, rfl⟩
      have hwo : Wb1.heap.size ≤ wo.heap.size := BL.size
      have HNi : Hid (N i ≤ dT ∧ dT ≤ 9223372036854775807) := by obtain ⟨_, _, e9, l9, m9⟩ := TR.open; cases e9; exact ⟨l9, m9⟩
      have hNd := HNi.out.1
      obtain ⟨ni, hni⟩ : ∃ ni, N i = ni := ⟨_, rfl⟩
      have HNI : Hid (N i = ni) := hni
      rw [hni] at XT0 TR hNd
      clear hni
      go_loopw [5, 6] (fun vt vq wr => ∃ q : Nat, q ≤ min ni 15 ∧ vq = .int .i64 (q : Int) ∧ NOwn wo.heap.size wr vt q (T i) 4 ∧ Below wo.heap.size wo wr) (fun _ vq _ => min ni 15 - (intOf vq).toNat)
      case atStart => exact ⟨0, by omega, rfl, NOwn.nil _ _ _ _, Below.refl _ _⟩
      case round =>
        obtain ⟨q, hq, rfl, TO, BI⟩ := hrel
        have BW := BL.trans (BI.mono BL.size)
        have BB := BB0.out.trans (BW.mono BB0.out.size)
        obtain ⟨VM_0, VM_1, VM_2, VM_3⟩ := VM0.below BW
        have XT : wr.cell? ⟨bT, oT + i, none⟩ = some (.slice aT ni dT) := (BB.cell (World.block_lt_of_cell? _ _ XT0)).trans XT0
        obtain ⟨avt, cvt, rfl⟩ := TO.form
        by_cases hlq : q < min ni 15
        · have hqN : q < ni := by omega
          have e1 : (q : Int) < (ni : Int) := by omega
          have e2 : (q : Int) < 15 := by omega
          have e0 : (0 : Int) ≤ (q : Int) := by omega
          have hq15 : q ≤ 15 := by omega
          obtain ⟨b, off, cc, p1, a1, n1, c1, b1, m1, d1, f1, g1_, p2, a2, n2, c2, b2, m2, d2, f2, g2_, p3, a3, n3, c3, b3, m3, d3, f3, g3_, hvv, hcc2, hc6, NN0, ⟨u1, v1, E1⟩, ⟨u2, v2, E2⟩, ⟨u3, v3, E3_⟩, i1, i2, i3⟩ := TR.at hqN
          cases hvv
          have NN := NN0.low BB
          clear NN0
          have HE1 : Hid ((T i q).cut = mkRat (zof p1 (num f1 (min n1 4))) (num g1_ (min m1 4))) := E1
          have HE2 : Hid ((T i q).val = mkRat (zof p2 (num f2 (min n2 4))) (num g2_ (min m2 4))) := E2
          have HE3 : Hid ((T i q).cov = mkRat (zof p3 (num f3 (min n3 4))) (num g3_ (min m3 4))) := E3_
          clear E1 E2 E3_
          obtain ⟨lf, hlf⟩ : ∃ z, (T i q).leaf = z := ⟨_, rfl⟩
          obtain ⟨ft, hft⟩ : ∃ z, (T i q).feat = z := ⟨_, rfl⟩
          obtain ⟨ll, hll⟩ : ∃ z, (T i q).left = z := ⟨_, rfl⟩
          obtain ⟨rr, hrr⟩ : ∃ z, (T i q).right = z := ⟨_, rfl⟩
          obtain ⟨ms, hms⟩ : ∃ z, (T i q).miss = z := ⟨_, rfl⟩
          rw [hlf, hft, hll, hrr, hms] at NN
          have HI3 : Hid (I64 (T i q).feat ∧ I64 (T i q).left ∧ I64 (T i q).right) := ⟨i1, i2, i3⟩
          have HLE : Hid ((T i q).leaf = lf ∧ (T i q).feat = ft ∧ (T i q).left = ll ∧ (T i q).right = rr ∧ (T i q).miss = ms) := ⟨hlf, hft, hll, hrr, hms⟩
          clear hlf hft hll hrr hms i1 i2 i3
          obtain ⟨N_0, N_1, N_2, N_3, N_4, N_5, N_6, N_7, N_8, N_9, N_10, N_11, N_12, N_13⟩ := id NN
          have hRb : wo.heap.size ≤ wr.heap.size := BI.size
          have HRT : Hid (∀ g, (Value.slice avt q cvt).ownBlock = some g → g ≠ wr.heap.size) := fun g hg => Nat.ne_of_lt (TO.blocks g hg).2
          obtain ⟨W9, hW9, hS9, hL9, VN, FN⟩ := V14.lay wr 41 (.bool lf) (.int .i64 ft) (.bool p1) (.slice a1 n1 c1) (.slice b1 m1 d1) (.int .i64 ll) (.int .i64 rr) (.bool ms) (.bool p2) (.slice a2 n2 c2) (.slice b2 m2 d2) (.bool p3) (.slice a3 n3 c3) (.slice b3 m3 d3)
          replace TO := TO.later hL9
          replace BB := BB.trans (hL9.mono BB.size)
          replace BI := BI.trans (hL9.mono BI.size)
          obtain ⟨V_0, V_1, V_2, V_3, V_4, V_5, V_6, V_7, V_8, V_9, V_10, V_11, V_12, V_13⟩ := id VN
          rw [hW9] at V_0 V_1 V_2 V_3 V_4 V_5 V_6 V_7 V_8 V_9 V_10 V_11 V_12 V_13
          go_wp2_with fail
          clear V_0 V_1 V_2 V_3 V_4 V_5 V_6 V_7 V_8 V_9 V_10 V_11 V_12 V_13 N_0 N_1 N_2 N_3 N_4 N_5 N_6 N_7 N_8 N_9 N_10 N_11 N_12 N_13 VM_0 VM_1 VM_2 VM_3 XT
          rw [← hW9]
          have hRw : w.heap.size ≤ wr.heap.size := by have := BB0.out.size; omega
          generalize wr.heap.size = R at *
          clear hW9 hS9 hL9 NN
          refine (number7_at _ _ _ _ _ _ _ _ (u1.below BB) (v1.below BB)).mono ?_
          rintro e wn1 ⟨ao1, co1, bo1, do1, rfl, hu1, uf1, hv1, vf1, bn1⟩
          have X1 : RatAt wn1 (.agg #[.bool p1, .slice ao1 (min n1 4) co1, .slice bo1 (min m1 4) do1]) (T i q).cut 4 := by rw [HE1.out]; exact RatAt.raw hu1 uf1 hv1 vf1 (Nat.min_le_right _ _) (Nat.min_le_right _ _)
          clear hu1 uf1 hv1 vf1 HE1
          replace FN := soft_below FN VN.lt bn1
          replace VN := VN.below bn1
          replace TO := TO.later bn1
          replace BB := BB.trans (bn1.mono BB.size)
          replace BI := BI.trans (bn1.mono BI.size)
          generalize min n1 4 = k1 at *
          generalize min m1 4 = l1 at *
          clear bn1
          have KK := VN.keep2 (limb_bool _) (limb_slice _ _ _) (limb_slice _ _ _) (.bool p1) (.slice ao1 k1 co1) (.slice bo1 l1 do1)
          have FN_n : ∀ j, ((((wn1).setCell ⟨R, 2, none⟩ (.bool p1)).setCell ⟨R, 3, none⟩ (.slice ao1 k1 co1)).setCell ⟨R, 4, none⟩ (.slice bo1 l1 do1)).frozen? ⟨R, j, none⟩ = false := soft_set (soft_set (soft_set FN _ _) _ _) _ _
          have VN_n := VN.set2 (.bool p1) (.slice ao1 k1 co1) (.slice bo1 l1 do1)
          have X1_n := X1.keepL KK
          have BB_n : Below w.heap.size w ((((wn1).setCell ⟨R, 2, none⟩ (.bool p1)).setCell ⟨R, 3, none⟩ (.slice ao1 k1 co1)).setCell ⟨R, 4, none⟩ (.slice bo1 l1 do1)) := ((BB.setCell hRw _).setCell hRw _).setCell hRw _
          have BI_n : Below wo.heap.size wo ((((wn1).setCell ⟨R, 2, none⟩ (.bool p1)).setCell ⟨R, 3, none⟩ (.slice ao1 k1 co1)).setCell ⟨R, 4, none⟩ (.slice bo1 l1 do1)) := ((BI.setCell hRb _).setCell hRb _).setCell hRb _
          have TO_n := TO.apart2 HRT.out VN.c2 VN.c3 VN.c4 (limb_bool _) (limb_slice _ _ _) (limb_slice _ _ _) (.bool p1) (.slice ao1 k1 co1) (.slice bo1 l1 do1)
          obtain ⟨V_0, V_1, V_2, V_3, V_4, V_5, V_6, V_7, V_8, V_9, V_10, V_11, V_12, V_13⟩ := id VN
          have f0_ := FN 2
          have f1_ := FN 3
          have f2_ := FN 4
          clear FN
          obtain ⟨Z_0, Z_1, Z_2, Z_3, Z_4, Z_5, Z_6, Z_7, Z_8, Z_9, Z_10, Z_11, Z_12, Z_13⟩ := id VN_n
          go_wp2_with fail
          clear KK f0_ f1_ f2_ VN TO BB BI X1 V_0 V_1 V_2 V_3 V_4 V_5 V_6 V_7 V_8 V_9 V_10 V_11 V_12 V_13 Z_0 Z_1 Z_2 Z_3 Z_4 Z_5 Z_6 Z_7 Z_8 Z_9 Z_10 Z_11 Z_12 Z_13
          generalize (((wn1).setCell ⟨R, 2, none⟩ (.bool p1)).setCell ⟨R, 3, none⟩ (.slice ao1 k1 co1)).setCell ⟨R, 4, none⟩ (.slice bo1 l1 do1) = ws1 at *
          have FN := FN_n
          have VN := VN_n
          have BB := BB_n
          have BI := BI_n
          have TO := TO_n
          have X1 := X1_n
          clear FN_n VN_n BB_n BI_n TO_n X1_n
          refine (number7_at _ _ _ _ _ _ _ _ (u2.below BB) (v2.below BB)).mono ?_
          rintro e wn2 ⟨ao2, co2, bo2, do2, rfl, hu2, uf2, hv2, vf2, bn2⟩
          have X2 : RatAt wn2 (.agg #[.bool p2, .slice ao2 (min n2 4) co2, .slice bo2 (min m2 4) do2]) (T i q).val 4 := by rw [HE2.out]; exact RatAt.raw hu2 uf2 hv2 vf2 (Nat.min_le_right _ _) (Nat.min_le_right _ _)
          clear hu2 uf2 hv2 vf2 HE2
          replace FN := soft_below FN VN.lt bn2
          replace VN := VN.below bn2
          replace TO := TO.later bn2
          replace BB := BB.trans (bn2.mono BB.size)
          replace BI := BI.trans (bn2.mono BI.size)
          generalize min n2 4 = k2 at *
          generalize min m2 4 = l2 at *
          replace X1 := X1.below bn2
          clear bn2
          have KK := VN.keep8 (limb_bool _) (limb_slice _ _ _) (limb_slice _ _ _) (.bool p2) (.slice ao2 k2 co2) (.slice bo2 l2 do2)
          have FN_n : ∀ j, ((((wn2).setCell ⟨R, 8, none⟩ (.bool p2)).setCell ⟨R, 9, none⟩ (.slice ao2 k2 co2)).setCell ⟨R, 10, none⟩ (.slice bo2 l2 do2)).frozen? ⟨R, j, none⟩ = false := soft_set (soft_set (soft_set FN _ _) _ _) _ _
          have VN_n := VN.set8 (.bool p2) (.slice ao2 k2 co2) (.slice bo2 l2 do2)
          have X1_n := X1.keepL KK
          have X2_n := X2.keepL KK
          have BB_n : Below w.heap.size w ((((wn2).setCell ⟨R, 8, none⟩ (.bool p2)).setCell ⟨R, 9, none⟩ (.slice ao2 k2 co2)).setCell ⟨R, 10, none⟩ (.slice bo2 l2 do2)) := ((BB.setCell hRw _).setCell hRw _).setCell hRw _
          have BI_n : Below wo.heap.size wo ((((wn2).setCell ⟨R, 8, none⟩ (.bool p2)).setCell ⟨R, 9, none⟩ (.slice ao2 k2 co2)).setCell ⟨R, 10, none⟩ (.slice bo2 l2 do2)) := ((BI.setCell hRb _).setCell hRb _).setCell hRb _
          have TO_n := TO.apart8 HRT.out VN.c8 VN.c9 VN.c10 (limb_bool _) (limb_slice _ _ _) (limb_slice _ _ _) (.bool p2) (.slice ao2 k2 co2) (.slice bo2 l2 do2)
          obtain ⟨V_0, V_1, V_2, V_3, V_4, V_5, V_6, V_7, V_8, V_9, V_10, V_11, V_12, V_13⟩ := id VN
          have f0_ := FN 8
          have f1_ := FN 9
          have f2_ := FN 10
          clear FN
          obtain ⟨Z_0, Z_1, Z_2, Z_3, Z_4, Z_5, Z_6, Z_7, Z_8, Z_9, Z_10, Z_11, Z_12, Z_13⟩ := id VN_n
          go_wp2_with fail
          clear KK f0_ f1_ f2_ VN TO BB BI X1 X2 V_0 V_1 V_2 V_3 V_4 V_5 V_6 V_7 V_8 V_9 V_10 V_11 V_12 V_13 Z_0 Z_1 Z_2 Z_3 Z_4 Z_5 Z_6 Z_7 Z_8 Z_9 Z_10 Z_11 Z_12 Z_13
          generalize (((wn2).setCell ⟨R, 8, none⟩ (.bool p2)).setCell ⟨R, 9, none⟩ (.slice ao2 k2 co2)).setCell ⟨R, 10, none⟩ (.slice bo2 l2 do2) = ws2 at *
          have FN := FN_n
          have VN := VN_n
          have BB := BB_n
          have BI := BI_n
          have TO := TO_n
          have X1 := X1_n
          have X2 := X2_n
          clear FN_n VN_n BB_n BI_n TO_n X1_n X2_n
          refine (number7_at _ _ _ _ _ _ _ _ (u3.below BB) (v3.below BB)).mono ?_
          rintro e wn3 ⟨ao3, co3, bo3, do3, rfl, hu3, uf3, hv3, vf3, bn3⟩
          have X3 : RatAt wn3 (.agg #[.bool p3, .slice ao3 (min n3 4) co3, .slice bo3 (min m3 4) do3]) (T i q).cov 4 := by rw [HE3.out]; exact RatAt.raw hu3 uf3 hv3 vf3 (Nat.min_le_right _ _) (Nat.min_le_right _ _)
          clear hu3 uf3 hv3 vf3 HE3
          replace FN := soft_below FN VN.lt bn3
          replace VN := VN.below bn3
          replace TO := TO.later bn3
          replace BB := BB.trans (bn3.mono BB.size)
          replace BI := BI.trans (bn3.mono BI.size)
          generalize min n3 4 = k3 at *
          generalize min m3 4 = l3 at *
          replace X1 := X1.below bn3
          replace X2 := X2.below bn3
          clear bn3
          have KK := VN.keep11 (limb_bool _) (limb_slice _ _ _) (limb_slice _ _ _) (.bool p3) (.slice ao3 k3 co3) (.slice bo3 l3 do3)
          have FN_n : ∀ j, ((((wn3).setCell ⟨R, 11, none⟩ (.bool p3)).setCell ⟨R, 12, none⟩ (.slice ao3 k3 co3)).setCell ⟨R, 13, none⟩ (.slice bo3 l3 do3)).frozen? ⟨R, j, none⟩ = false := soft_set (soft_set (soft_set FN _ _) _ _) _ _
          have VN_n := VN.set11 (.bool p3) (.slice ao3 k3 co3) (.slice bo3 l3 do3)
          have X1_n := X1.keepL KK
          have X2_n := X2.keepL KK
          have X3_n := X3.keepL KK
          have BB_n : Below w.heap.size w ((((wn3).setCell ⟨R, 11, none⟩ (.bool p3)).setCell ⟨R, 12, none⟩ (.slice ao3 k3 co3)).setCell ⟨R, 13, none⟩ (.slice bo3 l3 do3)) := ((BB.setCell hRw _).setCell hRw _).setCell hRw _
          have BI_n : Below wo.heap.size wo ((((wn3).setCell ⟨R, 11, none⟩ (.bool p3)).setCell ⟨R, 12, none⟩ (.slice ao3 k3 co3)).setCell ⟨R, 13, none⟩ (.slice bo3 l3 do3)) := ((BI.setCell hRb _).setCell hRb _).setCell hRb _
          have TO_n := TO.apart11 HRT.out VN.c11 VN.c12 VN.c13 (limb_bool _) (limb_slice _ _ _) (limb_slice _ _ _) (.bool p3) (.slice ao3 k3 co3) (.slice bo3 l3 do3)
          obtain ⟨V_0, V_1, V_2, V_3, V_4, V_5, V_6, V_7, V_8, V_9, V_10, V_11, V_12, V_13⟩ := id VN
          have f0_ := FN 11
          have f1_ := FN 12
          have f2_ := FN 13
          clear FN
          obtain ⟨Z_0, Z_1, Z_2, Z_3, Z_4, Z_5, Z_6, Z_7, Z_8, Z_9, Z_10, Z_11, Z_12, Z_13⟩ := id VN_n
          have hA : Below ((((wn3).setCell ⟨R, 11, none⟩ (.bool p3)).setCell ⟨R, 12, none⟩ (.slice ao3 k3 co3)).setCell ⟨R, 13, none⟩ (.slice bo3 l3 do3)).heap.size ((((wn3).setCell ⟨R, 11, none⟩ (.bool p3)).setCell ⟨R, 12, none⟩ (.slice ao3 k3 co3)).setCell ⟨R, 13, none⟩ (.slice bo3 l3 do3)) (((((wn3).setCell ⟨R, 11, none⟩ (.bool p3)).setCell ⟨R, 12, none⟩ (.slice ao3 k3 co3)).setCell ⟨R, 13, none⟩ (.slice bo3 l3 do3)).alloc (.cells #[.bool lf, .int .i64 ft, .bool p1, .slice ao1 k1 co1, .slice bo1 l1 do1, .int .i64 ll, .int .i64 rr, .bool ms, .bool p2, .slice ao2 k2 co2, .slice bo2 l2 do2, .bool p3, .slice ao3 k3 co3, .slice bo3 l3 do3] 41)) := (Below.refl _ _).alloc (Nat.le_refl _) _
          have TO2 := TO_n.later hA
          have BI2 := BI_n.trans (hA.mono BI_n.size)
          have Y1 := X1_n.below hA
          have Y2 := X2_n.below hA
          have Y3 := X3_n.below hA
          obtain ⟨cs, hcl, hco, hcp, hcn⟩ := TO2.parts
          have hsz2 := BI2.size
          have hbk := TO2.blocks
          have HND : Hid (NodeAt (((((wn3).setCell ⟨R, 11, none⟩ (.bool p3)).setCell ⟨R, 12, none⟩ (.slice ao3 k3 co3)).setCell ⟨R, 13, none⟩ (.slice bo3 l3 do3)).alloc (.cells #[.bool lf, .int .i64 ft, .bool p1, .slice ao1 k1 co1, .slice bo1 l1 do1, .int .i64 ll, .int .i64 rr, .bool ms, .bool p2, .slice ao2 k2 co2, .slice bo2 l2 do2, .bool p3, .slice ao3 k3 co3, .slice bo3 l3 do3] 41)) (fun j => [.bool lf, .int .i64 ft, .bool p1, .slice ao1 k1 co1, .slice bo1 l1 do1, .int .i64 ll, .int .i64 rr, .bool ms, .bool p2, .slice ao2 k2 co2, .slice bo2 l2 do2, .bool p3, .slice ao3 k3 co3, .slice bo3 l3 do3].getD j undef) (T i q) 4) := by
            obtain ⟨z1, z2, z3, z4, z5⟩ := HLE.out
            obtain ⟨y1, y2, y3⟩ := HI3.out
            exact ⟨by rw [z1]; rfl, by rw [z2]; rfl, ⟨_, _, _, _, _, _, _, rfl, rfl, rfl, Y1⟩, by rw [z3]; rfl, by rw [z4]; rfl, by rw [z5]; rfl, ⟨_, _, _, _, _, _, _, rfl, rfl, rfl, Y2⟩, ⟨_, _, _, _, _, _, _, rfl, rfl, rfl, Y3⟩, y1, y2, y3⟩
          have HCN : Hid (∀ j, j < q → NodeAt (((((wn3).setCell ⟨R, 11, none⟩ (.bool p3)).setCell ⟨R, 12, none⟩ (.slice ao3 k3 co3)).setCell ⟨R, 13, none⟩ (.slice bo3 l3 do3)).alloc (.cells #[.bool lf, .int .i64 ft, .bool p1, .slice ao1 k1 co1, .slice bo1 l1 do1, .int .i64 ll, .int .i64 rr, .bool ms, .bool p2, .slice ao2 k2 co2, .slice bo2 l2 do2, .bool p3, .slice ao3 k3 co3, .slice bo3 l3 do3] 41)) (fun x => cs.getD (j * 14 + x) undef) (T i j) 4) := hcn
          have HCL : Hid (cs.length = q * 14) := hcl
          have hws : ((((wn3).setCell ⟨R, 11, none⟩ (.bool p3)).setCell ⟨R, 12, none⟩ (.slice ao3 k3 co3)).setCell ⟨R, 13, none⟩ (.slice bo3 l3 do3)).heap.size = wn3.heap.size := by simp
          have hnb := news_block (heap_alloc_new ((((wn3).setCell ⟨R, 11, none⟩ (.bool p3)).setCell ⟨R, 12, none⟩ (.slice ao3 k3 co3)).setCell ⟨R, 13, none⟩ (.slice bo3 l3 do3)) (.cells #[.bool lf, .int .i64 ft, .bool p1, .slice ao1 k1 co1, .slice bo1 l1 do1, .int .i64 ll, .int .i64 rr, .bool ms, .bool p2, .slice ao2 k2 co2, .slice bo2 l2 do2, .bool p3, .slice ao3 k3 co3, .slice bo3 l3 do3] 41))
          rw [hws] at hnb
          clear hws
          clear hcn hcl TO2 Y1 Y2 Y3 TO_n TO BB BI X1 X2 X3 X1_n X2_n X3_n HLE HI3 KK VN
          go_wp2_with (first
            | (at_builtin
               refine wpList_append_pure (Q' := IsLimb) rfl _ _ _ rfl wo.heap.size 41 (.agg #[.bool false, .int .i64 0, .bool false, .slice none 0 0, .slice none 0 0, .int .i64 0, .int .i64 0, .bool false, .bool false, .slice none 0 0, .slice none 0 0, .bool false, .slice none 0 0, .slice none 0 0]) 14 208 Tryd.underlying33 info_node rfl (by omega) (.slice avt q cvt) rfl q cs hco hcp ⟨wn3.heap.size, 0, none⟩ 1 rfl [.bool lf, .int .i64 ft, .bool p1, .slice ao1 k1 co1, .slice bo1 l1 do1, .int .i64 ll, .int .i64 rr, .bool ms, .bool p2, .slice ao2 k2 co2, .slice bo2 l2 do2, .bool p3, .slice ao3 k3 co3, .slice bo3 l3 do3] rfl ?g14 ?g15 ?g16 ?g17 (by omega) (by omega) hsz2 ?_
               case g14 => exact hnb
               case g15 => simp [Value.oneCell']
               case g16 => simp [limb_bool, limb_slice, limb_int]
               case g17 => simp [Value.cells, limb_bool, limb_slice, limb_int]
               intro gN cN w5 ho5 hg5 _ hp5 hk5
               have NO5 : NOwn wo.heap.size w5 (.slice (some ⟨gN, 0, none⟩) (q + 1) cN) (q + 1) (T i) 4 := NOwn.more (v := .slice none 0 0) ho5 HCL.out (fun g hg => by cases hg; exact hp5) hk5 HCN.out HND.out
               have BI5 : Below wo.heap.size wo w5 := below_grownB BI2 hg5 hsz2 (fun g hg => (hbk g hg).1)
               clear ho5 hg5 hp5 hk5 hco hcp BI2 hbk hA HCN HND HCL))
          go_roundw
          case rel => exact ⟨q + 1, by omega, by go_num, NO5, BI5⟩
          case measure => simp [intOf]; omega
        · have hqe : q = min ni 15 := by omega
          have HQ : Hid (q = min (N i) 15) := by rw [HNI.out]; exact hqe
          have MO2 : MOwn (w.heap.size + 1 + 1 + 1) wr (.slice at3 i ct3) i (fun i => min (N i) 15) T 4 := MO.later BI
          have TO2 : NOwn (w.heap.size + 1 + 1 + 1) wr (.slice avt q cvt) q (T i) 4 := TO.le (by have := VO.lt; omega)
          have VO2 := VO.below BI
          clear BI TO MO VO BB
          have HSZ : Hid (Wb1.heap.size = w.heap.size + 1 + 1) := HS
          have hsz1 : w.heap.size + 1 + 1 + 1 ≤ wr.heap.size := by have := BW.size; have := VO2.lt; omega
          have hA : Below wr.heap.size wr (wr.alloc (.cells #[.slice avt q cvt] 33)) := (Below.refl _ _).alloc (Nat.le_refl _) _
          replace MO2 := MO2.later hA
          replace TO2 := TO2.later hA
          have VO3 := VO2.below hA
          have BW2 := BW.trans (hA.mono BW.size)
          obtain ⟨us, huo, hup⟩ := MO2.parts
          have hbk := MO2.blocks
          have hsz2 : w.heap.size + 1 + 1 + 1 ≤ (wr.alloc (.cells #[.slice avt q cvt] 33)).heap.size := Nat.le_trans hsz1 hA.size
          obtain ⟨VO_0, VO_1, VO_2, VO_3⟩ := id VO2
          have hqm : ¬ ((q : Int) < (ni : Int) ∧ (q : Int) < 15) := by omega
          have hbl : w.heap.size + 1 + 1 < wr.heap.size := by omega
          clear hqe hq hlq
          by_cases hqn : q < ni
          · have c1 : (q : Int) < (ni : Int) := by omega
            have c2 : ¬ (q : Int) < 15 := by omega
            go_wp2_with (first
              | (at_builtin
                 refine wpList_append_pure (Q' := IsLimb) rfl _ _ _ rfl (w.heap.size + 1 + 1 + 1) 33 (.slice none 0 0) 1 24 Tryd.underlying22 info_tree rfl (by omega) (.slice at3 i ct3) rfl i us huo hup ⟨wr.heap.size, 0, none⟩ 1 rfl [.slice avt q cvt] rfl ?g14 ?g15 ?g16 ?g17 (by omega) (by omega) hsz2 ?_
                 case g14 => exact news_block (heap_alloc_new _ _)
                 case g15 => simp [Value.oneCell']
                 case g16 => simp [limb_slice]
                 case g17 => simp [Value.cells, limb_slice]
                 intro gN cN w5 ho5 hg5 _ hp5 hk5
                 have MO5 : MOwn (w.heap.size + 1 + 1 + 1) w5 (.slice (some ⟨gN, 0, none⟩) (i + 1) cN) (i + 1) (fun i => min (N i) 15) T 4 := MO2.more1 huo (by rw [← HQ.out]; exact TO2) ho5 hg5 (fun g hg => by cases hg; exact hp5) hk5
                 have hlow : Below (w.heap.size + 1 + 1 + 1) (wr.alloc (.cells #[.slice avt q cvt] 33)) w5 := below_grownB (Below.refl _ _) hg5 hsz2 (fun g hg => (hbk g hg).1)
                 have VO5 : V2 w5 (w.heap.size + 1 + 1) (.int .i64 F) (.slice at3 i ct3) := ⟨(hlow.cell (p := ⟨_, 0, none⟩) (by show w.heap.size + 1 + 1 < _; omega)).trans VO3.1, (hlow.cell (p := ⟨_, 1, none⟩) (by show w.heap.size + 1 + 1 < _; omega)).trans VO3.2.1, (hlow.frozen (p := ⟨_, 0, none⟩) (by show w.heap.size + 1 + 1 < _; omega)).trans VO3.2.2.1, (hlow.frozen (p := ⟨_, 1, none⟩) (by show w.heap.size + 1 + 1 < _; omega)).trans VO3.2.2.2⟩
                 have BW5 : Below Wb1.heap.size Wb1 w5 := BW2.trans (hlow.mono (by have := HSZ.out; omega))
                 obtain ⟨U_0, U_1, U_2, U_3⟩ := id VO5
                 have K5 : KeepQ IsLimb w5 (w5.setCell ⟨w.heap.size + 1 + 1, 1, none⟩ (.slice (some ⟨gN, 0, none⟩) (i + 1) cN)) := keepL_set U_1 (limb_slice _ _ _) _
                 have MO6 := MO5.set (a := ⟨w.heap.size + 1 + 1, 1, none⟩) (by show w.heap.size + 1 + 1 < _; omega) _ K5
                 have VO6 : V2 (w5.setCell ⟨w.heap.size + 1 + 1, 1, none⟩ (.slice (some ⟨gN, 0, none⟩) (i + 1) cN)) (w.heap.size + 1 + 1) (.int .i64 F) (.slice (some ⟨gN, 0, none⟩) (i + 1) cN) := ⟨cell_set_by U_0 (by omega), cell_set_at U_1, by simp [U_2], by simp [U_3]⟩
                 have BW6 := BW5.setCell (p := ⟨w.heap.size + 1 + 1, 1, none⟩) (by show Wb1.heap.size ≤ w.heap.size + 1 + 1; have := HSZ.out; omega) (.slice (some ⟨gN, 0, none⟩) (i + 1) cN)
                 clear ho5 hg5 hp5 hk5 huo hup hbk hlow hA MO5 MO2 TO2 K5 VO5 VO3 BW5 BW2))
            go_roundw
            case rel => exact ⟨i + 1, _, by omega, by go_num, VO6, MO6, BW6⟩
            case measure => simp [intOf]; omega
          · have c1 : ¬ (q : Int) < (ni : Int) := by omega
            have c1b : decide ((q : Int) < (ni : Int)) = false := decide_eq_false c1
            go_wp2_with (first
              | (at_builtin
                 refine wpList_append_pure (Q' := IsLimb) rfl _ _ _ rfl (w.heap.size + 1 + 1 + 1) 33 (.slice none 0 0) 1 24 Tryd.underlying22 info_tree rfl (by omega) (.slice at3 i ct3) rfl i us huo hup ⟨wr.heap.size, 0, none⟩ 1 rfl [.slice avt q cvt] rfl ?g14 ?g15 ?g16 ?g17 (by omega) (by omega) hsz2 ?_
                 case g14 => exact news_block (heap_alloc_new _ _)
                 case g15 => simp [Value.oneCell']
                 case g16 => simp [limb_slice]
                 case g17 => simp [Value.cells, limb_slice]
                 intro gN cN w5 ho5 hg5 _ hp5 hk5
                 have MO5 : MOwn (w.heap.size + 1 + 1 + 1) w5 (.slice (some ⟨gN, 0, none⟩) (i + 1) cN) (i + 1) (fun i => min (N i) 15) T 4 := MO2.more1 huo (by rw [← HQ.out]; exact TO2) ho5 hg5 (fun g hg => by cases hg; exact hp5) hk5
                 have hlow : Below (w.heap.size + 1 + 1 + 1) (wr.alloc (.cells #[.slice avt q cvt] 33)) w5 := below_grownB (Below.refl _ _) hg5 hsz2 (fun g hg => (hbk g hg).1)
                 have VO5 : V2 w5 (w.heap.size + 1 + 1) (.int .i64 F) (.slice at3 i ct3) := ⟨(hlow.cell (p := ⟨_, 0, none⟩) (by show w.heap.size + 1 + 1 < _; omega)).trans VO3.1, (hlow.cell (p := ⟨_, 1, none⟩) (by show w.heap.size + 1 + 1 < _; omega)).trans VO3.2.1, (hlow.frozen (p := ⟨_, 0, none⟩) (by show w.heap.size + 1 + 1 < _; omega)).trans VO3.2.2.1, (hlow.frozen (p := ⟨_, 1, none⟩) (by show w.heap.size + 1 + 1 < _; omega)).trans VO3.2.2.2⟩
                 have BW5 : Below Wb1.heap.size Wb1 w5 := BW2.trans (hlow.mono (by have := HSZ.out; omega))
                 obtain ⟨U_0, U_1, U_2, U_3⟩ := id VO5
                 have K5 : KeepQ IsLimb w5 (w5.setCell ⟨w.heap.size + 1 + 1, 1, none⟩ (.slice (some ⟨gN, 0, none⟩) (i + 1) cN)) := keepL_set U_1 (limb_slice _ _ _) _
                 have MO6 := MO5.set (a := ⟨w.heap.size + 1 + 1, 1, none⟩) (by show w.heap.size + 1 + 1 < _; omega) _ K5
                 have VO6 : V2 (w5.setCell ⟨w.heap.size + 1 + 1, 1, none⟩ (.slice (some ⟨gN, 0, none⟩) (i + 1) cN)) (w.heap.size + 1 + 1) (.int .i64 F) (.slice (some ⟨gN, 0, none⟩) (i + 1) cN) := ⟨cell_set_by U_0 (by omega), cell_set_at U_1, by simp [U_2], by simp [U_3]⟩
                 have BW6 := BW5.setCell (p := ⟨w.heap.size + 1 + 1, 1, none⟩) (by show Wb1.heap.size ≤ w.heap.size + 1 + 1; have := HSZ.out; omega) (.slice (some ⟨gN, 0, none⟩) (i + 1) cN)
                 clear ho5 hg5 hp5 hk5 huo hup hbk hlow hA MO5 MO2 TO2 K5 VO5 VO3 BW5 BW2))
            go_roundw
            case rel => exact ⟨i + 1, _, by omega, by go_num, VO6, MO6, BW6⟩
            case measure => simp [intOf]; omega
    · have hik : i = min k 6 := by omega
      have VR := VR0.below BL
      have BB := BB0.out.trans (BL.mono BB0.out.size)
      obtain ⟨VO_0, VO_1, VO_2, VO_3⟩ := id VO
      obtain ⟨q1, q2, q3, q4⟩ := id VR
      have HIK : Hid (i = min k 6) := hik
      clear hik
      have K1 : KeepQ IsLimb wr (wr.setCell ⟨w.heap.size + 1, 0, none⟩ (.int .i64 F)) := keepL_set q1 (limb_int 0) _
      have K2 := keepL_set (cell_set_by (u := .int .i64 F) (j := 0) q2 (by omega)) (limb_slice _ _ _) (.slice at3 i ct3)
      have MO2 := (MO.set (a := ⟨w.heap.size + 1, 0, none⟩) (by show w.heap.size + 1 < _; omega) _ K1).set (a := ⟨w.heap.size + 1, 1, none⟩) (by show w.heap.size + 1 < _; omega) _ K2
      have HMR : Hid (MOwn w.heap.size _ (.slice at3 i ct3) i (fun i => min (N i) 15) T 4) := MO2.le (by omega)
      have BB2 := (BB.setCell (p := ⟨w.heap.size + 1, 0, none⟩) (by show w.heap.size ≤ w.heap.size + 1; omega) (.int .i64 F)).setCell (p := ⟨w.heap.size + 1, 1, none⟩) (by show w.heap.size ≤ w.heap.size + 1; omega) (.slice at3 i ct3)
      clear MO2 K1 K2 MO
      by_cases hk6 : i < k
      · have g1 : (i : Int) < (k : Int) := by omega
        have g2 : ¬ (i : Int) < 6 := by have := HIK.out; omega
        go_wp2
        (try simp only [Exit.inBlock, Exit.then])
        refine bodyPost_ret (v := .agg #[.int .i64 F, .slice at3 i ct3]) (by simp [results, go_sem, q1, q2]) rfl ?_
        have h9 := HMR.out
        have h8 := HIK.out
        exact ⟨_, rfl, by rw [← h8]; exact h9, BB2⟩
      · have g1 : ¬ (i : Int) < (k : Int) := by omega
        have g1b : decide ((i : Int) < (k : Int)) = false := decide_eq_false g1
        go_wp2
        (try simp only [Exit.inBlock, Exit.then])
        refine bodyPost_ret (v := .agg #[.int .i64 F, .slice at3 i ct3]) (by simp [results, go_sem, q1, q2]) rfl ?_
        have h9 := HMR.out
        have h8 := HIK.out
        exact ⟨_, rfl, by rw [← h8]; exact h9, BB2⟩

theorem badF_yes {t : Nat → Nd} {i : Nat} (h : (t i).feat < 0 ∨ 64 < (t i).feat ∨ (t i).left < 0 ∨ 255 < (t i).left ∨ (t i).right < 0 ∨ 255 < (t i).right) : badF t i = true := by
  unfold badF
  by_cases h1 : 0 ≤ (t i).feat ∧ (t i).feat ≤ 64
  · by_cases h2 : 0 ≤ (t i).left ∧ (t i).left ≤ 255
    · rw [decide_eq_false (show ¬ (0 ≤ (t i).right ∧ (t i).right ≤ 255) by omega)]; simp
    · rw [decide_eq_false h2]; simp
  · rw [decide_eq_false h1]; simp
theorem badF_no {t : Nat → Nd} {i : Nat} (h1 : ¬ (t i).feat < 0) (h2 : ¬ 64 < (t i).feat) (h3 : ¬ (t i).left < 0) (h4 : ¬ 255 < (t i).left) (h5 : ¬ (t i).right < 0) (h6 : ¬ 255 < (t i).right) : badF t i = false := by
  unfold badF
  rw [decide_eq_true (show 0 ≤ (t i).feat ∧ (t i).feat ≤ 64 by omega), decide_eq_true (show 0 ≤ (t i).left ∧ (t i).left ≤ 255 by omega), decide_eq_true (show 0 ≤ (t i).right ∧ (t i).right ≤ 255 by omega)]
  rfl


set_option maxRecDepth 100000 in
set_option maxHeartbeats 8000000 in
theorem lfits_at (F : Int) (v : Value) (k : Nat) (N : Nat → Nat) (T : Nat → Nat → Nd) (L : Nat) (w : World) (hv : MRow w v k N T L) :
    Calls Tryd.prog 8 #[.agg #[.int .i64 F, v]] w fun e w' => e = .returned (.bool (mfit F k N T)) ∧ Below w.heap.size w w' := by
  obtain ⟨ao, c, rfl, hnc, hc63⟩ := hv.open
  obtain ⟨Wb0, hW0, hS0, hL0, VM0⟩ := V2.lay w 24 (.int .i64 F) (.slice ao k c)
  have hv0 := hv.below hL0
  have BB0 : Hid (Below w.heap.size w Wb0) := hL0
  clear hv hL0
  have BL : Below Wb0.heap.size Wb0 Wb0 := Below.refl _ _
  obtain ⟨VM_0, VM_1, VM_2, VM_3⟩ := id VM0
  rw [hW0] at VM_0 VM_1 VM_2 VM_3
  go_enter Tryd.func8, Tryd.ntmps8
  by_cases f1 : F < 0
  · go_wp2
    rw [← hW0]
    go_ret
    exact ⟨ret_bool (a := false) (show mfit F k N T = false by unfold mfit; rw [decide_eq_false (show ¬ (0 ≤ F ∧ F ≤ 64) by omega)]; simp).symm, BB0.out⟩
  by_cases f2 : 64 < F
  · go_wp2
    rw [← hW0]
    go_ret
    exact ⟨ret_bool (a := false) (show mfit F k N T = false by unfold mfit; rw [decide_eq_false (show ¬ (0 ≤ F ∧ F ≤ 64) by omega)]; simp).symm, BB0.out⟩
  by_cases f3 : (64 : Int) < (k : Int)
  · go_wp2
    rw [← hW0]
    go_ret
    exact ⟨ret_bool (a := false) (show mfit F k N T = false by unfold mfit; rw [decide_eq_false (show ¬ k ≤ 64 by omega)]; simp).symm, BB0.out⟩
  have HFk : Hid ((0 ≤ F ∧ F ≤ 64) ∧ k ≤ 64) := by show _ ∧ _; omega
  go_wp2
  rw [← hW0]
  clear VM_0 VM_1 VM_2 VM_3 hW0 hS0
  go_loopw [3] (fun vi wr => ∃ i : Nat, i ≤ k ∧ vi = .int .i64 (i : Int) ∧ Hid (∀ j, j < i → tfit (T j) (N j) = true) ∧ Below Wb0.heap.size Wb0 wr) (fun vi _ => k - (intOf vi).toNat)
  case atStart => exact ⟨0, by omega, rfl, fun j hj => by omega, BL⟩
  case round =>
    clear BL f1 f2 f3
    obtain ⟨i, hi, rfl, HB, BL⟩ := hrel
    by_cases hlt : i < k
    · have g1 : (i : Int) < (k : Int) := by omega
      have g0 : (0 : Int) ≤ (i : Int) := by omega
      obtain ⟨bt, ot, ct, at_, dt, hvv, hcc, XC0, TR0⟩ := hv0.at hlt
      cases hvv
      have XC := (BL.cell (World.block_lt_of_cell? _ _ XC0)).trans XC0
      obtain ⟨ni, hNi⟩ : ∃ ni, N i = ni := ⟨_, rfl⟩
      have HNI : Hid (N i = ni) := hNi
      rw [hNi] at XC XC0 TR0
      clear hNi
      obtain ⟨VM_0, VM_1, VM_2, VM_3⟩ := VM0.below BL
      by_cases a1 : (ni : Int) < 1
      · go_wp2
        go_ret
        exact ⟨ret_bool (a := false) (mfit_no hlt HB.out (tfit_len (by rw [HNI.out]; omega))).symm, BB0.out.trans (BL.mono BB0.out.size)⟩
      by_cases a2 : (255 : Int) < (ni : Int)
      · go_wp2
        go_ret
        exact ⟨ret_bool (a := false) (mfit_no hlt HB.out (tfit_len (by rw [HNI.out]; omega))).symm, BB0.out.trans (BL.mono BB0.out.size)⟩
      go_wp2
      clear VM_0 VM_1 VM_2 VM_3 XC
      go_loopw [4] (fun vj wr => ∃ j : Nat, j ≤ ni ∧ vj = .int .i64 (j : Int) ∧ Hid (∀ q, q < j → badF (T i) q = false) ∧ Below Wb0.heap.size Wb0 wr) (fun vj _ => ni - (intOf vj).toNat)
      case atStart => exact ⟨0, by omega, rfl, fun j hj => by omega, BL⟩
      case round =>
        clear BL
        obtain ⟨j, hj, rfl, HBJ, BL⟩ := hrel
        obtain ⟨VM_0, VM_1, VM_2, VM_3⟩ := VM0.below BL
        have XC := (BL.cell (World.block_lt_of_cell? _ _ XC0)).trans XC0
        by_cases hlj : j < ni
        · have g2 : (j : Int) < (ni : Int) := by omega
          have g3 : (0 : Int) ≤ (j : Int) := by omega
          have TR1 := TR0.below BL
          obtain ⟨b, off, cc, p1, a1, n1, c1, b1, m1, d1, p2, a2, n2, c2, b2, m2, d2, p3, a3, n3, c3, b3, m3, d3, hvv, hcc, hc6, NN, r1, r2, r3, i1, i2, i3⟩ := TR1.at hlj
          cases hvv
          clear r1 r2 r3 TR1
          obtain ⟨N_0, N_1, N_2, N_3, N_4, N_5, N_6, N_7, N_8, N_9, N_10, N_11, N_12, N_13⟩ := id NN
          obtain ⟨W1, hW1, hS1, hL1, VN, FN⟩ := V14.lay wr 41 (.bool ((T i) j).leaf) (.int .i64 ((T i) j).feat) (.bool p1) (.slice a1 n1 c1) (.slice b1 m1 d1) (.int .i64 ((T i) j).left) (.int .i64 ((T i) j).right) (.bool ((T i) j).miss) (.bool p2) (.slice a2 n2 c2) (.slice b2 m2 d2) (.bool p3) (.slice a3 n3 c3) (.slice b3 m3 d3)
          replace BL := BL.trans (hL1.mono BL.size)
          clear hL1
          obtain ⟨V_0, V_1, V_2, V_3, V_4, V_5, V_6, V_7, V_8, V_9, V_10, V_11, V_12, V_13⟩ := id VN
          rw [hW1] at V_0 V_1 V_2 V_3 V_4 V_5 V_6 V_7 V_8 V_9 V_10 V_11 V_12 V_13
          rw [hW1] at BL
          obtain ⟨d, hd⟩ : ∃ d, T i j = d := ⟨_, rfl⟩
          have HD : Hid (T i j = d) := hd
          rw [hd] at BL N_0 N_1 N_5 N_6 N_7 V_0 V_1 V_5 V_6 V_7
          clear hd hW1 hS1 VN NN FN i1 i2 i3
          by_cases b0 : d.feat < 0
          · go_wp2
            go_ret
            exact ⟨ret_bool (a := false) (mfit_no hlt HB.out (by rw [HNI.out]; exact tfit_no hlj HBJ.out (badF_yes (by rw [HD.out]; omega)))).symm, BB0.out.trans (BL.mono BB0.out.size)⟩
          by_cases b1 : 64 < d.feat
          · go_wp2
            go_ret
            exact ⟨ret_bool (a := false) (mfit_no hlt HB.out (by rw [HNI.out]; exact tfit_no hlj HBJ.out (badF_yes (by rw [HD.out]; omega)))).symm, BB0.out.trans (BL.mono BB0.out.size)⟩
          by_cases b2 : d.left < 0
          · go_wp2
            go_ret
            exact ⟨ret_bool (a := false) (mfit_no hlt HB.out (by rw [HNI.out]; exact tfit_no hlj HBJ.out (badF_yes (by rw [HD.out]; omega)))).symm, BB0.out.trans (BL.mono BB0.out.size)⟩
          by_cases b3 : 255 < d.left
          · go_wp2
            go_ret
            exact ⟨ret_bool (a := false) (mfit_no hlt HB.out (by rw [HNI.out]; exact tfit_no hlj HBJ.out (badF_yes (by rw [HD.out]; omega)))).symm, BB0.out.trans (BL.mono BB0.out.size)⟩
          by_cases b4 : d.right < 0
          · go_wp2
            go_ret
            exact ⟨ret_bool (a := false) (mfit_no hlt HB.out (by rw [HNI.out]; exact tfit_no hlj HBJ.out (badF_yes (by rw [HD.out]; omega)))).symm, BB0.out.trans (BL.mono BB0.out.size)⟩
          by_cases b5 : 255 < d.right
          · go_wp2
            go_ret
            exact ⟨ret_bool (a := false) (mfit_no hlt HB.out (by rw [HNI.out]; exact tfit_no hlj HBJ.out (badF_yes (by rw [HD.out]; omega)))).symm, BB0.out.trans (BL.mono BB0.out.size)⟩
          have HBJ2 : Hid (∀ q, q < j + 1 → badF (T i) q = false) := fun q hq => by
                      by_cases e : q = j
                      · subst e; exact badF_no (by rw [HD.out]; exact b0) (by rw [HD.out]; exact b1) (by rw [HD.out]; exact b2) (by rw [HD.out]; exact b3) (by rw [HD.out]; exact b4) (by rw [HD.out]; exact b5)
                      · exact HBJ.out q (by omega)
          clear HBJ
          go_wp2
          go_roundw
          case rel => exact ⟨j + 1, by omega, by go_num, HBJ2, BL⟩
          case measure => simp [intOf]; omega
        · obtain rfl : j = ni := by omega
          have g2 : ¬ (j : Int) < (j : Int) := by omega
          have HB2 : Hid (∀ q, q < i + 1 → tfit (T q) (N q) = true) := fun q hq => by
                      by_cases e : q = i
                      · subst e; rw [HNI.out]; exact tfit_yes (by omega) HBJ.out
                      · exact HB.out q (by omega)
          clear HB HBJ
          go_wp2
          go_roundw
          case rel => exact ⟨i + 1, by omega, by go_num, HB2, BL⟩
          case measure => simp [intOf]; omega
    · obtain rfl : i = k := by omega
      have g1 : ¬ (i : Int) < (i : Int) := by omega
      obtain ⟨VM_0, VM_1, VM_2, VM_3⟩ := VM0.below BL
      go_wp2
      go_ret
      exact ⟨ret_bool (a := true) (mfit_yes HFk.out.1 HFk.out.2 HB.out).symm, BB0.out.trans (BL.mono BB0.out.size)⟩

end Go.Proofs.YthfjconpjeoakaaDoor
