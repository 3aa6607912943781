/-
  Texts of mine, joined: what lies beneath the statement.
-/
import Derived.Test.YtianfjidbeineaaGreatDoorJ9467fa8be5
import Derived.Test.YtianfjidbeineaaGreatDoorJbaa75dc1e7
import Derived.Test.YtianfjidbeineaaGreatDoorJ8baa95956e
import Derived.Test.YtianfjidbeineaaGreatDoorJec0c681462
import Derived.Test.YtianfjidbeineaaGreatDoorJd62fd0e3cd
namespace Go.Proofs.YtianfjidbeineaaGreatDoor
open Go.ChangeShapes Go.WideShapes Go.ChangeAt Go.RowKit
set_option linter.unusedVariables false

/-- A list of rational numbers as it comes in; q i is the i-th cut to K limbs above and below. -/
def RawQ (w : World) (v : Value) (n : Nat) (q : Nat → Rat) (K : Nat) : Prop :=
  ∃ el, RowAt 3 w v n el ∧ ∀ i, i < n → ∃ p ao m c bo k d f g, el i 0 = .bool p ∧ el i 1 = .slice ao m c ∧ el i 2 = .slice bo k d ∧ Raw w (.slice ao m c) m f ∧ Raw w (.slice bo k d) k g ∧ q i = mkRat (zof p (num f (min m K))) (num g (min k K))
theorem RawQ.below {w w' : World} {v : Value} {n : Nat} {q : Nat → Rat} {K : Nat} (h : RawQ w v n q K) (hb : Below w.heap.size w w') : RawQ w' v n q K := by
  obtain ⟨el, h1, h2⟩ := h
  exact ⟨el, h1.below hb, fun i hi => let ⟨p, ao, m, c, bo, k, d, f, g, a, b, x, r, r2, e⟩ := h2 i hi; ⟨p, ao, m, c, bo, k, d, f, g, a, b, x, r.below hb, r2.below hb, e⟩⟩
/-- The i-th of them. -/
theorem RawQ.at {w : World} {v : Value} {n : Nat} {q : Nat → Rat} {K : Nat} (h : RawQ w v n q K) (i : Nat) (hi : i < n) :
    ∃ b off c p ao m d bo k e f g, v = .slice (some ⟨b, off, none⟩) n c ∧ n ≤ c ∧ w.cell? ⟨b, off + i * 3, none⟩ = some (.bool p) ∧ w.cell? ⟨b, off + i * 3 + 1, none⟩ = some (.slice ao m d) ∧ w.cell? ⟨b, off + i * 3 + 2, none⟩ = some (.slice bo k e) ∧ Raw w (.slice ao m d) m f ∧ Raw w (.slice bo k e) k g ∧ q i = mkRat (zof p (num f (min m K))) (num g (min k K)) := by
  obtain ⟨el, ⟨a, c, h1, h2, h3, h4⟩, h5⟩ := h
  obtain ⟨b, off, rfl, hc⟩ := h4 (by omega)
  obtain ⟨p, ao, m, d, bo, k, e, f, g, e0, e1, e2, r, r2, eq⟩ := h5 i hi
  have c0 := hc i hi 0 (by omega)
  have c1 := hc i hi 1 (by omega)
  have c2 := hc i hi 2 (by omega)
  rw [e0] at c0
  rw [e1] at c1
  rw [e2] at c2
  exact ⟨b, off, c, p, ao, m, d, bo, k, e, f, g, h1, h2, c0, c1, c2, r, r2, eq⟩
theorem cells3 {l : List Value} (h : l.length = 3) : ∃ a b c, l = [a, b, c] := by
  match l, h with
  | [a, b, c], _ => exact ⟨a, b, c, rfl⟩

def I64 (z : Int) : Prop := -9223372036854775808 ≤ z ∧ z ≤ 9223372036854775807
theorem i64_wf {z : Int} (h : (Lit.int .i64 z).wf = true) : I64 z := by
  have := h
  simp [Lit.wf] at this
  unfold I64
  have e1 : IntKind.i64.min = -9223372036854775808 := by decide
  have e2 : IntKind.i64.max = 9223372036854775807 := by decide
  omega
/-- A rational number's three cells, as they come in; as a number of at most L limbs. -/
def RawN (w : World) (x y z : Value) (q : Rat) (K : Nat) : Prop := ∃ p ao m c bo k d f g, x = .bool p ∧ y = .slice ao m c ∧ z = .slice bo k d ∧ Raw w (.slice ao m c) m f ∧ Raw w (.slice bo k d) k g ∧ q = mkRat (zof p (num f (min m K))) (num g (min k K))
def AtN (w : World) (x y z : Value) (q : Rat) (L : Nat) : Prop := ∃ p ao m c bo k d, x = .bool p ∧ y = .slice ao m c ∧ z = .slice bo k d ∧ RatAt w (.agg #[.bool p, .slice ao m c, .slice bo k d]) q L
theorem RawN.below {w w' : World} {x y z : Value} {q : Rat} {K : Nat} (h : RawN w x y z q K) (hb : Below w.heap.size w w') : RawN w' x y z q K := by
  obtain ⟨p, ao, m, c, bo, k, d, f, g, a, b, e, r, r2, q⟩ := h
  exact ⟨p, ao, m, c, bo, k, d, f, g, a, b, e, r.below hb, r2.below hb, q⟩
theorem AtN.below {w w' : World} {x y z : Value} {q : Rat} {L : Nat} (h : AtN w x y z q L) (hb : Below w.heap.size w w') : AtN w' x y z q L := by
  obtain ⟨p, ao, m, c, bo, k, d, a, b, e, r⟩ := h
  exact ⟨p, ao, m, c, bo, k, d, a, b, e, r.below hb⟩
def NodeRaw (w : World) (el : Nat → Value) (d : Nd) (K : Nat) : Prop := el 0 = .bool d.leaf ∧ el 1 = .int .i64 d.feat ∧ RawN w (el 2) (el 3) (el 4) d.cut K ∧ el 5 = .int .i64 d.left ∧ el 6 = .int .i64 d.right ∧ el 7 = .bool d.miss ∧ RawN w (el 8) (el 9) (el 10) d.val K ∧ RawN w (el 11) (el 12) (el 13) d.cov K ∧ I64 d.feat ∧ I64 d.left ∧ I64 d.right
def NodeAt (w : World) (el : Nat → Value) (d : Nd) (L : Nat) : Prop := el 0 = .bool d.leaf ∧ el 1 = .int .i64 d.feat ∧ AtN w (el 2) (el 3) (el 4) d.cut L ∧ el 5 = .int .i64 d.left ∧ el 6 = .int .i64 d.right ∧ el 7 = .bool d.miss ∧ AtN w (el 8) (el 9) (el 10) d.val L ∧ AtN w (el 11) (el 12) (el 13) d.cov L ∧ I64 d.feat ∧ I64 d.left ∧ I64 d.right
theorem NodeRaw.below {w w' : World} {el : Nat → Value} {d : Nd} {K : Nat} (h : NodeRaw w el d K) (hb : Below w.heap.size w w') : NodeRaw w' el d K := by
  obtain ⟨a, b, c, e, f, g, i, j, k⟩ := h
  exact ⟨a, b, c.below hb, e, f, g, i.below hb, j.below hb, k⟩
theorem NodeAt.below {w w' : World} {el : Nat → Value} {d : Nd} {L : Nat} (h : NodeAt w el d L) (hb : Below w.heap.size w w') : NodeAt w' el d L := by
  obtain ⟨a, b, c, e, f, g, i, j, k⟩ := h
  exact ⟨a, b, c.below hb, e, f, g, i.below hb, j.below hb, k⟩
def TRaw (w : World) (v : Value) (n : Nat) (t : Nat → Nd) (K : Nat) : Prop := ∃ el, RowAt 14 w v n el ∧ ∀ i, i < n → NodeRaw w (el i) (t i) K
def TRow (w : World) (v : Value) (n : Nat) (t : Nat → Nd) (L : Nat) : Prop := ∃ el, RowAt 14 w v n el ∧ ∀ i, i < n → NodeAt w (el i) (t i) L
theorem TRaw.below {w w' : World} {v : Value} {n : Nat} {t : Nat → Nd} {K : Nat} (h : TRaw w v n t K) (hb : Below w.heap.size w w') : TRaw w' v n t K := by
  obtain ⟨el, h1, h2⟩ := h
  exact ⟨el, h1.below hb, fun i hi => (h2 i hi).below hb⟩
theorem TRow.below {w w' : World} {v : Value} {n : Nat} {t : Nat → Nd} {L : Nat} (h : TRow w v n t L) (hb : Below w.heap.size w w') : TRow w' v n t L := by
  obtain ⟨el, h1, h2⟩ := h
  exact ⟨el, h1.below hb, fun i hi => (h2 i hi).below hb⟩
theorem TRow.open {w : World} {v : Value} {n : Nat} {t : Nat → Nd} {L : Nat} (h : TRow w v n t L) : ∃ a c, v = .slice a n c ∧ n ≤ c ∧ c ≤ 9223372036854775807 := by
  obtain ⟨el, ⟨a, c, h1, h2, h3, _⟩, _⟩ := h
  exact ⟨a, c, h1, h2, h3⟩
theorem TRaw.open {w : World} {v : Value} {n : Nat} {t : Nat → Nd} {L : Nat} (h : TRaw w v n t L) : ∃ a c, v = .slice a n c ∧ n ≤ c ∧ c ≤ 9223372036854775807 := by
  obtain ⟨el, ⟨a, c, h1, h2, h3, _⟩, _⟩ := h
  exact ⟨a, c, h1, h2, h3⟩
/-- Fourteen cells in a row. -/
structure N14 (w : World) (b o : Nat) (x0 x1 x2 x3 x4 x5 x6 x7 x8 x9 x10 x11 x12 x13 : Value) : Prop where
  c0 : w.cell? ⟨b, o, none⟩ = some x0
  c1 : w.cell? ⟨b, o + 1, none⟩ = some x1
  c2 : w.cell? ⟨b, o + 2, none⟩ = some x2
  c3 : w.cell? ⟨b, o + 3, none⟩ = some x3
  c4 : w.cell? ⟨b, o + 4, none⟩ = some x4
  c5 : w.cell? ⟨b, o + 5, none⟩ = some x5
  c6 : w.cell? ⟨b, o + 6, none⟩ = some x6
  c7 : w.cell? ⟨b, o + 7, none⟩ = some x7
  c8 : w.cell? ⟨b, o + 8, none⟩ = some x8
  c9 : w.cell? ⟨b, o + 9, none⟩ = some x9
  c10 : w.cell? ⟨b, o + 10, none⟩ = some x10
  c11 : w.cell? ⟨b, o + 11, none⟩ = some x11
  c12 : w.cell? ⟨b, o + 12, none⟩ = some x12
  c13 : w.cell? ⟨b, o + 13, none⟩ = some x13
theorem RowAt.n14 {w : World} {v : Value} {n : Nat} {el : Nat → Nat → Value} (h : RowAt 14 w v n el) {i : Nat} (hi : i < n) : ∃ b off c, v = .slice (some ⟨b, off, none⟩) n c ∧ n ≤ c ∧ c ≤ 9223372036854775807 ∧ N14 w b (off + i * 14) (el i 0) (el i 1) (el i 2) (el i 3) (el i 4) (el i 5) (el i 6) (el i 7) (el i 8) (el i 9) (el i 10) (el i 11) (el i 12) (el i 13) := by
  obtain ⟨a, c, h1, h2, h3, h4⟩ := h
  obtain ⟨b, off, rfl, hc⟩ := h4 (by omega)
  have hc := hc i hi
  exact ⟨b, off, c, h1, h2, h3, hc 0 (by omega), hc 1 (by omega), hc 2 (by omega), hc 3 (by omega), hc 4 (by omega), hc 5 (by omega), hc 6 (by omega), hc 7 (by omega), hc 8 (by omega), hc 9 (by omega), hc 10 (by omega), hc 11 (by omega), hc 12 (by omega), hc 13 (by omega)⟩
theorem TRow.at {w : World} {v : Value} {n : Nat} {t : Nat → Nd} {L : Nat} (h : TRow w v n t L) {i : Nat} (hi : i < n) :
    ∃ b off c p1 a1 n1 c1 b1 m1 d1 p2 a2 n2 c2 b2 m2 d2 p3 a3 n3 c3 b3 m3 d3, v = .slice (some ⟨b, off, none⟩) n c ∧ n ≤ c ∧ c ≤ 9223372036854775807 ∧
      N14 w b (off + i * 14) (.bool (t i).leaf) (.int .i64 (t i).feat) (.bool p1) (.slice a1 n1 c1) (.slice b1 m1 d1) (.int .i64 (t i).left) (.int .i64 (t i).right) (.bool (t i).miss) (.bool p2) (.slice a2 n2 c2) (.slice b2 m2 d2) (.bool p3) (.slice a3 n3 c3) (.slice b3 m3 d3) ∧
      RatAt w (.agg #[.bool p1, .slice a1 n1 c1, .slice b1 m1 d1]) (t i).cut L ∧ RatAt w (.agg #[.bool p2, .slice a2 n2 c2, .slice b2 m2 d2]) (t i).val L ∧ RatAt w (.agg #[.bool p3, .slice a3 n3 c3, .slice b3 m3 d3]) (t i).cov L ∧ I64 (t i).feat ∧ I64 (t i).left ∧ I64 (t i).right := by
  obtain ⟨el, h1, h2⟩ := h
  obtain ⟨b, off, c, e, hc, hm, hN⟩ := h1.n14 hi
  obtain ⟨e0, e1, ⟨p1, a1, n1, c1, b1, m1, d1, e2, e3, e4, r1⟩, e5, e6, e7, ⟨p2, a2, n2, c2, b2, m2, d2, e8, e9, e10, r2⟩, ⟨p3, a3, n3, c3, b3, m3, d3, e11, e12, e13, r3⟩, i1, i2, i3⟩ := h2 i hi
  rw [e0, e1, e2, e3, e4, e5, e6, e7, e8, e9, e10, e11, e12, e13] at hN
  exact ⟨b, off, c, p1, a1, n1, c1, b1, m1, d1, p2, a2, n2, c2, b2, m2, d2, p3, a3, n3, c3, b3, m3, d3, e, hc, hm, hN, r1, r2, r3, i1, i2, i3⟩
theorem TRaw.at {w : World} {v : Value} {n : Nat} {t : Nat → Nd} {K : Nat} (h : TRaw w v n t K) {i : Nat} (hi : i < n) :
    ∃ b off c p1 a1 n1 c1 b1 m1 d1 f1 g1 p2 a2 n2 c2 b2 m2 d2 f2 g2 p3 a3 n3 c3 b3 m3 d3 f3 g3, v = .slice (some ⟨b, off, none⟩) n c ∧ n ≤ c ∧ c ≤ 9223372036854775807 ∧
      N14 w b (off + i * 14) (.bool (t i).leaf) (.int .i64 (t i).feat) (.bool p1) (.slice a1 n1 c1) (.slice b1 m1 d1) (.int .i64 (t i).left) (.int .i64 (t i).right) (.bool (t i).miss) (.bool p2) (.slice a2 n2 c2) (.slice b2 m2 d2) (.bool p3) (.slice a3 n3 c3) (.slice b3 m3 d3) ∧
      (Raw w (.slice a1 n1 c1) n1 f1 ∧ Raw w (.slice b1 m1 d1) m1 g1 ∧ (t i).cut = mkRat (zof p1 (num f1 (min n1 K))) (num g1 (min m1 K))) ∧
      (Raw w (.slice a2 n2 c2) n2 f2 ∧ Raw w (.slice b2 m2 d2) m2 g2 ∧ (t i).val = mkRat (zof p2 (num f2 (min n2 K))) (num g2 (min m2 K))) ∧
      (Raw w (.slice a3 n3 c3) n3 f3 ∧ Raw w (.slice b3 m3 d3) m3 g3 ∧ (t i).cov = mkRat (zof p3 (num f3 (min n3 K))) (num g3 (min m3 K))) ∧ I64 (t i).feat ∧ I64 (t i).left ∧ I64 (t i).right := by
  obtain ⟨el, h1, h2⟩ := h
  obtain ⟨b, off, c, e, hc, hm, hN⟩ := h1.n14 hi
  obtain ⟨e0, e1, ⟨p1, a1, n1, c1, b1, m1, d1, f1, g1, e2, e3, e4, r1⟩, e5, e6, e7, ⟨p2, a2, n2, c2, b2, m2, d2, f2, g2, e8, e9, e10, r2⟩, ⟨p3, a3, n3, c3, b3, m3, d3, f3, g3, e11, e12, e13, r3⟩, i1, i2, i3⟩ := h2 i hi
  rw [e0, e1, e2, e3, e4, e5, e6, e7, e8, e9, e10, e11, e12, e13] at hN
  exact ⟨b, off, c, p1, a1, n1, c1, b1, m1, d1, f1, g1, p2, a2, n2, c2, b2, m2, d2, f2, g2, p3, a3, n3, c3, b3, m3, d3, f3, g3, e, hc, hm, hN, r1, r2, r3, i1, i2, i3⟩
/-- A model's trees. -/
def MRaw (w : World) (v : Value) (k : Nat) (N : Nat → Nat) (t : Nat → Nat → Nd) (K : Nat) : Prop := ∃ el, RowAt 1 w v k el ∧ ∀ i, i < k → TRaw w (el i 0) (N i) (t i) K
def MRow (w : World) (v : Value) (k : Nat) (N : Nat → Nat) (t : Nat → Nat → Nd) (L : Nat) : Prop := ∃ el, RowAt 1 w v k el ∧ ∀ i, i < k → TRow w (el i 0) (N i) (t i) L
theorem MRaw.below {w w' : World} {v : Value} {k : Nat} {N : Nat → Nat} {t : Nat → Nat → Nd} {K : Nat} (h : MRaw w v k N t K) (hb : Below w.heap.size w w') : MRaw w' v k N t K := by
  obtain ⟨el, h1, h2⟩ := h
  exact ⟨el, h1.below hb, fun i hi => (h2 i hi).below hb⟩
theorem MRow.below {w w' : World} {v : Value} {k : Nat} {N : Nat → Nat} {t : Nat → Nat → Nd} {L : Nat} (h : MRow w v k N t L) (hb : Below w.heap.size w w') : MRow w' v k N t L := by
  obtain ⟨el, h1, h2⟩ := h
  exact ⟨el, h1.below hb, fun i hi => (h2 i hi).below hb⟩
theorem MRow.open {w : World} {v : Value} {k : Nat} {N : Nat → Nat} {t : Nat → Nat → Nd} {L : Nat} (h : MRow w v k N t L) : ∃ a c, v = .slice a k c ∧ k ≤ c ∧ c ≤ 9223372036854775807 := by
  obtain ⟨el, ⟨a, c, h1, h2, h3, _⟩, _⟩ := h
  exact ⟨a, c, h1, h2, h3⟩
theorem MRaw.open {w : World} {v : Value} {k : Nat} {N : Nat → Nat} {t : Nat → Nat → Nd} {L : Nat} (h : MRaw w v k N t L) : ∃ a c, v = .slice a k c ∧ k ≤ c ∧ c ≤ 9223372036854775807 := by
  obtain ⟨el, ⟨a, c, h1, h2, h3, _⟩, _⟩ := h
  exact ⟨a, c, h1, h2, h3⟩
theorem MRow.at {w : World} {v : Value} {k : Nat} {N : Nat → Nat} {t : Nat → Nat → Nd} {L : Nat} (h : MRow w v k N t L) {i : Nat} (hi : i < k) : ∃ b off c a d, v = .slice (some ⟨b, off, none⟩) k c ∧ k ≤ c ∧ w.cell? ⟨b, off + i, none⟩ = some (.slice a (N i) d) ∧ TRow w (.slice a (N i) d) (N i) (t i) L := by
  obtain ⟨el, ⟨a, c, h1, h2, h3, h4⟩, h5⟩ := h
  obtain ⟨b, off, rfl, hc⟩ := h4 (by omega)
  obtain ⟨a, d, e, _⟩ := (h5 i hi).open
  have := hc i hi 0 (by omega)
  rw [Nat.mul_one, Nat.add_zero, e] at this
  exact ⟨b, off, c, a, d, h1, h2, this, e ▸ h5 i hi⟩
theorem MRaw.at {w : World} {v : Value} {k : Nat} {N : Nat → Nat} {t : Nat → Nat → Nd} {L : Nat} (h : MRaw w v k N t L) {i : Nat} (hi : i < k) : ∃ b off c a d, v = .slice (some ⟨b, off, none⟩) k c ∧ k ≤ c ∧ w.cell? ⟨b, off + i, none⟩ = some (.slice a (N i) d) ∧ TRaw w (.slice a (N i) d) (N i) (t i) L := by
  obtain ⟨el, ⟨a, c, h1, h2, h3, h4⟩, h5⟩ := h
  obtain ⟨b, off, rfl, hc⟩ := h4 (by omega)
  obtain ⟨a, d, e, _⟩ := (h5 i hi).open
  have := hc i hi 0 (by omega)
  rw [Nat.mul_one, Nat.add_zero, e] at this
  exact ⟨b, off, c, a, d, h1, h2, this, e ▸ h5 i hi⟩
/-- A variable for a node, and what it holds. -/
structure V14 (w : World) (R : Nat) (x0 x1 x2 x3 x4 x5 x6 x7 x8 x9 x10 x11 x12 x13 : Value) : Prop where
  c0 : w.cell? ⟨R, 0, none⟩ = some x0
  c1 : w.cell? ⟨R, 1, none⟩ = some x1
  c2 : w.cell? ⟨R, 2, none⟩ = some x2
  c3 : w.cell? ⟨R, 3, none⟩ = some x3
  c4 : w.cell? ⟨R, 4, none⟩ = some x4
  c5 : w.cell? ⟨R, 5, none⟩ = some x5
  c6 : w.cell? ⟨R, 6, none⟩ = some x6
  c7 : w.cell? ⟨R, 7, none⟩ = some x7
  c8 : w.cell? ⟨R, 8, none⟩ = some x8
  c9 : w.cell? ⟨R, 9, none⟩ = some x9
  c10 : w.cell? ⟨R, 10, none⟩ = some x10
  c11 : w.cell? ⟨R, 11, none⟩ = some x11
  c12 : w.cell? ⟨R, 12, none⟩ = some x12
  c13 : w.cell? ⟨R, 13, none⟩ = some x13
theorem V14.lt {w : World} {R : Nat} {x0 x1 x2 x3 x4 x5 x6 x7 x8 x9 x10 x11 x12 x13 : Value} (h : V14 w R x0 x1 x2 x3 x4 x5 x6 x7 x8 x9 x10 x11 x12 x13) : R < w.heap.size := World.block_lt_of_cell? _ _ h.c0
theorem V14.below {w w' : World} {R : Nat} {x0 x1 x2 x3 x4 x5 x6 x7 x8 x9 x10 x11 x12 x13 : Value} (h : V14 w R x0 x1 x2 x3 x4 x5 x6 x7 x8 x9 x10 x11 x12 x13) (hb : Below w.heap.size w w') : V14 w' R x0 x1 x2 x3 x4 x5 x6 x7 x8 x9 x10 x11 x12 x13 := by
  have hl := h.lt
  obtain ⟨h0, h1, h2, h3, h4, h5, h6, h7, h8, h9, h10, h11, h12, h13⟩ := h
  exact ⟨(hb.cell hl).trans h0, (hb.cell hl).trans h1, (hb.cell hl).trans h2, (hb.cell hl).trans h3, (hb.cell hl).trans h4, (hb.cell hl).trans h5, (hb.cell hl).trans h6, (hb.cell hl).trans h7, (hb.cell hl).trans h8, (hb.cell hl).trans h9, (hb.cell hl).trans h10, (hb.cell hl).trans h11, (hb.cell hl).trans h12, (hb.cell hl).trans h13⟩
theorem V14.lay (w : World) (t : TypeId) (x0 x1 x2 x3 x4 x5 x6 x7 x8 x9 x10 x11 x12 x13 : Value) : ∃ W, W = w.alloc (.cells #[x0, x1, x2, x3, x4, x5, x6, x7, x8, x9, x10, x11, x12, x13] t) ∧ W.heap.size = w.heap.size + 1 ∧ Below w.heap.size w W ∧ V14 W w.heap.size x0 x1 x2 x3 x4 x5 x6 x7 x8 x9 x10 x11 x12 x13 ∧ (∀ j, W.frozen? ⟨w.heap.size, j, none⟩ = false) := by
  have hb := heap_alloc_new w (.cells #[x0, x1, x2, x3, x4, x5, x6, x7, x8, x9, x10, x11, x12, x13] t)
  refine ⟨_, rfl, by simp, (Below.refl _ _).alloc (Nat.le_refl _) _, ?_, ?_⟩
  · constructor <;> (rw [cell_of_row _ _ _ _ _ _ hb]; rfl)
  · intro j
    simp only [World.frozen?]
    rw [hb]
    simp
/-- A fault. -/
def fltV (x : Option (Int × Nat × Nat)) : Value := match x with
  | none => .agg #[.int .i64 0, .int .i64 0, .int .i64 0, .int .i64 0]
  | some (e, i, nd) => .agg #[.int .i64 e, .int .i64 0, .int .i64 (i : Int), .int .i64 (nd : Int)]

theorem cells14 {l : List Value} (h : l.length = 14) : ∃ x0 x1 x2 x3 x4 x5 x6 x7 x8 x9 x10 x11 x12 x13, l = [x0, x1, x2, x3, x4, x5, x6, x7, x8, x9, x10, x11, x12, x13] := by
  match l, h with
  | [x0, x1, x2, x3, x4, x5, x6, x7, x8, x9, x10, x11, x12, x13], _ => exact ⟨x0, x1, x2, x3, x4, x5, x6, x7, x8, x9, x10, x11, x12, x13, rfl⟩
theorem cells_int : Tryz.prog.cellsOf 3 = 1 := by kernel_rfl
set_option maxRecDepth 100000 in
theorem trod_rat3 {H : Type} {enc : TypeId × Value → H} {W : World} {base n : Nat} {c0 c1 c2 : Value} {y : DataW H × List MemPlace} (K : Nat) (h : DataW.trod enc Tryz.prog W base (fun _ => true) true n 27 [c0, c1, c2] = some y) : ∃ q, RawN W c0 c1 c2 q K := by
  obtain ⟨y0, y1, m, hx, _, hy0, hy1⟩ := trod_struct2 Tryz.underlying27 h
  obtain ⟨z0, z1, m2, hx2, _, hz0, hz1⟩ := trod_struct2 Tryz.underlying25 hy0
  obtain ⟨b, e0, _⟩ := DataW.trod_bool Tryz.underlying4 hz0
  obtain ⟨ao, n1, c3, f, e1, hraw⟩ := open_nat hz1
  obtain ⟨bo, m3, d3, g, e2, hraw2⟩ := open_nat hy1
  simp [cells_bool, cells_nat, cells_wint] at e0 e1 e2
  exact ⟨_, b, ao, n1, c3, bo, m3, d3, f, g, e0, e1, e2, hraw, hraw2, rfl⟩
end Go.Proofs.YtianfjidbeineaaGreatDoor

namespace Go.Proofs.YtianfjidbeineaaGreatDoor
open Go.RowKit
set_option linter.unusedVariables false

theorem cell_set_at {w : World} {R i : Nat} {x u : Value} (h : w.cell? ⟨R, i, none⟩ = some x) : (w.setCell ⟨R, i, none⟩ u).cell? ⟨R, i, none⟩ = some u := World.cell?_setCell_same _ _ _ h
theorem cell_set_by {w : World} {R i j : Nat} {x u : Value} (h : w.cell? ⟨R, i, none⟩ = some x) (hne : i ≠ j) : (w.setCell ⟨R, j, none⟩ u).cell? ⟨R, i, none⟩ = some x := by
  rw [World.cell?_setCell_other _ _ _ _ (fun e => hne (by injection e with _ e2; exact e2.symm))]; exact h
theorem grown_at (w : World) (a : Addr) (x : Value) : w.grownBy (w.setCell a x) (some a.block) :=
  ⟨rfl, rfl, rfl, by simp, fun k _ hk => by rw [Below.heap_setCell _ _ _ _ (fun e => hk (by rw [e]))]⟩
theorem limb_bool (b : Bool) : ¬ IsLimb (.bool b) := fun ⟨_, h⟩ => by rcases h with h | h <;> cases h
theorem limb_slice (a : Option Addr) (n c : Nat) : ¬ IsLimb (.slice a n c) := fun ⟨_, h⟩ => by rcases h with h | h <;> cases h
theorem AtN.keepL {w w' : World} {x y z : Value} {q : Rat} {L : Nat} (h : AtN w x y z q L) (hk : KeepQ IsLimb w w') : AtN w' x y z q L := by
  obtain ⟨p, ao, m, c, bo, k, d, a, b, e, r⟩ := h
  exact ⟨p, ao, m, c, bo, k, d, a, b, e, r.keepL hk⟩
theorem NodeAt.keepL {w w' : World} {el : Nat → Value} {d : Nd} {L : Nat} (h : NodeAt w el d L) (hk : KeepQ IsLimb w w') : NodeAt w' el d L := by
  obtain ⟨a, b, c, e, f, g, i, j, k⟩ := h
  exact ⟨a, b, c.keepL hk, e, f, g, i.keepL hk, j.keepL hk, k⟩
theorem NodeAt.congr {w : World} {el el' : Nat → Value} {d : Nd} {L : Nat} (h : NodeAt w el d L) (e : ∀ j, j < 14 → el j = el' j) : NodeAt w el' d L := by
  unfold NodeAt at h ⊢
  rw [← e 0 (by omega), ← e 1 (by omega), ← e 2 (by omega), ← e 3 (by omega), ← e 4 (by omega), ← e 5 (by omega), ← e 6 (by omega), ← e 7 (by omega), ← e 8 (by omega), ← e 9 (by omega), ← e 10 (by omega), ← e 11 (by omega), ← e 12 (by omega), ← e 13 (by omega)]
  exact h
theorem owns_le {B B' k : Nat} {e : TypeId} {w : World} {v : Value} {n : Nat} {us : List Value} (h : w.ownsRow B e k v n us) (hb : B' ≤ B) : w.ownsRow B' e k v n us := by
  refine ⟨h.1, ?_⟩
  rcases h.2 with hn | ⟨g, cap, cur, rfl, hB, rest⟩
  · exact .inl hn
  · exact .inr ⟨g, cap, cur, rfl, by omega, rest⟩
/-- Two rows of unlike elements lie in two blocks. -/
theorem unlike {B B' k k' n n' : Nat} {e e' : TypeId} {w : World} {v v' : Value} {us us' : List Value} (h : w.ownsRow B e k v n us) (h' : w.ownsRow B' e' k' v' n' us') (hne : e ≠ e') : v.ownBlock = none ∨ v.ownBlock ≠ v'.ownBlock := by
  rcases h.2 with ⟨rfl, _⟩ | ⟨g, c, cur, rfl, _, hg, _⟩
  · exact .inl rfl
  · refine .inr (fun e9 => ?_)
    rcases h'.2 with ⟨rfl, _⟩ | ⟨g', c', cur', rfl, _, hg', _⟩
    · cases e9
    · have : g = g' := by injection e9
      subst this
      rw [hg] at hg'
      injection hg' with hh
      injection hh with _ h2
      exact hne h2
end Go.Proofs.YtianfjidbeineaaGreatDoor

namespace Go.Proofs.YtianfjidbeineaaGreatDoor
open Go.ChangeShapes Go.WideShapes Go.ChangeAt Go.RowKit
set_option linter.unusedVariables false

/-- An entry: missing, or a number. -/
structure Cl where
  miss : Bool
  val : Rat
def CellRaw (w : World) (el : Nat → Value) (d : Cl) (K : Nat) : Prop := el 0 = .bool d.miss ∧ RawN w (el 1) (el 2) (el 3) d.val K
def CellAt (w : World) (el : Nat → Value) (d : Cl) (L : Nat) : Prop := el 0 = .bool d.miss ∧ AtN w (el 1) (el 2) (el 3) d.val L
theorem CellRaw.below {w w' : World} {el : Nat → Value} {d : Cl} {K : Nat} (h : CellRaw w el d K) (hb : Below w.heap.size w w') : CellRaw w' el d K := ⟨h.1, h.2.below hb⟩
theorem CellAt.below {w w' : World} {el : Nat → Value} {d : Cl} {L : Nat} (h : CellAt w el d L) (hb : Below w.heap.size w w') : CellAt w' el d L := ⟨h.1, h.2.below hb⟩
theorem CellAt.keepL {w w' : World} {el : Nat → Value} {d : Cl} {L : Nat} (h : CellAt w el d L) (hk : KeepQ IsLimb w w') : CellAt w' el d L := ⟨h.1, h.2.keepL hk⟩
theorem CellAt.congr {w : World} {el el' : Nat → Value} {d : Cl} {L : Nat} (h : CellAt w el d L) (e : ∀ j, j < 4 → el j = el' j) : CellAt w el' d L := by
  unfold CellAt at h ⊢
  rw [← e 0 (by omega), ← e 1 (by omega), ← e 2 (by omega), ← e 3 (by omega)]
  exact h
theorem AtN.mono {w : World} {x y z : Value} {q : Rat} {L L' : Nat} (h : AtN w x y z q L) (hL : L ≤ L') : AtN w x y z q L' := by
  obtain ⟨p, ao, m, c, bo, k, d, a, b, e, r⟩ := h
  exact ⟨p, ao, m, c, bo, k, d, a, b, e, r.le hL⟩
theorem CellAt.mono {w : World} {el : Nat → Value} {d : Cl} {L L' : Nat} (h : CellAt w el d L) (hL : L ≤ L') : CellAt w el d L' := ⟨h.1, h.2.mono hL⟩

def CRaw (w : World) (v : Value) (n : Nat) (t : Nat → Cl) (K : Nat) : Prop := ∃ el, RowAt 4 w v n el ∧ ∀ i, i < n → CellRaw w (el i) (t i) K
def CRow (w : World) (v : Value) (n : Nat) (t : Nat → Cl) (L : Nat) : Prop := ∃ el, RowAt 4 w v n el ∧ ∀ i, i < n → CellAt w (el i) (t i) L
theorem CRaw.below {w w' : World} {v : Value} {n : Nat} {t : Nat → Cl} {K : Nat} (h : CRaw w v n t K) (hb : Below w.heap.size w w') : CRaw w' v n t K := by
  obtain ⟨el, h1, h2⟩ := h
  exact ⟨el, h1.below hb, fun i hi => (h2 i hi).below hb⟩
theorem CRow.below {w w' : World} {v : Value} {n : Nat} {t : Nat → Cl} {L : Nat} (h : CRow w v n t L) (hb : Below w.heap.size w w') : CRow w' v n t L := by
  obtain ⟨el, h1, h2⟩ := h
  exact ⟨el, h1.below hb, fun i hi => (h2 i hi).below hb⟩
theorem CRow.open {w : World} {v : Value} {n : Nat} {t : Nat → Cl} {L : Nat} (h : CRow w v n t L) : ∃ a c, v = .slice a n c ∧ n ≤ c ∧ c ≤ 9223372036854775807 := by
  obtain ⟨el, ⟨a, c, h1, h2, h3, _⟩, _⟩ := h
  exact ⟨a, c, h1, h2, h3⟩
theorem CRaw.open {w : World} {v : Value} {n : Nat} {t : Nat → Cl} {L : Nat} (h : CRaw w v n t L) : ∃ a c, v = .slice a n c ∧ n ≤ c ∧ c ≤ 9223372036854775807 := by
  obtain ⟨el, ⟨a, c, h1, h2, h3, _⟩, _⟩ := h
  exact ⟨a, c, h1, h2, h3⟩

theorem CRow.at {w : World} {v : Value} {n : Nat} {t : Nat → Cl} {L : Nat} (h : CRow w v n t L) {i : Nat} (hi : i < n) :
    ∃ b off c p1 a1 n1 c1 b1 m1 d1, v = .slice (some ⟨b, off, none⟩) n c ∧ n ≤ c ∧ c ≤ 9223372036854775807 ∧
      w.cell? ⟨b, off + i * 4, none⟩ = some (.bool (t i).miss) ∧ w.cell? ⟨b, off + i * 4 + 1, none⟩ = some (.bool p1) ∧ w.cell? ⟨b, off + i * 4 + 2, none⟩ = some (.slice a1 n1 c1) ∧ w.cell? ⟨b, off + i * 4 + 3, none⟩ = some (.slice b1 m1 d1) ∧
      RatAt w (.agg #[.bool p1, .slice a1 n1 c1, .slice b1 m1 d1]) (t i).val L := by
  obtain ⟨el, ⟨a, c, h1, h2, h3, h4⟩, h5⟩ := h
  obtain ⟨b, off, rfl, hc⟩ := h4 (by omega)
  obtain ⟨e0, p1, a1, n1, c1, b1, m1, d1, e1, e2, e3, r1⟩ := h5 i hi
  have hc := hc i hi
  exact ⟨b, off, c, p1, a1, n1, c1, b1, m1, d1, h1, h2, h3, (hc 0 (by omega)).trans (by rw [e0]), (hc 1 (by omega)).trans (by rw [e1]), (hc 2 (by omega)).trans (by rw [e2]), (hc 3 (by omega)).trans (by rw [e3]), r1⟩
theorem CRaw.at {w : World} {v : Value} {n : Nat} {t : Nat → Cl} {K : Nat} (h : CRaw w v n t K) {i : Nat} (hi : i < n) :
    ∃ b off c p1 a1 n1 c1 b1 m1 d1 f1 g1, v = .slice (some ⟨b, off, none⟩) n c ∧ n ≤ c ∧ c ≤ 9223372036854775807 ∧
      w.cell? ⟨b, off + i * 4, none⟩ = some (.bool (t i).miss) ∧ w.cell? ⟨b, off + i * 4 + 1, none⟩ = some (.bool p1) ∧ w.cell? ⟨b, off + i * 4 + 2, none⟩ = some (.slice a1 n1 c1) ∧ w.cell? ⟨b, off + i * 4 + 3, none⟩ = some (.slice b1 m1 d1) ∧
      Raw w (.slice a1 n1 c1) n1 f1 ∧ Raw w (.slice b1 m1 d1) m1 g1 ∧ (t i).val = mkRat (zof p1 (num f1 (min n1 K))) (num g1 (min m1 K)) := by
  obtain ⟨el, ⟨a, c, h1, h2, h3, h4⟩, h5⟩ := h
  obtain ⟨b, off, rfl, hc⟩ := h4 (by omega)
  obtain ⟨e0, p1, a1, n1, c1, b1, m1, d1, f1, g1, e1, e2, e3, r1⟩ := h5 i hi
  have hc := hc i hi
  exact ⟨b, off, c, p1, a1, n1, c1, b1, m1, d1, f1, g1, h1, h2, h3, (hc 0 (by omega)).trans (by rw [e0]), (hc 1 (by omega)).trans (by rw [e1]), (hc 2 (by omega)).trans (by rw [e2]), (hc 3 (by omega)).trans (by rw [e3]), r1⟩
theorem CRow.mono {w : World} {v : Value} {n : Nat} {t : Nat → Cl} {L L' : Nat} (h : CRow w v n t L) (hL : L ≤ L') : CRow w v n t L' := by
  obtain ⟨el, h1, h2⟩ := h
  exact ⟨el, h1, fun i hi => (h2 i hi).mono hL⟩
theorem CRow.congr {w : World} {v : Value} {n : Nat} {t t' : Nat → Cl} {L : Nat} (h : CRow w v n t L) (e : ∀ i, i < n → t i = t' i) : CRow w v n t' L := by
  obtain ⟨el, h1, h2⟩ := h
  exact ⟨el, h1, fun i hi => e i hi ▸ h2 i hi⟩

/-- Rows of entries. -/
def ARaw (w : World) (v : Value) (k : Nat) (N : Nat → Nat) (t : Nat → Nat → Cl) (K : Nat) : Prop := ∃ el, RowAt 1 w v k el ∧ ∀ i, i < k → CRaw w (el i 0) (N i) (t i) K
def ARow (w : World) (v : Value) (k : Nat) (N : Nat → Nat) (t : Nat → Nat → Cl) (L : Nat) : Prop := ∃ el, RowAt 1 w v k el ∧ ∀ i, i < k → CRow w (el i 0) (N i) (t i) L
theorem ARaw.below {w w' : World} {v : Value} {k : Nat} {N : Nat → Nat} {t : Nat → Nat → Cl} {K : Nat} (h : ARaw w v k N t K) (hb : Below w.heap.size w w') : ARaw w' v k N t K := by
  obtain ⟨el, h1, h2⟩ := h
  exact ⟨el, h1.below hb, fun i hi => (h2 i hi).below hb⟩
theorem ARow.below {w w' : World} {v : Value} {k : Nat} {N : Nat → Nat} {t : Nat → Nat → Cl} {L : Nat} (h : ARow w v k N t L) (hb : Below w.heap.size w w') : ARow w' v k N t L := by
  obtain ⟨el, h1, h2⟩ := h
  exact ⟨el, h1.below hb, fun i hi => (h2 i hi).below hb⟩
theorem ARow.open {w : World} {v : Value} {k : Nat} {N : Nat → Nat} {t : Nat → Nat → Cl} {L : Nat} (h : ARow w v k N t L) : ∃ a c, v = .slice a k c ∧ k ≤ c ∧ c ≤ 9223372036854775807 := by
  obtain ⟨el, ⟨a, c, h1, h2, h3, _⟩, _⟩ := h
  exact ⟨a, c, h1, h2, h3⟩
theorem ARaw.open {w : World} {v : Value} {k : Nat} {N : Nat → Nat} {t : Nat → Nat → Cl} {L : Nat} (h : ARaw w v k N t L) : ∃ a c, v = .slice a k c ∧ k ≤ c ∧ c ≤ 9223372036854775807 := by
  obtain ⟨el, ⟨a, c, h1, h2, h3, _⟩, _⟩ := h
  exact ⟨a, c, h1, h2, h3⟩
theorem ARow.at {w : World} {v : Value} {k : Nat} {N : Nat → Nat} {t : Nat → Nat → Cl} {L : Nat} (h : ARow w v k N t L) {i : Nat} (hi : i < k) : ∃ b off c a d, v = .slice (some ⟨b, off, none⟩) k c ∧ k ≤ c ∧ w.cell? ⟨b, off + i, none⟩ = some (.slice a (N i) d) ∧ CRow w (.slice a (N i) d) (N i) (t i) L := by
  obtain ⟨el, ⟨a, c, h1, h2, h3, h4⟩, h5⟩ := h
  obtain ⟨b, off, rfl, hc⟩ := h4 (by omega)
  obtain ⟨a, d, e, _⟩ := (h5 i hi).open
  have := hc i hi 0 (by omega)
  rw [Nat.mul_one, Nat.add_zero, e] at this
  exact ⟨b, off, c, a, d, h1, h2, this, e ▸ h5 i hi⟩
theorem ARaw.at {w : World} {v : Value} {k : Nat} {N : Nat → Nat} {t : Nat → Nat → Cl} {L : Nat} (h : ARaw w v k N t L) {i : Nat} (hi : i < k) : ∃ b off c a d, v = .slice (some ⟨b, off, none⟩) k c ∧ k ≤ c ∧ w.cell? ⟨b, off + i, none⟩ = some (.slice a (N i) d) ∧ CRaw w (.slice a (N i) d) (N i) (t i) L := by
  obtain ⟨el, ⟨a, c, h1, h2, h3, h4⟩, h5⟩ := h
  obtain ⟨b, off, rfl, hc⟩ := h4 (by omega)
  obtain ⟨a, d, e, _⟩ := (h5 i hi).open
  have := hc i hi 0 (by omega)
  rw [Nat.mul_one, Nat.add_zero, e] at this
  exact ⟨b, off, c, a, d, h1, h2, this, e ▸ h5 i hi⟩

theorem cells4 {l : List Value} (h : l.length = 4) : ∃ x0 x1 x2 x3, l = [x0, x1, x2, x3] := by
  match l, h with
  | [x0, x1, x2, x3], _ => exact ⟨x0, x1, x2, x3, rfl⟩
theorem cells_cell : Tryz.prog.cellsOf 29 = 4 := by kernel_rfl
set_option maxRecDepth 100000 in
theorem trod_cell {H : Type} {enc : TypeId × Value → H} {W : World} {base n : Nat} {x0 x1 x2 x3 : Value} {y : DataW H × List MemPlace} (K : Nat) (h : DataW.trod enc Tryz.prog W base (fun _ => true) true n 29 [x0, x1, x2, x3] = some y) :
    ∃ d : Cl, CellRaw W (fun j => [x0, x1, x2, x3].getD j undef) d K := by
  obtain ⟨y0, y1, m, hx, _, hy0, hy1⟩ := trod_struct2 Tryz.underlying29 h
  obtain ⟨b, e0, _⟩ := DataW.trod_bool Tryz.underlying4 hy0
  simp [cells_bool] at e0
  obtain ⟨q, r⟩ := trod_rat3 (c0 := x1) (c1 := x2) (c2 := x3) K (by simpa [cells_bool, cells_wrat] using hy1)
  exact ⟨⟨b, q⟩, e0, r⟩

set_option maxRecDepth 100000 in
theorem trod_cells {H : Type} {enc : TypeId × Value → H} {W : World} {base fuel : Nat} {c : Value} {y : DataW H × List MemPlace} (K : Nat) (hf : DataW.trod enc Tryz.prog W base (fun _ => true) true fuel 39 [c] = some y) : ∃ n t, CRaw W c n t K := by
  rcases Go.Deep.open_slice Tryz.underlying39 hf with ⟨hcs, _⟩ | ⟨x, l, c', m, n, D, Pl, hcs, _, hl, hm, hmm, _, hall⟩
  · simp only [List.cons.injEq, and_true] at hcs
    subst hcs
    exact ⟨0, fun _ => ⟨false, 0⟩, fun _ _ => .bool false, RowAt.nil _ _ _, fun i hi => by omega⟩
  · simp only [List.cons.injEq, and_true] at hcs
    subst hcs
    rw [if_pos rfl] at hmm
    subst hmm
    rw [cells_cell] at hall
    have each : ∀ i, ∃ y : Cl × (Nat → Value), i < l → (∀ j, j < 4 → W.cell? (x.add (i * 4 + j)) = some (y.2 j)) ∧ CellRaw W y.2 y.1 K := by
      intro i
      by_cases hi : i < l
      · obtain ⟨cs, h1, h2⟩ := hall i (by omega)
        obtain ⟨_, hlen, hcell⟩ := World.cells?_some h1
        obtain ⟨x0, x1, x2, x3, rfl⟩ := cells4 hlen
        obtain ⟨d, hd⟩ := trod_cell K h2
        refine ⟨(d, _), fun _ => ⟨fun j hj => ?_, hd⟩⟩
        have k := hcell j (by omega)
        rw [Go.Deep.add_add] at k
        rw [k]
        rcases (by omega : j = 0 ∨ j = 1 ∨ j = 2 ∨ j = 3) with rfl | rfl | rfl | rfl <;> rfl
      · exact ⟨(⟨false, 0⟩, fun _ => .bool false), fun h => absurd h hi⟩
    obtain ⟨Y, hY⟩ := Classical.axiomOfChoice each
    refine ⟨l, fun i => (Y i).1, fun i => (Y i).2, ⟨_, _, rfl, hl, by unfold maxLen at hm; omega, fun h0 => ?_⟩, fun i hi => (hY i hi).2⟩
    obtain ⟨b, off, spot⟩ := x
    have hc := (hY 0 (by omega)).1 0 (by omega)
    have hspot : spot = none := by simpa [Addr.add] using World.cell?_spot hc
    subst hspot
    refine ⟨b, off, rfl, fun i hi j hj => ?_⟩
    have := (hY i hi).1 j hj
    rw [add_off] at this
    rw [Nat.add_assoc]
    exact this
set_option maxRecDepth 100000 in
theorem trod_rows {H : Type} {enc : TypeId × Value → H} {W : World} {base fuel : Nat} {c : Value} {y : DataW H × List MemPlace} (K : Nat) (hf : DataW.trod enc Tryz.prog W base (fun _ => true) true fuel 42 [c] = some y) : ∃ k N t, ARaw W c k N t K := by
  rcases Go.Deep.open_slice Tryz.underlying42 hf with ⟨hcs, _⟩ | ⟨x, l, c', m, n, D, Pl, hcs, _, hl, hm, hmm, _, hall⟩
  · simp only [List.cons.injEq, and_true] at hcs
    subst hcs
    exact ⟨0, fun _ => 0, fun _ _ => ⟨false, 0⟩, fun _ _ => .bool false, RowAt.nil _ _ _, fun i hi => by omega⟩
  · simp only [List.cons.injEq, and_true] at hcs
    subst hcs
    rw [if_pos rfl] at hmm
    subst hmm
    rw [show Tryz.prog.cellsOf 39 = 1 by kernel_rfl] at hall
    have each : ∀ i, ∃ y : Value × Nat × (Nat → Cl), i < l → W.cell? (x.add (i * 1)) = some y.1 ∧ CRaw W y.1 y.2.1 y.2.2 K := by
      intro i
      by_cases hi : i < l
      · obtain ⟨cs, h1, h2⟩ := hall i (by omega)
        obtain ⟨_, hlen, hcell⟩ := World.cells?_some h1
        obtain ⟨u, rfl⟩ : ∃ u, cs = [u] := by
          match cs, hlen with
          | [u], _ => exact ⟨u, rfl⟩
        obtain ⟨n, t, ht⟩ := trod_cells K h2
        refine ⟨(u, n, t), fun _ => ⟨?_, ht⟩⟩
        have k := hcell 0 (by omega)
        rw [Go.Deep.add_add, Nat.add_zero] at k
        exact k
      · exact ⟨(.bool false, 0, fun _ => ⟨false, 0⟩), fun h => absurd h hi⟩
    obtain ⟨Y, hY⟩ := Classical.axiomOfChoice each
    refine ⟨l, fun i => (Y i).2.1, fun i => (Y i).2.2, fun i _ => (Y i).1, ⟨_, _, rfl, hl, by unfold maxLen at hm; omega, fun h0 => ?_⟩, fun i hi => (hY i hi).2⟩
    obtain ⟨b, off, spot⟩ := x
    have hc := (hY 0 (by omega)).1
    have hspot : spot = none := by simpa [Addr.add] using World.cell?_spot hc
    subst hspot
    refine ⟨b, off, rfl, fun i hi j hj => ?_⟩
    have := (hY i hi).1
    rw [add_off] at this
    rw [show j = 0 by omega, Nat.add_zero]
    exact this

set_option maxRecDepth 100000 in
/-- A row that comes in; rows that come in; one entry. -/
theorem open_cells {H : Type} {enc : TypeId × Value → H} {W : World} {base b0 : Nat} {r : Reach} {v : Value} {d : DataW H} {ps : List MemPlace} (K : Nat)
    (hval : Value.okWide Tryz.prog W r b0 39 v) (h : DataW.Trod enc Tryz.prog W base (fun _ => true) true 39 v d ps) : ∃ n t, CRaw W v n t K := by
  obtain ⟨a, len, cap, rfl⟩ := okWide_slice Tryz.underlying39 hval
  obtain ⟨fuel, hf⟩ := h
  exact trod_cells K hf

set_option maxRecDepth 100000 in
theorem open_rows {H : Type} {enc : TypeId × Value → H} {W : World} {base b0 : Nat} {r : Reach} {v : Value} {d : DataW H} {ps : List MemPlace} (K : Nat)
    (hval : Value.okWide Tryz.prog W r b0 42 v) (h : DataW.Trod enc Tryz.prog W base (fun _ => true) true 42 v d ps) : ∃ k N t, ARaw W v k N t K := by
  obtain ⟨a, len, cap, rfl⟩ := okWide_slice Tryz.underlying42 hval
  obtain ⟨fuel, hf⟩ := h
  exact trod_rows K hf
set_option maxRecDepth 100000 in
theorem open_cell {H : Type} {enc : TypeId × Value → H} {W : World} {base b0 : Nat} {r : Reach} {v : Value} {d : DataW H} {ps : List MemPlace}
    (hval : Value.okWide Tryz.prog W r b0 29 v) (h : DataW.Trod enc Tryz.prog W base (fun _ => true) true 29 v d ps) : ∃ miss p ao n c bo m e f g, v = .agg #[.bool miss, .bool p, .slice ao n c, .slice bo m e] ∧ Raw W (.slice ao n c) n f ∧ Raw W (.slice bo m e) m g := by
  obtain ⟨cs, rfl, hsz⟩ := okWide_struct Tryz.underlying29 hval
  rw [cells_cell] at hsz
  obtain ⟨c0, c1, c2, c3, rfl⟩ : ∃ a b c d, cs = #[a, b, c, d] := by
    obtain ⟨l⟩ := cs
    obtain ⟨a, b, c, d, e⟩ := cells4 (l := l) hsz
    exact ⟨a, b, c, d, by rw [e]⟩
  obtain ⟨fuel, hf⟩ := h
  obtain ⟨dd, e0, p, ao, n, c, bo, m, e, f, g, e1, e2, e3, r1, r2, _⟩ := trod_cell 3 hf
  have e0 : c0 = .bool dd.miss := e0
  have e1 : c1 = .bool p := e1
  have e2 : c2 = .slice ao n c := e2
  have e3 : c3 = .slice bo m e := e3
  exact ⟨dd.miss, p, ao, n, c, bo, m, e, f, g, by rw [e0, e1, e2, e3], r1, r2⟩

/-- A row of the call's own. -/
def COwn (B : Nat) (w : World) (v : Value) (n : Nat) (t : Nat → Cl) (L : Nat) : Prop := ∃ cs : List Value, w.ownsRow B 29 4 v n cs ∧ (∀ g, v.ownBlock = some g → PureB IsLimb w g) ∧ ∀ i, i < n → CellAt w (fun j => cs.getD (i * 4 + j) undef) (t i) L
theorem COwn.nil (B : Nat) (w : World) (t : Nat → Cl) (L : Nat) : COwn B w (.slice none 0 0) 0 t L := ⟨[], World.ownsRow_nil _ _ _ _, fun g h => by simp [Value.ownBlock] at h, fun i hi => by omega⟩

theorem COwn.le {B B' : Nat} {w : World} {v : Value} {n : Nat} {t : Nat → Cl} {L : Nat} (h : COwn B w v n t L) (hb : B' ≤ B) : COwn B' w v n t L := by
  obtain ⟨cs, h1, h2, h3⟩ := h
  exact ⟨cs, owns_le h1 hb, h2, h3⟩
theorem COwn.later {B : Nat} {w w' : World} {v : Value} {n : Nat} {t : Nat → Cl} {L : Nat} (h : COwn B w v n t L) (hb : Below w.heap.size w w') : COwn B w' v n t L := by
  obtain ⟨cs, h1, h2, h3⟩ := h
  exact ⟨cs, owns_later h1 hb, fun g hg => (h2 g hg).below hb (World.ownsRow.lt h1 g hg).2, fun i hi => (h3 i hi).below hb⟩
theorem COwn.form {B : Nat} {w : World} {v : Value} {n : Nat} {t : Nat → Cl} {L : Nat} (h : COwn B w v n t L) : ∃ a c, v = .slice a n c := by
  obtain ⟨cs, h1, _⟩ := h
  rcases h1.2 with ⟨rfl, rfl⟩ | ⟨g, c, _, rfl, _⟩
  · exact ⟨none, 0, rfl⟩
  · exact ⟨_, c, rfl⟩
theorem COwn.row {B : Nat} {w : World} {v : Value} {n : Nat} {t : Nat → Cl} {L : Nat} (h : COwn B w v n t L) : CRow w v n t L := by
  obtain ⟨cs, h1, _, h3⟩ := h
  refine ⟨fun i j => cs.getD (i * 4 + j) undef, ?_, h3⟩
  have hl := h1.1
  rcases h1.2 with ⟨rfl, rfl⟩ | ⟨g, c, cur, rfl, hB, hg, hc, hm, rest⟩
  · exact RowAt.nil _ _ _
  · refine ⟨_, c, rfl, hc, by unfold maxLen at hm; omega, fun _ => ⟨g, 0, rfl, fun i hi j hj => ?_⟩⟩
    have hlt : i * 4 + j < cs.length := by rw [hl]; omega
    rw [Nat.zero_add]
    exact owns_cell h1 (by show cs[i * 4 + j]? = some (cs.getD (i * 4 + j) undef); rw [List.getD_eq_getElem?_getD, List.getElem?_eq_getElem hlt]; rfl)
/-- One node more. -/
theorem COwn.more {B : Nat} {w w' : World} {v v' : Value} {n : Nat} {t : Nat → Cl} {L : Nat} {cs news : List Value} (h1 : w'.ownsRow B 29 4 v' (n + 1) (cs ++ news)) (hl : cs.length = n * 4) (hp : ∀ g, v'.ownBlock = some g → PureB IsLimb w' g) (hk : KeepQ IsLimb w w') (h3 : ∀ i, i < n → CellAt w (fun j => cs.getD (i * 4 + j) undef) (t i) L) (hn : CellAt w (fun j => news.getD j undef) (t n) L) : COwn B w' v' (n + 1) t L := by
  refine ⟨_, h1, hp, fun i hi => ?_⟩
  by_cases e : i = n
  · subst e
    refine (hn.keepL hk).congr (fun j hj => ?_)
    simp only [List.getD_eq_getElem?_getD]
    rw [List.getElem?_append_right (by omega), hl, Nat.add_sub_cancel_left]
  · refine ((h3 i (by omega)).keepL hk).congr (fun j hj => ?_)
    simp only [List.getD_eq_getElem?_getD]
    rw [List.getElem?_append_left (by omega)]
/-- Another row was written. -/
theorem COwn.kept {B : Nat} {w w' : World} {v : Value} {n : Nat} {t : Nat → Cl} {L : Nat} {row : Option Nat} (h : COwn B w v n t L) (hg : w.grownBy w' row) (hk : KeepQ IsLimb w w') (hne : v.ownBlock = none ∨ v.ownBlock ≠ row) : COwn B w' v n t L := by
  obtain ⟨cs, h1, h2, h3⟩ := h
  refine ⟨cs, h1.kept hg hne, fun g hgg o u hu => h2 g hgg o u ?_, fun i hi => (h3 i hi).keepL hk⟩
  have hlt := (World.ownsRow.lt h1 g hgg).2
  have hne2 : some g ≠ row := fun e => by
    rcases hne with a | a
    · rw [hgg] at a; cases a
    · exact a (hgg.trans e)
  rw [← World.cell?_of_block (w := w) (hg.block g hlt hne2)]; exact hu
theorem COwn.set {B : Nat} {w : World} {v : Value} {n : Nat} {t : Nat → Cl} {L : Nat} (h : COwn B w v n t L) {a : Addr} (ha : a.block < B) (u : Value) (hk : KeepQ IsLimb w (w.setCell a u)) : COwn B (w.setCell a u) v n t L := by
  obtain ⟨cs, h1, h2, h3⟩ := h
  refine ⟨cs, ownsRow_setCell_below h1 ha u, fun g hgg o x hx => h2 g hgg o x ?_, fun i hi => (h3 i hi).keepL hk⟩
  have hlt := (World.ownsRow.lt h1 g hgg).1
  rwa [World.cell?_setCell_other _ _ _ _ (fun e => by rw [e] at ha; simp at ha; omega)] at hx

/-- Rows, all of the call's own. -/
def AOwn (B : Nat) (w : World) (v : Value) (k : Nat) (N : Nat → Nat) (T : Nat → Nat → Cl) (L : Nat) : Prop := ∃ us : List Value, w.ownsRow B 39 1 v k us ∧ (∀ g, v.ownBlock = some g → PureB IsLimb w g) ∧ ∀ i, i < k → ∃ u, us[i]? = some u ∧ COwn B w u (N i) (T i) L
theorem AOwn.nil (B : Nat) (w : World) (N : Nat → Nat) (T : Nat → Nat → Cl) (L : Nat) : AOwn B w (.slice none 0 0) 0 N T L := ⟨[], World.ownsRow_nil _ _ _ _, fun g h => by simp [Value.ownBlock] at h, fun i hi => by omega⟩
theorem AOwn.later {B : Nat} {w w' : World} {v : Value} {k : Nat} {N : Nat → Nat} {T : Nat → Nat → Cl} {L : Nat} (h : AOwn B w v k N T L) (hb : Below w.heap.size w w') : AOwn B w' v k N T L := by
  obtain ⟨us, h1, h2, h3⟩ := h
  exact ⟨us, owns_later h1 hb, fun g hg => (h2 g hg).below hb (World.ownsRow.lt h1 g hg).2, fun i hi => let ⟨u, a, b⟩ := h3 i hi; ⟨u, a, b.later hb⟩⟩
theorem AOwn.set {B : Nat} {w : World} {v : Value} {k : Nat} {N : Nat → Nat} {T : Nat → Nat → Cl} {L : Nat} (h : AOwn B w v k N T L) {a : Addr} (ha : a.block < B) (u : Value) (hk : KeepQ IsLimb w (w.setCell a u)) : AOwn B (w.setCell a u) v k N T L := by
  obtain ⟨us, h1, h2, h3⟩ := h
  refine ⟨us, ownsRow_setCell_below h1 ha u, fun g hgg o x hx => h2 g hgg o x ?_, fun i hi => let ⟨y, a1, b1⟩ := h3 i hi; ⟨y, a1, b1.set ha u hk⟩⟩
  have hlt := (World.ownsRow.lt h1 g hgg).1
  rwa [World.cell?_setCell_other _ _ _ _ (fun e => by rw [e] at ha; simp at ha; omega)] at hx
theorem AOwn.form {B : Nat} {w : World} {v : Value} {k : Nat} {N : Nat → Nat} {T : Nat → Nat → Cl} {L : Nat} (h : AOwn B w v k N T L) : ∃ a c, v = .slice a k c := by
  obtain ⟨cs, h1, _⟩ := h
  rcases h1.2 with ⟨rfl, rfl⟩ | ⟨g, c, _, rfl, _⟩
  · exact ⟨none, 0, rfl⟩
  · exact ⟨_, c, rfl⟩
theorem AOwn.row {B : Nat} {w : World} {v : Value} {k : Nat} {N : Nat → Nat} {T : Nat → Nat → Cl} {L : Nat} (h : AOwn B w v k N T L) : ARow w v k N T L := by
  obtain ⟨us, h1, _, h3⟩ := h
  refine ⟨fun i _ => us.getD i undef, ?_, fun i hi => ?_⟩
  · have hl := h1.1
    rcases h1.2 with ⟨rfl, rfl⟩ | ⟨g, c, cur, rfl, hB, hg, hc, hm, rest⟩
    · exact RowAt.nil _ _ _
    · refine ⟨_, c, rfl, hc, by unfold maxLen at hm; omega, fun _ => ⟨g, 0, rfl, fun i hi j hj => ?_⟩⟩
      obtain ⟨u, hu, _⟩ := h3 i hi
      rw [show j = 0 by omega, Nat.zero_add, Nat.mul_one, Nat.add_zero]
      exact owns_cell h1 (by show us[i]? = some (us.getD i undef); rw [List.getD_eq_getElem?_getD, hu]; rfl)
  · obtain ⟨u, hu, ho⟩ := h3 i hi
    show CRow w (us.getD i undef) (N i) (T i) L
    rw [List.getD_eq_getElem?_getD, hu]
    exact ho.row
/-- One row more. -/
theorem AOwn.more {B : Nat} {w w' : World} {v v' y : Value} {k : Nat} {N : Nat → Nat} {T : Nat → Nat → Cl} {L : Nat} (h : AOwn B w v k N T L) (hy : COwn B w y (N k) (T k) L) (h1 : ∀ us, w.ownsRow B 39 1 v k us → w'.ownsRow B 39 1 v' (k + 1) (us ++ [y])) (hg : w.grownBy w' v.ownBlock) (hp : ∀ g, v'.ownBlock = some g → PureB IsLimb w' g) (hk : KeepQ IsLimb w w') : AOwn B w' v' (k + 1) N T L := by
  obtain ⟨us, o1, o2, o3⟩ := h
  have hl := o1.1
  have stay : ∀ u n t, COwn B w u n t L → COwn B w' u n t L := fun u n t ht => by
    obtain ⟨cs, c1, _⟩ := id ht
    exact ht.kept hg hk (unlike c1 o1 (by decide))
  refine ⟨us ++ [y], h1 us o1, hp, fun i hi => ?_⟩
  by_cases e : i = k
  · subst e
    exact ⟨y, by rw [List.getElem?_append_right (by omega), hl, Nat.mul_one, Nat.sub_self]; rfl, stay _ _ _ hy⟩
  · obtain ⟨u, hu, ho⟩ := o3 i (by omega)
    exact ⟨u, by rw [List.getElem?_append_left (by omega)]; exact hu, stay _ _ _ ho⟩

theorem info_cell : (Tryz.prog.info? 29).map (fun i => (i.zero, i.size, i.bytes)) = some (some (.agg #[.bool false, .bool false, .slice none 0 0, .slice none 0 0]), 4, 64) := by kernel_rfl
theorem info_cells : (Tryz.prog.info? 39).map (fun i => (i.zero, i.size, i.bytes)) = some (some (.slice none 0 0), 1, 24) := by kernel_rfl

theorem COwn.apart {B : Nat} {w : World} {v : Value} {n : Nat} {t : Nat → Cl} {L : Nat} (h : COwn B w v n t L) {a : Addr} (ha : ∀ g, v.ownBlock = some g → g ≠ a.block) (u : Value) (hk : KeepQ IsLimb w (w.setCell a u)) : COwn B (w.setCell a u) v n t L := by
  refine h.kept (grown_at w a u) hk ?_
  cases e : v.ownBlock with
  | none => exact .inl rfl
  | some g => exact .inr (fun e2 => ha g e (by injection e2))
theorem COwn.blocks {B : Nat} {w : World} {v : Value} {n : Nat} {t : Nat → Cl} {L : Nat} (h : COwn B w v n t L) : ∀ g, v.ownBlock = some g → B ≤ g ∧ g < w.heap.size := by
  obtain ⟨cs, h1, _⟩ := h
  exact World.ownsRow.lt h1

/-- What the append of an entry needs, and what it leaves. -/
theorem COwn.parts {B : Nat} {w : World} {v : Value} {n : Nat} {t : Nat → Cl} {L : Nat} (h : COwn B w v n t L) : ∃ cs : List Value, cs.length = n * 4 ∧ w.ownsRow B 29 4 v n cs ∧ (∀ g, v.ownBlock = some g → PureB IsLimb w g) ∧ ∀ i, i < n → CellAt w (fun j => cs.getD (i * 4 + j) undef) (t i) L := by
  obtain ⟨cs, h1, h2, h3⟩ := h
  exact ⟨cs, h1.1, h1, h2, h3⟩
theorem AOwn.parts {B : Nat} {w : World} {v : Value} {k : Nat} {N : Nat → Nat} {T : Nat → Nat → Cl} {L : Nat} (h : AOwn B w v k N T L) : ∃ us : List Value, w.ownsRow B 39 1 v k us ∧ (∀ g, v.ownBlock = some g → PureB IsLimb w g) := by
  obtain ⟨us, h1, h2, _⟩ := h
  exact ⟨us, h1, h2⟩
theorem AOwn.blocks {B : Nat} {w : World} {v : Value} {k : Nat} {N : Nat → Nat} {T : Nat → Nat → Cl} {L : Nat} (h : AOwn B w v k N T L) : ∀ g, v.ownBlock = some g → B ≤ g ∧ g < w.heap.size := by
  obtain ⟨cs, h1, _⟩ := h
  exact World.ownsRow.lt h1
/-- One row more: the list of rows is told by its cells. -/
theorem AOwn.more1 {B : Nat} {w w' : World} {v v' y : Value} {k : Nat} {N : Nat → Nat} {T : Nat → Nat → Cl} {L : Nat} {us : List Value} (h : AOwn B w v k N T L) (hu : w.ownsRow B 39 1 v k us) (hy : COwn B w y (N k) (T k) L) (h1 : w'.ownsRow B 39 1 v' (k + 1) (us ++ [y])) (hg : w.grownBy w' v.ownBlock) (hp : ∀ g, v'.ownBlock = some g → PureB IsLimb w' g) (hk : KeepQ IsLimb w w') : AOwn B w' v' (k + 1) N T L := by
  refine h.more hy (fun us2 h2 => ?_) hg hp hk
  have : us2 = us := by
    rcases hu.2 with ⟨rfl, rfl⟩ | ⟨g, c, cur, rfl, _, hgg, _, _, _, ht⟩
    · have a9 : us2 = [] := by simpa using h2.1
      have b9 : us = [] := by simpa using hu.1
      rw [a9, b9]
    · rcases h2.2 with ⟨h3, _⟩ | ⟨g', c', cur', h3, _, hgg', _, _, _, ht'⟩
      · cases h3
      · cases h3
        rw [hgg] at hgg'
        cases hgg'
        rw [← ht, ← ht']
  rw [this]
  exact h1
theorem AOwn.le {B B' : Nat} {w : World} {v : Value} {k : Nat} {N : Nat → Nat} {T : Nat → Nat → Cl} {L : Nat} (h : AOwn B w v k N T L) (hb : B' ≤ B) : AOwn B' w v k N T L := by
  obtain ⟨us, h1, h2, h3⟩ := h
  exact ⟨us, owns_le h1 hb, h2, fun i hi => let ⟨u, a, b⟩ := h3 i hi; ⟨u, a, b.le hb⟩⟩
theorem AOwn.below {B : Nat} {w w' : World} {v : Value} {k : Nat} {N : Nat → Nat} {T : Nat → Nat → Cl} {L : Nat} (h : AOwn B w v k N T L) (hb : Below w.heap.size w w') : AOwn B w' v k N T L := h.later hb


end Go.Proofs.YtianfjidbeineaaGreatDoor

namespace Go.Proofs.YtianfjidbeineaaGreatDoor
open Go.RowKit
set_option linter.unusedVariables false
set_option linter.unusedSimpArgs false

def isQ (s : ByteArray) : Bool := s.toList == [63]
/-- What the document says of a word: an error, or an entry. -/
def cerr (s : ByteArray) : Int := if isQ s = true then 0 else qerr s
def cval (s : ByteArray) : Cl := if isQ s = true then ⟨true, 0⟩ else ⟨false, if qerr s = 0 then qval s else 0⟩
theorem qerr_is (s : ByteArray) : qerr s = 0 ∨ qerr s = 2 ∨ qerr s = 4 := by
  unfold qerr
  rcases pp_err (pdig s) with h | h
  · rw [if_pos h]; split <;> simp
  · rw [if_neg (by omega), h]; simp
theorem cerr_is (s : ByteArray) : cerr s = 0 ∨ cerr s = 2 ∨ cerr s = 4 := by
  unfold cerr
  split
  · simp
  · exact qerr_is s
/-- Parse, whatever comes in. -/
theorem qparse_at (s : ByteArray) (L : Nat) (w : World) (hs : s.size ≤ 9000) (ht : Tab w) (hq : qsz (qval s) ≤ L) :
    Calls Tryz.prog 28 #[.string s] w fun e w' => ∃ p a n c b m d, e = .returned (.tuple #[.agg #[.bool p, .slice a n c, .slice b m d], .int .i64 (qerr s)]) ∧ RatAt w' (.agg #[.bool p, .slice a n c, .slice b m d]) (if qerr s = 0 then qval s else 0) L ∧ Below w.heap.size w w' := by
  by_cases h1 : (ppOf (pdig s)).1 = 0
  · by_cases h2 : (ppOf (pdig s)).2.2 = 0
    · have he : qerr s = 2 := by unfold qerr; rw [if_pos h1, if_pos h2]
      refine (qparse_zero s w hs ht h1 h2).mono ?_
      rintro e w' ⟨rfl, hb⟩
      rw [he]
      exact ⟨_, _, _, _, _, _, _, rfl, RatAt.nil _ _, hb⟩
    · have he : qerr s = 0 := by unfold qerr; rw [if_pos h1, if_neg h2]
      refine (qparse_yes s w hs ht h1 h2).mono ?_
      rintro e w' ⟨r, rfl, hr, hb⟩
      obtain ⟨p, a, n, c, b, m, d, rfl⟩ := hr.open
      rw [he]
      exact ⟨_, _, _, _, _, _, _, rfl, hr.at L hq, hb⟩
  · have h4 : (ppOf (pdig s)).1 = 4 := by rcases pp_err (pdig s) with h | h
                                          · exact absurd h h1
                                          · exact h
    have he : qerr s = 4 := by unfold qerr; rw [if_neg h1, h4]
    refine (qparse_form s w hs ht h4).mono ?_
    rintro e w' ⟨rfl, hb⟩
    rw [he]
    exact ⟨_, _, _, _, _, _, _, rfl, RatAt.nil _ _, hb⟩
/-- A call that tells an entry and an error of a word. -/
def CellOut (s : ByteArray) (L : Nat) (w : World) (e : Ending) (w' : World) : Prop := ∃ p a n c b m d, e = .returned (.tuple #[.agg #[.bool (cval s).miss, .bool p, .slice a n c, .slice b m d], .int .i64 (cerr s)]) ∧ RatAt w' (.agg #[.bool p, .slice a n c, .slice b m d]) (cval s).val L ∧ Below w.heap.size w w'

set_option maxRecDepth 20000 in
set_option maxHeartbeats 2000000 in
theorem rcell_at (s : ByteArray) (L : Nat) (w : World) (hs : s.size ≤ 9000) (ht : Tab w) (hq : qsz (qval s) ≤ L) :
    Calls Tryz.prog 8 #[.string s] w fun e w' => CellOut s L w e w' := by
  cases hQ : (s.toList == [63])
  case true =>
    have HQ : Hid (isQ s = true) := hQ
    go_enter Tryz.func8, Tryz.ntmps8
    go_wp2
    refine bodyPost_ret (v := .tuple #[.agg #[.bool true, .bool false, .slice none 0 0, .slice none 0 0], .int .i64 0]) (by simp [results, go_sem]) rfl ?_
    have h1 : cval s = ⟨true, 0⟩ := by unfold cval; rw [if_pos HQ.out]
    have h2 : cerr s = 0 := by unfold cerr; rw [if_pos HQ.out]
    exact ⟨false, none, 0, 0, none, 0, 0, by rw [h1, h2], by rw [h1]; exact RatAt.nil _ _, (Below.refl _ _).alloc (Nat.le_refl _) _⟩
  case false =>
    have HQ : Hid (isQ s = false) := hQ
    obtain ⟨W0, hW0, hS0, hL0, VR⟩ := V4.lay w 29 (.bool false) (.bool false) (.slice none 0 0) (.slice none 0 0)
    go_enter Tryz.func8, Tryz.ntmps8
    go_wp2_with fail
    rw [← hW0]
    clear hW0 hS0
    refine (qparse_at s L _ hs (ht.below hL0) hq).mono ?_
    rintro e w1 ⟨p, a, n, c, b, m, d, rfl, hr, b1⟩
    have VR1 := VR.below b1
    have BB := hL0.trans (b1.mono hL0.size)
    have KK : KeepQ IsLimb w1 ((((w1.setCell ⟨w.heap.size, 0, none⟩ (.bool false)).setCell ⟨w.heap.size, 1, none⟩ (.bool p)).setCell ⟨w.heap.size, 2, none⟩ (.slice a n c)).setCell ⟨w.heap.size, 3, none⟩ (.slice b m d)) :=
      (((keepL_set VR1.1.1 (limb_bool _) _).trans (keepL_set (cell_set_by VR1.1.2.1 (by omega)) (limb_bool _) _)).trans (keepL_set (cell_set_by (cell_set_by VR1.1.2.2.1 (by omega)) (by omega)) (limb_slice _ _ _) _)).trans (keepL_set (cell_set_by (cell_set_by (cell_set_by VR1.2.1 (by omega)) (by omega)) (by omega)) (limb_slice _ _ _) _)
    have hA : Below w1.heap.size ((((w1.setCell ⟨w.heap.size, 0, none⟩ (.bool false)).setCell ⟨w.heap.size, 1, none⟩ (.bool p)).setCell ⟨w.heap.size, 2, none⟩ (.slice a n c)).setCell ⟨w.heap.size, 3, none⟩ (.slice b m d)) (((((w1.setCell ⟨w.heap.size, 0, none⟩ (.bool false)).setCell ⟨w.heap.size, 1, none⟩ (.bool p)).setCell ⟨w.heap.size, 2, none⟩ (.slice a n c)).setCell ⟨w.heap.size, 3, none⟩ (.slice b m d)).alloc (.cells #[.bool p, .slice a n c, .slice b m d] 27)) := (Below.refl _ _).alloc (by simp) _
    have hr3 := (hr.keepL KK).below (hA.mono (by simp))
    have BB3 := (below_store4 (R := w.heap.size) BB (Nat.le_refl _) (.bool false) (.bool p) (.slice a n c) (.slice b m d)).trans (hA.mono BB.size)
    have VR3 := (VR1.same (.bool false) (.bool p) (.slice a n c) (.slice b m d)).below (hA.mono (by simp))
    obtain ⟨⟨q1, q2, q3, q4, q5, q6⟩, q7, q8⟩ := id VR3
    obtain ⟨⟨y1, y2, y3, y4, y5, y6⟩, y7, y8⟩ := id VR1
    have hlt : w.heap.size < w1.heap.size := VR1.lt
    have HE : Hid (cerr s = qerr s ∧ cval s = ⟨false, if qerr s = 0 then qval s else 0⟩) := ⟨by unfold cerr; rw [if_neg (by rw [HQ.out]; simp)], by unfold cval; rw [if_neg (by rw [HQ.out]; simp)]⟩
    have HOUT : Hid (∀ e9 w9, e9 = .returned (.tuple #[.agg #[.bool false, .bool p, .slice a n c, .slice b m d], .int .i64 (qerr s)]) → RatAt w9 (.agg #[.bool p, .slice a n c, .slice b m d]) (if qerr s = 0 then qval s else 0) L → Below w.heap.size w w9 → CellOut s L w e9 w9) := fun e9 w9 h1 h2 h3 => by
      have h9 := HE.out
      refine ⟨p, a, n, c, b, m, d, ?_, ?_, h3⟩
      · rw [h9.1, h9.2]; exact h1
      · rw [h9.2]; exact h2
    generalize qerr s = er at *
    clear KK hA VR VR1 hr b1 BB hL0
    go_wp2
    (try simp only [Exit.inBlock, Exit.then])
    refine bodyPost_ret (v := .tuple #[.agg #[.bool false, .bool p, .slice a n c, .slice b m d], .int .i64 er]) (by simp [results, go_sem, q1, q2, q3, q7]) rfl ?_
    exact HOUT.out _ _ rfl hr3 BB3

set_option maxRecDepth 20000 in
set_option maxHeartbeats 2000000 in
theorem lcell_at (s : ByteArray) (L : Nat) (w : World) (hs : s.size ≤ 9000) (ht : Tab w) (hq : qsz (qval s) ≤ L) :
    Calls Tryz.prog 9 #[.string s] w fun e w' => CellOut s L w e w' := by
  cases hQ : (s.toList == [63])
  case true =>
    have HQ : Hid (isQ s = true) := hQ
    go_enter Tryz.func9, Tryz.ntmps9
    go_wp2
    refine bodyPost_ret (v := .tuple #[.agg #[.bool true, .bool false, .slice none 0 0, .slice none 0 0], .int .i64 0]) (by simp [results, go_sem]) rfl ?_
    have h1 : cval s = ⟨true, 0⟩ := by unfold cval; rw [if_pos HQ.out]
    have h2 : cerr s = 0 := by unfold cerr; rw [if_pos HQ.out]
    exact ⟨false, none, 0, 0, none, 0, 0, by rw [h1, h2], by rw [h1]; exact RatAt.nil _ _, (Below.refl _ _).alloc (Nat.le_refl _) _⟩
  case false =>
    have HQ : Hid (isQ s = false) := hQ
    obtain ⟨W0, hW0, hS0, hL0, VR⟩ := V4.lay w 29 (.bool false) (.bool false) (.slice none 0 0) (.slice none 0 0)
    go_enter Tryz.func9, Tryz.ntmps9
    go_wp2_with fail
    rw [← hW0]
    clear hW0 hS0
    refine (qparse_at s L _ hs (ht.below hL0) hq).mono ?_
    rintro e w1 ⟨p, a, n, c, b, m, d, rfl, hr, b1⟩
    have VR1 := VR.below b1
    have BB := hL0.trans (b1.mono hL0.size)
    have KK : KeepQ IsLimb w1 ((((w1.setCell ⟨w.heap.size, 0, none⟩ (.bool false)).setCell ⟨w.heap.size, 1, none⟩ (.bool p)).setCell ⟨w.heap.size, 2, none⟩ (.slice a n c)).setCell ⟨w.heap.size, 3, none⟩ (.slice b m d)) :=
      (((keepL_set VR1.1.1 (limb_bool _) _).trans (keepL_set (cell_set_by VR1.1.2.1 (by omega)) (limb_bool _) _)).trans (keepL_set (cell_set_by (cell_set_by VR1.1.2.2.1 (by omega)) (by omega)) (limb_slice _ _ _) _)).trans (keepL_set (cell_set_by (cell_set_by (cell_set_by VR1.2.1 (by omega)) (by omega)) (by omega)) (limb_slice _ _ _) _)
    have hA : Below w1.heap.size ((((w1.setCell ⟨w.heap.size, 0, none⟩ (.bool false)).setCell ⟨w.heap.size, 1, none⟩ (.bool p)).setCell ⟨w.heap.size, 2, none⟩ (.slice a n c)).setCell ⟨w.heap.size, 3, none⟩ (.slice b m d)) (((((w1.setCell ⟨w.heap.size, 0, none⟩ (.bool false)).setCell ⟨w.heap.size, 1, none⟩ (.bool p)).setCell ⟨w.heap.size, 2, none⟩ (.slice a n c)).setCell ⟨w.heap.size, 3, none⟩ (.slice b m d)).alloc (.cells #[.bool p, .slice a n c, .slice b m d] 27)) := (Below.refl _ _).alloc (by simp) _
    have hr3 := (hr.keepL KK).below (hA.mono (by simp))
    have BB3 := (below_store4 (R := w.heap.size) BB (Nat.le_refl _) (.bool false) (.bool p) (.slice a n c) (.slice b m d)).trans (hA.mono BB.size)
    have VR3 := (VR1.same (.bool false) (.bool p) (.slice a n c) (.slice b m d)).below (hA.mono (by simp))
    obtain ⟨⟨q1, q2, q3, q4, q5, q6⟩, q7, q8⟩ := id VR3
    obtain ⟨⟨y1, y2, y3, y4, y5, y6⟩, y7, y8⟩ := id VR1
    have hlt : w.heap.size < w1.heap.size := VR1.lt
    have HE : Hid (cerr s = qerr s ∧ cval s = ⟨false, if qerr s = 0 then qval s else 0⟩) := ⟨by unfold cerr; rw [if_neg (by rw [HQ.out]; simp)], by unfold cval; rw [if_neg (by rw [HQ.out]; simp)]⟩
    have HOUT : Hid (∀ e9 w9, e9 = .returned (.tuple #[.agg #[.bool false, .bool p, .slice a n c, .slice b m d], .int .i64 (qerr s)]) → RatAt w9 (.agg #[.bool p, .slice a n c, .slice b m d]) (if qerr s = 0 then qval s else 0) L → Below w.heap.size w w9 → CellOut s L w e9 w9) := fun e9 w9 h1 h2 h3 => by
      have h9 := HE.out
      refine ⟨p, a, n, c, b, m, d, ?_, ?_, h3⟩
      · rw [h9.1, h9.2]; exact h1
      · rw [h9.2]; exact h2
    generalize qerr s = er at *
    clear KK hA VR VR1 hr b1 BB hL0
    go_wp2
    (try simp only [Exit.inBlock, Exit.then])
    refine bodyPost_ret (v := .tuple #[.agg #[.bool false, .bool p, .slice a n c, .slice b m d], .int .i64 er]) (by simp [results, go_sem, q1, q2, q3, q7]) rfl ?_
    exact HOUT.out _ _ rfl hr3 BB3

set_option maxRecDepth 20000 in
set_option maxHeartbeats 1000000 in
theorem number9_at (p : Bool) (s t : Value) (n m : Nat) (f g : Nat → Int) (w : World) (h : Raw w s n f) (k : Raw w t m g) :
    Calls Tryz.prog 10 #[.agg #[.bool p, s, t]] w fun e w' => FewOut p (min n 3) (min m 3) f g w e w' := by
  have hA : ∀ o o', Below w.heap.size w ((w.alloc o).alloc o') := fun o o' => ((Below.refl _ _).alloc (Nat.le_refl _) _).alloc (by simp) _
  obtain ⟨ao, c, rfl, hnil, hnc, hcm, hu, h4⟩ := h
  obtain ⟨bo, d, rfl, knil, knc, kcm, ku, k4⟩ := k
  unfold maxLen at hcm kcm
  by_cases hlt : 3 < n
  · obtain ⟨b1, off1, rfl, hc⟩ := h4 (by omega)
    have hN : Nums .u64 w (.slice (some ⟨b1, off1, none⟩) 3 c) 3 f := ⟨_, _, rfl, by omega, by unfold LIM; omega, fun _ => ⟨_, _, rfl, hc.mono (by omega)⟩⟩
    have hi : (n : Int) > 3 := by omega
    rw [show min n 3 = 3 by omega]
    by_cases klt : 3 < m
    · obtain ⟨b2, off2, rfl, kc⟩ := k4 (by omega)
      have kN : Nums .u64 w (.slice (some ⟨b2, off2, none⟩) 3 d) 3 g := ⟨_, _, rfl, by omega, by unfold LIM; omega, fun _ => ⟨_, _, rfl, kc.mono (by omega)⟩⟩
      have ki : (m : Int) > 3 := by omega
      rw [show min m 3 = 3 by omega]
      go_enter Tryz.func10, Tryz.ntmps10
      go_wp2
      refine bodyPost_ret (v := .agg #[.bool p, .slice (some ⟨b1, off1, none⟩) 3 c, .slice (some ⟨b2, off2, none⟩) 3 d]) (by simp [results, go_sem]) rfl ?_
      exact ⟨_, _, _, _, rfl, hN.below (hA _ _), fun i hi => hu i (by omega), kN.below (hA _ _), fun i hi => ku i (by omega), hA _ _⟩
    · have kN : Nums .u64 w (.slice bo m d) m g := ⟨_, _, rfl, knc, by unfold LIM; omega, k4⟩
      have ki : ¬ (m : Int) > 3 := by omega
      rw [show min m 3 = m by omega]
      go_enter Tryz.func10, Tryz.ntmps10
      go_wp2
      refine bodyPost_ret (v := .agg #[.bool p, .slice (some ⟨b1, off1, none⟩) 3 c, .slice bo m d]) (by simp [results, go_sem]) rfl ?_
      exact ⟨_, _, _, _, rfl, hN.below (hA _ _), fun i hi => hu i (by omega), kN.below (hA _ _), fun i hi => ku i (by omega), hA _ _⟩
  · have hN : Nums .u64 w (.slice ao n c) n f := ⟨_, _, rfl, hnc, by unfold LIM; omega, h4⟩
    have hi : ¬ (n : Int) > 3 := by omega
    rw [show min n 3 = n by omega]
    by_cases klt : 3 < m
    · obtain ⟨b2, off2, rfl, kc⟩ := k4 (by omega)
      have kN : Nums .u64 w (.slice (some ⟨b2, off2, none⟩) 3 d) 3 g := ⟨_, _, rfl, by omega, by unfold LIM; omega, fun _ => ⟨_, _, rfl, kc.mono (by omega)⟩⟩
      have ki : (m : Int) > 3 := by omega
      rw [show min m 3 = 3 by omega]
      go_enter Tryz.func10, Tryz.ntmps10
      go_wp2
      refine bodyPost_ret (v := .agg #[.bool p, .slice ao n c, .slice (some ⟨b2, off2, none⟩) 3 d]) (by simp [results, go_sem]) rfl ?_
      exact ⟨_, _, _, _, rfl, hN.below (hA _ _), fun i hi => hu i (by omega), kN.below (hA _ _), fun i hi => ku i (by omega), hA _ _⟩
    · have kN : Nums .u64 w (.slice bo m d) m g := ⟨_, _, rfl, knc, by unfold LIM; omega, k4⟩
      have ki : ¬ (m : Int) > 3 := by omega
      rw [show min m 3 = m by omega]
      go_enter Tryz.func10, Tryz.ntmps10
      go_wp2
      refine bodyPost_ret (v := .agg #[.bool p, .slice ao n c, .slice bo m d]) (by simp [results, go_sem]) rfl ?_
      exact ⟨_, _, _, _, rfl, hN.below (hA _ _), fun i hi => hu i (by omega), kN.below (hA _ _), fun i hi => ku i (by omega), hA _ _⟩

theorem ten9 (k : Nat) : 10 ^ k < W32 ^ (k / 9 + 1) := by
  have h1 : 10 ^ k = (10 ^ 9) ^ (k / 9) * 10 ^ (k % 9) := by rw [← Nat.pow_mul, ← Nat.pow_add]; congr 1; omega
  have h2 : (10 ^ 9) ^ (k / 9) ≤ W32 ^ (k / 9) := Nat.pow_le_pow_left (by decide) _
  have h3 : 10 ^ (k % 9) < W32 := Nat.lt_of_le_of_lt (Nat.pow_le_pow_right (by decide) (show k % 9 ≤ 8 by omega)) (by decide)
  have h4 : 0 < W32 ^ (k / 9) := Nat.pow_pos (by decide)
  rw [h1, Nat.pow_succ]
  exact Nat.lt_of_le_of_lt (Nat.mul_le_mul_right _ h2) (Nat.mul_lt_mul_of_pos_left h3 h4)
theorem nl9 {x k : Nat} (h : x ≤ 10 ^ k) : nl W32 x ≤ k / 9 + 1 := nl_le W32 _ _ (by decide) (Nat.lt_of_le_of_lt h (ten9 k))
theorem nval_le (s : ByteArray) : nval s ≤ 10 ^ s.size - 1 := by
  unfold nval
  split
  · rename_i h
    simp only [digitsB, decide_eq_true_eq] at h
    have := dval_lt s s.size h.2
    omega
  · omega
theorem pp9 (s : ByteArray) (hs : s.size ≤ 600) : nl W32 (ppOf s).2.1 ≤ 200 ∧ nl W32 (ppOf s).2.2 ≤ 200 := by
  have key : ∀ A C : ByteArray, A.size ≤ 600 → C.size ≤ 600 → nl W32 (nval A) ≤ 200 ∧ nl W32 (nval C) ≤ 200 ∧ nl W32 (nval A * 10 ^ C.size + nval C) ≤ 200 ∧ nl W32 (10 ^ C.size) ≤ 200 := fun A C h1 h2 => by
    have n1 := nval_le A
    have n2 := nval_le C
    have p1 : 0 < 10 ^ A.size := Nat.pow_pos (by decide)
    have p2 : 0 < 10 ^ C.size := Nat.pow_pos (by decide)
    have m1 : nl W32 (nval A) ≤ A.size / 9 + 1 := nl9 (by omega)
    have m2 : nl W32 (nval C) ≤ C.size / 9 + 1 := nl9 (by omega)
    have m3 : nl W32 (10 ^ C.size) ≤ C.size / 9 + 1 := nl9 (Nat.le_refl _)
    have m4 : nl W32 (nval A * 10 ^ C.size + nval C) ≤ (A.size + C.size) / 9 + 1 := by
      apply nl9
      have h3 : nval A * 10 ^ C.size ≤ (10 ^ A.size - 1) * 10 ^ C.size := Nat.mul_le_mul_right _ n1
      rw [Nat.sub_mul, Nat.one_mul, ← Nat.pow_add] at h3
      have h4 : 10 ^ C.size ≤ 10 ^ (A.size + C.size) := Nat.pow_le_pow_right (by decide) (by omega)
      omega
    exact ⟨by omega, by omega, by omega, by omega⟩
  unfold ppOf
  have e1 := ext_le s 0 (firstAt s 47).toNat
  have e2 := ext_le s ((firstAt s 47).toNat + 1) s.size
  have e3 := ext_le s 0 (firstAt s 46).toNat
  have e4 := ext_le s ((firstAt s 46).toNat + 1) s.size
  split
  · have := key _ _ (Nat.le_trans e1 hs) (Nat.le_trans e2 hs); exact ⟨this.1, this.2.1⟩
  · split
    · have := key _ _ (Nat.le_trans e3 hs) (Nat.le_trans e4 hs); exact ⟨this.2.2.1, this.2.2.2⟩
    · have := key _ _ hs hs; exact ⟨this.1, Nat.le_trans nlw_one (by omega)⟩
theorem short9 (s : ByteArray) (hs : s.size ≤ 600) : qsz (qval s) ≤ 200 := by
  have h := pp9 (pdig s) (by have := pdig_size s; omega)
  unfold qval
  exact nl_num_mkRat _ _ 200 (by rw [zof_abs]; exact h.1) h.2 (by omega)
theorem cerr_miss {s : ByteArray} (h : ¬ cerr s = 0) : (cval s).miss = false := by
  unfold cerr at h
  unfold cval
  split
  · rename_i h2; rw [if_pos h2] at h; exact absurd rfl h
  · rfl
theorem grown_sets3 (w : World) (R i j k : Nat) (x y z : Value) : w.grownBy (((w.setCell ⟨R, i, none⟩ x).setCell ⟨R, j, none⟩ y).setCell ⟨R, k, none⟩ z) (some R) :=
  ⟨rfl, rfl, rfl, by simp, fun q _ hq => by
    have h : ∀ (W : World) (o : Nat) (u : Value), (W.setCell ⟨R, o, none⟩ u).heap[q]? = W.heap[q]? := fun W o u => Below.heap_setCell _ _ _ _ (fun e => hq (by rw [e]))
    rw [h, h, h]⟩
theorem V4.kept9 {w w' : World} {R R' : Nat} {x y z u : Value} (h : V4 w R x y z u) (hg : w.grownBy w' (some R')) (hne : R ≠ R') : V4 w' R x y z u := by
  have hb := hg.block R h.lt (fun e => hne (by injection e))
  obtain ⟨⟨h1, h2, h3, h4, h5, h6⟩, h7, h8⟩ := h
  exact ⟨⟨(World.cell?_of_block (w := w) (a := ⟨R, 0, none⟩) hb).trans h1, (World.cell?_of_block (w := w) (a := ⟨R, 1, none⟩) hb).trans h2, (World.cell?_of_block (w := w) (a := ⟨R, 2, none⟩) hb).trans h3, (World.frozen?_of_block (w := w) (a := ⟨R, 0, none⟩) hb).trans h4, (World.frozen?_of_block (w := w) (a := ⟨R, 1, none⟩) hb).trans h5, (World.frozen?_of_block (w := w) (a := ⟨R, 2, none⟩) hb).trans h6⟩, (World.cell?_of_block (w := w) (a := ⟨R, 3, none⟩) hb).trans h7, (World.frozen?_of_block (w := w) (a := ⟨R, 3, none⟩) hb).trans h8⟩
/-- An entry's number is set. -/
theorem V4.num9 {w : World} {R : Nat} {x y z u : Value} (h : V4 w R x y z u) (y' z' u' : Value) : V4 (((w.setCell ⟨R, 1, none⟩ y').setCell ⟨R, 2, none⟩ z').setCell ⟨R, 3, none⟩ u') R x y' z' u' := by
  obtain ⟨⟨h1, h2, h3, h4, h5, h6⟩, h7, h8⟩ := h
  exact ⟨⟨cell_set_by (cell_set_by (cell_set_by h1 (by omega)) (by omega)) (by omega), cell_set_by (cell_set_by (cell_set_at h2) (by omega)) (by omega), cell_set_by (cell_set_at (cell_set_by h3 (by omega))) (by omega), by simp [h4], by simp [h5], by simp [h6]⟩, cell_set_at (cell_set_by (cell_set_by h7 (by omega)) (by omega)), by simp [h8]⟩
theorem V4.keep9 {w : World} {R : Nat} {x : Value} {p : Bool} {a b : Option Addr} {n c m d : Nat} (h : V4 w R x (.bool p) (.slice a n c) (.slice b m d)) (y' z' u' : Value) : KeepQ IsLimb w (((w.setCell ⟨R, 1, none⟩ y').setCell ⟨R, 2, none⟩ z').setCell ⟨R, 3, none⟩ u') :=
  ((keepL_set h.1.2.1 (limb_bool _) _).trans (keepL_set (cell_set_by h.1.2.2.1 (by omega)) (limb_slice _ _ _) _)).trans (keepL_set (cell_set_by (cell_set_by h.2.1 (by omega)) (by omega)) (limb_slice _ _ _) _)

/-- Parse, whatever comes in. -/
theorem qparsex_at (s : ByteArray) (L : Nat) (w : World) (hs : s.size ≤ 9000) (ht : Tab w) (hq : qsz (qval s) ≤ L) :
    Calls Tryz.prog 28 #[.string s] w fun e w' => ∃ p a n c b m d, e = .returned (.tuple #[.agg #[.bool p, .slice a n c, .slice b m d], .int .i64 (qerr s)]) ∧ RatAt w' (.agg #[.bool p, .slice a n c, .slice b m d]) (if qerr s = 0 then qval s else 0) L ∧ (¬ qerr s = 0 → m = 0) ∧ Below w.heap.size w w' := by
  by_cases h1 : (ppOf (pdig s)).1 = 0
  · by_cases h2 : (ppOf (pdig s)).2.2 = 0
    · have he : qerr s = 2 := by unfold qerr; rw [if_pos h1, if_pos h2]
      refine (qparse_zero s w hs ht h1 h2).mono ?_
      rintro e w' ⟨rfl, hb⟩
      rw [he]
      exact ⟨_, _, _, _, _, _, _, rfl, RatAt.nil _ _, fun _ => rfl, hb⟩
    · have he : qerr s = 0 := by unfold qerr; rw [if_pos h1, if_neg h2]
      refine (qparse_yes s w hs ht h1 h2).mono ?_
      rintro e w' ⟨r, rfl, hr, hb⟩
      obtain ⟨p, a, n, c, b, m, d, rfl⟩ := hr.open
      rw [he]
      exact ⟨_, _, _, _, _, _, _, rfl, hr.at L hq, fun h => absurd rfl h, hb⟩
  · have h4 : (ppOf (pdig s)).1 = 4 := by rcases pp_err (pdig s) with h | h
                                          · exact absurd h h1
                                          · exact h
    have he : qerr s = 4 := by unfold qerr; rw [if_neg h1, h4]
    refine (qparse_form s w hs ht h4).mono ?_
    rintro e w' ⟨rfl, hb⟩
    rw [he]
    exact ⟨_, _, _, _, _, _, _, rfl, RatAt.nil _ _, fun _ => rfl, hb⟩
def CellOutX (s : ByteArray) (L : Nat) (w : World) (e : Ending) (w' : World) : Prop := ∃ p a n c b m d, e = .returned (.tuple #[.agg #[.bool (cval s).miss, .bool p, .slice a n c, .slice b m d], .int .i64 (cerr s)]) ∧ RatAt w' (.agg #[.bool p, .slice a n c, .slice b m d]) (cval s).val L ∧ (¬ cerr s = 0 → m = 0) ∧ Below w.heap.size w w'

set_option maxRecDepth 20000 in
set_option maxHeartbeats 2000000 in
theorem rcellx_at (s : ByteArray) (L : Nat) (w : World) (hs : s.size ≤ 9000) (ht : Tab w) (hq : qsz (qval s) ≤ L) :
    Calls Tryz.prog 8 #[.string s] w fun e w' => CellOutX s L w e w' := by
  cases hQ : (s.toList == [63])
  case true =>
    have HQ : Hid (isQ s = true) := hQ
    go_enter Tryz.func8, Tryz.ntmps8
    go_wp2
    refine bodyPost_ret (v := .tuple #[.agg #[.bool true, .bool false, .slice none 0 0, .slice none 0 0], .int .i64 0]) (by simp [results, go_sem]) rfl ?_
    have h1 : cval s = ⟨true, 0⟩ := by unfold cval; rw [if_pos HQ.out]
    have h2 : cerr s = 0 := by unfold cerr; rw [if_pos HQ.out]
    exact ⟨false, none, 0, 0, none, 0, 0, by rw [h1, h2], by rw [h1]; exact RatAt.nil _ _, fun _ => rfl, (Below.refl _ _).alloc (Nat.le_refl _) _⟩
  case false =>
    have HQ : Hid (isQ s = false) := hQ
    obtain ⟨W0, hW0, hS0, hL0, VR⟩ := V4.lay w 29 (.bool false) (.bool false) (.slice none 0 0) (.slice none 0 0)
    go_enter Tryz.func8, Tryz.ntmps8
    go_wp2_with fail
    rw [← hW0]
    clear hW0 hS0
    refine (qparsex_at s L _ hs (ht.below hL0) hq).mono ?_
    rintro e w1 ⟨p, a, n, c, b, m, d, rfl, hr, hm0, b1⟩
    have HM0 : Hid (¬ qerr s = 0 → m = 0) := hm0
    clear hm0
    have VR1 := VR.below b1
    have BB := hL0.trans (b1.mono hL0.size)
    have KK : KeepQ IsLimb w1 ((((w1.setCell ⟨w.heap.size, 0, none⟩ (.bool false)).setCell ⟨w.heap.size, 1, none⟩ (.bool p)).setCell ⟨w.heap.size, 2, none⟩ (.slice a n c)).setCell ⟨w.heap.size, 3, none⟩ (.slice b m d)) :=
      (((keepL_set VR1.1.1 (limb_bool _) _).trans (keepL_set (cell_set_by VR1.1.2.1 (by omega)) (limb_bool _) _)).trans (keepL_set (cell_set_by (cell_set_by VR1.1.2.2.1 (by omega)) (by omega)) (limb_slice _ _ _) _)).trans (keepL_set (cell_set_by (cell_set_by (cell_set_by VR1.2.1 (by omega)) (by omega)) (by omega)) (limb_slice _ _ _) _)
    have hA : Below w1.heap.size ((((w1.setCell ⟨w.heap.size, 0, none⟩ (.bool false)).setCell ⟨w.heap.size, 1, none⟩ (.bool p)).setCell ⟨w.heap.size, 2, none⟩ (.slice a n c)).setCell ⟨w.heap.size, 3, none⟩ (.slice b m d)) (((((w1.setCell ⟨w.heap.size, 0, none⟩ (.bool false)).setCell ⟨w.heap.size, 1, none⟩ (.bool p)).setCell ⟨w.heap.size, 2, none⟩ (.slice a n c)).setCell ⟨w.heap.size, 3, none⟩ (.slice b m d)).alloc (.cells #[.bool p, .slice a n c, .slice b m d] 27)) := (Below.refl _ _).alloc (by simp) _
    have hr3 := (hr.keepL KK).below (hA.mono (by simp))
    have BB3 := (below_store4 (R := w.heap.size) BB (Nat.le_refl _) (.bool false) (.bool p) (.slice a n c) (.slice b m d)).trans (hA.mono BB.size)
    have VR3 := (VR1.same (.bool false) (.bool p) (.slice a n c) (.slice b m d)).below (hA.mono (by simp))
    obtain ⟨⟨q1, q2, q3, q4, q5, q6⟩, q7, q8⟩ := id VR3
    obtain ⟨⟨y1, y2, y3, y4, y5, y6⟩, y7, y8⟩ := id VR1
    have hlt : w.heap.size < w1.heap.size := VR1.lt
    have HE : Hid (cerr s = qerr s ∧ cval s = ⟨false, if qerr s = 0 then qval s else 0⟩) := ⟨by unfold cerr; rw [if_neg (by rw [HQ.out]; simp)], by unfold cval; rw [if_neg (by rw [HQ.out]; simp)]⟩
    have HOUT : Hid (∀ e9 w9, e9 = .returned (.tuple #[.agg #[.bool false, .bool p, .slice a n c, .slice b m d], .int .i64 (qerr s)]) → RatAt w9 (.agg #[.bool p, .slice a n c, .slice b m d]) (if qerr s = 0 then qval s else 0) L → Below w.heap.size w w9 → CellOutX s L w e9 w9) := fun e9 w9 h1 h2 h3 => by
      have h9 := HE.out
      refine ⟨p, a, n, c, b, m, d, ?_, ?_, ?_, h3⟩
      · rw [h9.1, h9.2]; exact h1
      · rw [h9.2]; exact h2
      · rw [h9.1]; exact HM0.out
    generalize qerr s = er at *
    clear KK hA VR VR1 hr b1 BB hL0
    go_wp2
    (try simp only [Exit.inBlock, Exit.then])
    refine bodyPost_ret (v := .tuple #[.agg #[.bool false, .bool p, .slice a n c, .slice b m d], .int .i64 er]) (by simp [results, go_sem, q1, q2, q3, q7]) rfl ?_
    exact HOUT.out _ _ rfl hr3 BB3


/-- An entry's word. -/
def ctxt (d : Cl) : ByteArray := if d.miss = true then { data := #[63] } else qtxt d.val
theorem qtxt_err (q : Rat) : qerr (qtxt q) = 0 := by
  unfold qerr
  rw [qtxt_pp]
  have := q.den_nz
  simp [this]
theorem not_Q {s : ByteArray} (h : qerr s = 0) : isQ s = false := by
  cases e : isQ s
  · rfl
  · have e1 : s.toList = [63] := by simpa [isQ] using e
    have e2 : s = { data := #[63] } := by
      apply ByteArray.ext
      rw [Lib.toList_data] at e1
      exact Array.toList_inj.1 (by rw [e1])
    rw [e2] at h
    exact absurd h (by decide +kernel)
theorem ctxt_err (d : Cl) : cerr (ctxt d) = 0 := by
  unfold ctxt
  split
  · decide +kernel
  · unfold cerr
    rw [if_neg (by rw [not_Q (qtxt_err _)]; simp)]
    exact qtxt_err _
theorem ctxt_val (d : Cl) (h : d.miss = true → d.val = d.val) : (cval (ctxt d)).miss = d.miss ∧ (d.miss = false → (cval (ctxt d)).val = d.val) := by
  unfold ctxt
  cases e : d.miss
  · rw [if_neg (by simp)]
    unfold cval
    rw [if_neg (by rw [not_Q (qtxt_err _)]; simp), if_pos (qtxt_err _)]
    exact ⟨rfl, fun _ => qtxt_val _⟩
  · rw [if_pos rfl]
    exact ⟨by decide +kernel, fun h => by cases h⟩
theorem ctxt_size (d : Cl) (L : Nat) (h : qsz d.val ≤ L) : (ctxt d).size ≤ 20 * L + 10 := by
  unfold ctxt
  split
  · show 1 ≤ _; omega
  · exact qtxt_size _ _ h

set_option maxRecDepth 20000 in
set_option maxHeartbeats 2000000 in
theorem rprint9_at (ms p : Bool) (a b : Option Addr) (n c m d : Nat) (q : Rat) (L : Nat) (w : World) (hv : RatAt w (.agg #[.bool p, .slice a n c, .slice b m d]) q L) (hL : 1 ≤ L) (hM : L ≤ 9000) (ht : Tab w) :
    Calls Tryz.prog 13 #[.agg #[.bool ms, .bool p, .slice a n c, .slice b m d]] w fun e w' => e = .returned (.string (ctxt ⟨ms, q⟩)) ∧ Below w.heap.size w w' := by
  have hA : Below w.heap.size w (w.alloc (.cells #[.bool ms, .bool p, .slice a n c, .slice b m d] 29)) := (Below.refl _ _).alloc (Nat.le_refl _) _
  cases ms
  case true =>
    go_enter Tryz.func13, Tryz.ntmps13
    go_wp2
    go_ret
    exact ⟨rfl, hA⟩
  case false =>
    have HT : Hid (ctxt ⟨false, q⟩ = qtxt q) := rfl
    go_enter Tryz.func13, Tryz.ntmps13
    go_wp2_with fail
    refine (qprint_at _ q L _ (hv.below hA) hL hM (ht.below hA)).mono ?_
    rintro e w1 ⟨rfl, b1⟩
    have BB := hA.trans (b1.mono hA.size)
    clear hA b1
    generalize hqt : qtxt q = qt
    have HQT : Hid (qtxt q = qt) := hqt
    clear hqt
    go_wp2
    go_ret
    exact ⟨by rw [HT.out, HQT.out]; rfl, BB⟩

end Go.Proofs.YtianfjidbeineaaGreatDoor
