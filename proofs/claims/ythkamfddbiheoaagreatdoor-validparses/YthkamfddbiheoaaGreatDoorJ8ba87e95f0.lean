/-
  Texts of mine.
-/
import Derived.Test.YthkamfddbiheoaaGreatDoorJb511855696
import Derived.Deep.Cut
namespace Go.Proofs.YthkamfddbiheoaaGreatDoor
open Go.RowKit

theorem Raw.below {w w' : World} {v : Value} {n : Nat} {f : Nat → Int} (h : Raw w v n f) (hb : Below w.heap.size w w') : Raw w' v n f := by
 obtain ⟨ao, c, h1, h2, h3, h4, h5, h6⟩ := h
 exact ⟨ao, c, h1, h2, h3, h4, h5, fun hn => let ⟨b, off, e, hc⟩ := h6 hn; ⟨b, off, e, hc.below hb (hc.lt hn)⟩⟩
theorem Raw.store2 {w : World} {v : Value} {n : Nat} {f : Nat → Int} (h : Raw w v n f) {R m c : Nat} {p : Bool} {ao : Option Addr} (q1 : w.cell? ⟨R, 0, none⟩ = some (.bool p)) (q2 : w.cell? ⟨R, 1, none⟩ = some (.slice ao m c)) (x y : Value) :
  Raw ((w.setCell ⟨R, 0, none⟩ x).setCell ⟨R, 1, none⟩ y) v n f := by
 obtain ⟨bo, d, h1, h2, h3, h4, h5, h6⟩ := h
 refine ⟨bo, d, h1, h2, h3, h4, h5, fun hn => ?_⟩
 obtain ⟨b, off, e, hc⟩ := h6 hn
 refine ⟨b, off, e, fun i hi => ?_⟩
 have hi' := hc i hi
 rw [World.cell?_setCell_other _ _ _ _ (fun e' => by rw [← e', q2] at hi'; cases hi'), World.cell?_setCell_other _ _ _ _ (fun e' => by rw [← e', q1] at hi'; cases hi')]
 exact hi'

/-- A variable for a struct of two cells that may be written, set. -/
theorem put2_same {w : World} {R : Nat} {x y x' y' : Value} (h : w.cell? ⟨R, 0, none⟩ = some x ∧ w.cell? ⟨R, 1, none⟩ = some y ∧ w.frozen? ⟨R, 0, none⟩ = false ∧ w.frozen? ⟨R, 1, none⟩ = false) :
  ((w.setCell ⟨R, 0, none⟩ x').setCell ⟨R, 1, none⟩ y').cell? ⟨R, 0, none⟩ = some x' ∧ ((w.setCell ⟨R, 0, none⟩ x').setCell ⟨R, 1, none⟩ y').cell? ⟨R, 1, none⟩ = some y' ∧
  ((w.setCell ⟨R, 0, none⟩ x').setCell ⟨R, 1, none⟩ y').frozen? ⟨R, 0, none⟩ = false ∧ ((w.setCell ⟨R, 0, none⟩ x').setCell ⟨R, 1, none⟩ y').frozen? ⟨R, 1, none⟩ = false := by
 obtain ⟨h1, h2, h3, h4⟩ := h
 refine ⟨?_, ?_, by simp [h3], by simp [h4]⟩
 ·rw [World.cell?_setCell_other _ _ _ _ (fun e => by injection e; omega)]; exact World.cell?_setCell_same _ _ _ h1
 ·exact World.cell?_setCell_same _ _ _ (show (w.setCell ⟨R, 0, none⟩ x').cell? ⟨R, 1, none⟩ = some y by rw [World.cell?_setCell_other _ _ _ _ (fun e => by injection e; omega)]; exact h2)
theorem put2_other {w : World} {R R' : Nat} {x y x' y' : Value} (hne : R' ≠ R) (h : w.cell? ⟨R', 0, none⟩ = some x ∧ w.cell? ⟨R', 1, none⟩ = some y ∧ w.frozen? ⟨R', 0, none⟩ = false ∧ w.frozen? ⟨R', 1, none⟩ = false) :
  ((w.setCell ⟨R, 0, none⟩ x').setCell ⟨R, 1, none⟩ y').cell? ⟨R', 0, none⟩ = some x ∧ ((w.setCell ⟨R, 0, none⟩ x').setCell ⟨R, 1, none⟩ y').cell? ⟨R', 1, none⟩ = some y ∧
  ((w.setCell ⟨R, 0, none⟩ x').setCell ⟨R, 1, none⟩ y').frozen? ⟨R', 0, none⟩ = false ∧ ((w.setCell ⟨R, 0, none⟩ x').setCell ⟨R, 1, none⟩ y').frozen? ⟨R', 1, none⟩ = false := by
 obtain ⟨h1, h2, h3, h4⟩ := h
 refine ⟨?_, ?_, by simp [h3], by simp [h4]⟩
 ·rw [World.cell?_setCell_other _ _ _ _ (fun e => by injection e; omega), World.cell?_setCell_other _ _ _ _ (fun e => by injection e; omega)]; exact h1
 ·rw [World.cell?_setCell_other _ _ _ _ (fun e => by injection e; omega), World.cell?_setCell_other _ _ _ _ (fun e => by injection e; omega)]; exact h2

/-- Two numbers that came in and what they are to the document, in a world behind wb. -/
structure Four (B : Nat) (wb : World) (va vb vx vy : Value) (x y : Int) (L : Nat) (w : World) : Prop where
 bel : Below B wb w
 a : IntAt w va x L
 b : IntAt w vb y L
 jx : RepJ w vx x
 jy : RepJ w vy y
theorem Four.next {B : Nat} {wb : World} {va vb vx vy : Value} {x y : Int} {L : Nat} {w w' : World} (h : Four B wb va vb vx vy x y L w) (hB : B ≤ w.heap.size) (hb : Below w.heap.size w w') : Four B wb va vb vx vy x y L w' :=
 ⟨h.bel.trans (hb.mono hB), h.a.below hb, h.b.below hb, h.jx.below hb, h.jy.below hb⟩
theorem IntAt.nl {w : World} {v : Value} {z : Int} {L : Nat} (h : IntAt w v z L) : nl W32 z.natAbs ≤ L := by
 obtain ⟨neg, ao, n, c, f, _, _, _, rfl, hn⟩ := h
 rw [zof_abs]
 exact Nat.le_trans (nl_le W32 _ n (by decide) (num_lt f n)) hn
theorem abs_lt_pow {z : Int} {a : Nat} (h : nl W32 z.natAbs ≤ a) : z.natAbs < W32 ^ a :=
 Nat.lt_of_lt_of_le (lt_pow_nl W32 _ (by decide)) (Nat.pow_le_pow_right (by decide) h)
theorem nlz_add {x y : Int} {a b c : Nat} (hx : nl W32 x.natAbs ≤ a) (hy : nl W32 y.natAbs ≤ b) (h1 : a < c) (h2 : b < c) : nl W32 (x + y).natAbs ≤ c := by
 apply nl_le W32 _ _ (by decide)
 obtain ⟨c, rfl⟩ : ∃ k, c = k + 1 := ⟨c - 1, by omega⟩
 have h3 := Nat.lt_of_lt_of_le (abs_lt_pow hx) (Nat.pow_le_pow_right (n := W32) (by decide) (show a ≤ c by omega))
 have h4 := Nat.lt_of_lt_of_le (abs_lt_pow hy) (Nat.pow_le_pow_right (n := W32) (by decide) (show b ≤ c by omega))
 have h5 : W32 ^ (c + 1) = W32 ^ c * W32 := Nat.pow_succ _ _
 have h6 : W32 ^ c * 2 ≤ W32 ^ c * W32 := Nat.mul_le_mul_left _ (by decide)
 generalize W32 ^ c = P at *
 omega
theorem nlz_mul {x y : Int} {a b c : Nat} (hx : nl W32 x.natAbs ≤ a) (hy : nl W32 y.natAbs ≤ b) (h : a + b ≤ c) : nl W32 (x * y).natAbs ≤ c := by
 apply nl_le W32 _ _ (by decide)
 rw [Int.natAbs_mul]
 have h1 : x.natAbs * y.natAbs < W32 ^ a * W32 ^ b := Nat.mul_lt_mul'' (abs_lt_pow hx) (abs_lt_pow hy)
 rw [← Nat.pow_add] at h1
 exact Nat.lt_of_lt_of_le h1 (Nat.pow_le_pow_right (by decide) h)
end Go.Proofs.YthkamfddbiheoaaGreatDoor
