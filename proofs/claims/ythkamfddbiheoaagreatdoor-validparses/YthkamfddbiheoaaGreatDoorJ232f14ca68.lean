/-
  Texts of mine.
-/
import Derived.Test.YthkamfddbiheoaaGreatDoorJ64a3c96c89
import Derived.Test.YthkamfddbiheoaaGreatDoorJafb2309149
import Derived.Deep.LoopGhost
import Derived.Deep.Cut
import Derived.Test.YthkamfddbiheoaaGreatDoorJ8f906ac881
import Derived.Test.YthkamfddbiheoaaGreatDoorJ029dc25d2b
namespace Go.Proofs.YthkamfddbiheoaaGreatDoor
open Go.RowKit
set_option linter.unusedVariables false
set_option linter.unusedSimpArgs false

/-- Two cells of a row. -/
def E2 (w : World) (b o : Nat) (x y : Value) : Prop := w.cell? ⟨b, o, none⟩ = some x ∧ w.cell? ⟨b, o + 1, none⟩ = some y
theorem E2.lt {w : World} {b o : Nat} {x y : Value} (h : E2 w b o x y) : b < w.heap.size := World.block_lt_of_cell? _ _ h.1
theorem E2.below {w w' : World} {b o : Nat} {x y : Value} (h : E2 w b o x y) (hb : Below w.heap.size w w') : E2 w' b o x y := ⟨(hb.cell h.lt).trans h.1, (hb.cell h.lt).trans h.2⟩
theorem E2.other {w : World} {R b o : Nat} {x y : Value} (h : E2 w b o x y) (hne : b ≠ R) (x' y' : Value) : E2 ((w.setCell ⟨R, 0, none⟩ x').setCell ⟨R, 1, none⟩ y') b o x y :=
 ⟨set_cell_block (set_cell_block h.1 hne) hne, set_cell_block (set_cell_block h.2 hne) hne⟩
theorem E2.other3 {w : World} {R b o : Nat} {x y : Value} (h : E2 w b o x y) (hne : b ≠ R) (x' y' z' : Value) : E2 (((w.setCell ⟨R, 0, none⟩ x').setCell ⟨R, 1, none⟩ y').setCell ⟨R, 2, none⟩ z') b o x y :=
 ⟨set_cell_block (set_cell_block (set_cell_block h.1 hne) hne) hne, set_cell_block (set_cell_block (set_cell_block h.2 hne) hne) hne⟩
/-- The i-th of a list of whole numbers. -/
theorem IRow.at {w : World} {v : Value} {n : Nat} {z : Nat → Int} {L : Nat} (h : IRow w v n z L) (i : Nat) (hi : i < n) :
  ∃ b off c p ao m d, v = .slice (some ⟨b, off, none⟩) n c ∧ n ≤ c ∧ E2 w b (off + i * 2) (.bool p) (.slice ao m d) ∧ IntAt w (.agg #[.bool p, .slice ao m d]) (z i) L := by
 obtain ⟨el, ⟨a, c, h1, h2, h3, h4⟩, h5⟩ := h
 obtain ⟨b, off, rfl, hc⟩ := h4 (by omega)
 have hz := h5 i hi
 obtain ⟨p, ao, m, d, he⟩ := hz.open
 have he' := he
 simp only [Value.agg.injEq, Array.mk.injEq, List.cons.injEq, and_true] at he'
 have c0 := hc i hi 0 (by omega)
 have c1 := hc i hi 1 (by omega)
 rw [he'.1] at c0
 rw [he'.2] at c1
 rw [he] at hz
 exact ⟨b, off, c, p, ao, m, d, h1, h2, ⟨c0, c1⟩, hz⟩



end Go.Proofs.YthkamfddbiheoaaGreatDoor

namespace Go.Proofs.YthkamfddbiheoaaGreatDoor
open Go.ChangeShapes Go.WideShapes Go.ChangeAt Go.RowKit
set_option linter.unusedVariables false

/-- Is the number above 0 digits long? -/
theorem DocQ.len {w : World} {p : Bool} {ao : Option Addr} {n c : Nat} {bo : Option Addr} {m d : Nat} {q : Rat} {L : Nat} (h : DocQ w (.agg #[.bool p, .slice ao n c, .slice bo m d]) q L) : n = 0 ↔ q = 0 := by
 obtain ⟨z, x, h1, rfl⟩ := h
 obtain ⟨hj, _, hx, _⟩ := h1.parts
 rw [mkRat_zero_iff z x hx]
 obtain ⟨ao', c', e, _⟩ := hj
 simp only [Value.agg.injEq, Array.mk.injEq, List.cons.injEq, Value.slice.injEq, and_true] at e
 rw [e.2.2.1, nl_eq_zero 10000 _ (by decide)]
 omega

end Go.Proofs.YthkamfddbiheoaaGreatDoor
