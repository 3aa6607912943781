/-
  Texts of mine.
-/
import Derived.Test.YtbelnhpjhpoacaaDoorJ685caa2344
import Derived.Test.YtbelnhpjhpoacaaDoorJa2989b6478
namespace Go.Proofs.YtbelnhpjhpoacaaDoor
open Go.RowKit
set_option linter.unusedVariables false
set_option linter.unusedSimpArgs false

/-- A line of texts. -/
def lnT (n : Nat) (f : Nat → ByteArray) : List UInt8 := lineT n f ++ [10]

set_option maxRecDepth 100000 in
set_option maxHeartbeats 4000000 in
theorem wline_at {B : Nat} {w : World} {b g n c : Nat} {l : List UInt8} {f : Nat → ByteArray} (h : Bld B w b l) (hs : StrC w g n f) (hf : ∀ i, i < n → (f i).size ≤ 100) (hn : n ≤ 10) (hc : n ≤ c) (hl : l.length ≤ 1000000) :
    Calls Tryd.prog 18 #[.pointer (some ⟨b, 0, none⟩), .slice (some ⟨g, 0, none⟩) n c] w fun e w' => e = .returned (.tuple #[]) ∧ Bld B w' b (l ++ lnT n f) ∧ Below B w w' := by
  have hz := lineT_len n 100 f hf
  have hz2 : n * (100 + 1) ≤ 10 * 101 := Nat.mul_le_mul hn (by omega)
  have HF : Hid (∀ i, i < n → (f i).size ≤ 100) := hf
  clear hf
  have hlt := h.lt
  go_enter Tryd.func18, Tryd.ntmps18
  go_wp2_with fail
  refine (join7_at hs 100 HF.out (by omega) hc (by omega)).mono ?_
  rintro e w1 ⟨rfl, b1⟩
  replace h := h.below b1
  have BB : Below B w w1 := b1.mono (by omega)
  clear b1 hs
  go_wp2_with fail
  refine (wstr_at _ h (by show _ + (lineT n f).toArray.size ≤ _; rw [List.size_toArray]; omega)).mono ?_
  rintro e w2 ⟨rfl, h2, b2⟩
  have BB2 := BB.trans b2
  clear h BB b2
  go_wp2_with fail
  refine (wbyte_at 10 h2 (by show (l ++ lineT n f).length + 1 ≤ _; rw [List.length_append]; omega)).mono ?_
  rintro e w3 ⟨rfl, h3, b3⟩
  have BB3 := BB2.trans b3
  have HT : Hid (Bld B w3 b (l ++ lnT n f) ∧ Below B w w3) := ⟨by rw [lnT, ← List.append_assoc]; exact h3, BB3⟩
  clear h2 BB2 b3 h3 BB3
  go_wp2_with fail
  go_end0
  exact ⟨rfl, HT.out⟩

end Go.Proofs.YtbelnhpjhpoacaaDoor
