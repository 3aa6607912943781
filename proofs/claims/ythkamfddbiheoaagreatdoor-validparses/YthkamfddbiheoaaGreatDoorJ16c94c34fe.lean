/-
  Texts of mine.
-/
import Derived.Test.YthkamfddbiheoaaGreatDoorJ09f99f9e08
import Derived.Laws.OwnMore
import Derived.Deep.QuietTactic
import Derived.BigQuiet
namespace Go.Proofs.YthkamfddbiheoaaGreatDoor
open Go.RowKit
set_option linter.unusedVariables false
set_option linter.unusedSimpArgs false

/-- The cells of the i-th of some words. -/
theorem TOwn.at {B : Nat} {w : World} {g n cap : Nat} {l : List Tok} (h : w.ownsRow B 95 3 (.slice (some ⟨g, 0, none⟩) n cap) n (flatT l)) {i : Nat} {t : Tok} (ht : l[i]? = some t) :
  w.cell? ⟨g, i * 3, none⟩ = some (.int .i64 (t.1 : Int)) ∧ w.cell? ⟨g, i * 3 + 1, none⟩ = some (.int .i64 (t.2.1 : Int)) ∧ w.cell? ⟨g, i * 3 + 2, none⟩ = some (.string t.2.2) :=
 ⟨owns_cell h (by have := flatT_at l i t ht 0 (by omega); simpa [cellsT] using this), owns_cell h (by have := flatT_at l i t ht 1 (by omega); simpa [cellsT] using this), owns_cell h (by have := flatT_at l i t ht 2 (by omega); simpa [cellsT] using this)⟩

/-- How far the law has come at byte k, with the words l, the last of which is open or not. -/
def Along (s : ByteArray) (k : Nat) (l : List (Nat × Nat)) (op : Bool) : Prop :=
 (op = false ∧ scan s 0 [] = scan s k l) ∨ (op = true ∧ ∃ l0 a, l = l0 ++ [(a, k)] ∧ a ≤ k ∧ scan s 0 [] = scan s (wEnd s k) (l0 ++ [(a, wEnd s k)]))
theorem Along.out {s : ByteArray} {k : Nat} {l : List (Nat × Nat)} {op : Bool} (h : Along s k l op) (hw : ¬ (k < s.size ∧ inW (bt s k) = true)) : scan s 0 [] = scan s k l := by
 rcases h with ⟨_, h⟩ | ⟨_, l0, a, rfl, _, h⟩
 ·exact h
 ·rw [wEnd_out hw] at h; exact h
theorem set_last (l : List Tok) (t u : Tok) (h : u = (t.1, t.2.1, u.2.2)) : (flatT (l ++ [t])).set (l.length * 3 + 2) (.string u.2.2) = flatT (l ++ [u]) := by
 rw [flatT_append, flatT_append, flatT_one, flatT_one, List.set_append_right _ _ (by rw [flatT_length]; omega), flatT_length]
 congr 1
 rw [show l.length * 3 + 2 - l.length * 3 = 2 by omega]
 rw [h]
 simp [cellsT]
theorem TOwn.grow {B : Nat} {w : World} {g c : Nat} {s : ByteArray} {l0 : List (Nat × Nat)} {a k : Nat} (h : w.ownsRow B 95 3 (.slice (some ⟨g, 0, none⟩) (l0.length + 1) c) (l0.length + 1) (flatT (toks s 0 0 l0 ++ [(0 + a, 0, s.extract a k)]))) :
  TOwn B (w.setCell ⟨g, l0.length * 3 + 2, none⟩ (.string (s.extract a (k + 1)))).drew (.slice (some ⟨g, 0, none⟩) (l0.length + 1) c) (toks s 0 0 (l0 ++ [(a, k + 1)])) := by
 have h1 := (h.stored (l0.length * 3 + 2) (.string (s.extract a (k + 1)))).1
 have h2 := set_last (toks s 0 0 l0) (0 + a, 0, s.extract a k) (0 + a, 0, s.extract a (k + 1)) rfl
 rw [toks_length] at h2
 rw [h2] at h1
 have h3 := owns_later h1 (Below.refl _ _).drew
 unfold TOwn
 rw [toks_length, toks_append, List.length_append]
 exact h3

end Go.Proofs.YthkamfddbiheoaaGreatDoor
