/-
  Texts of mine.
-/
import Derived.Test.YtbelnhpjhpoacaaDoorJ27cbe186c9
import Derived.ProofKit
import Derived.OpenShut
import Derived.Below
import Derived.Laws.AppendOwnNone
namespace Go.Proofs.YtbelnhpjhpoacaaDoor
open Go.RowKit

/-- Limbs as they come in, of whatever length. -/
def Raw (w : World) (v : Value) (n : Nat) (f : Nat → Int) : Prop :=
  ∃ ao c, v = .slice ao n c ∧ (ao = none → c = 0) ∧ n ≤ c ∧ c ≤ maxLen ∧ U64 n f ∧ (0 < n → ∃ b off, ao = some ⟨b, off, none⟩ ∧ Cells w .u64 b off n f)

theorem raw_nil (w : World) : Raw w (.slice none 0 0) 0 (fun _ => 0) := ⟨_, _, rfl, fun _ => rfl, Nat.le_refl _, by unfold maxLen; omega, fun i hi => by omega, fun h => by omega⟩
theorem raw_row (w : World) (x : Addr) (len cap : Nat) (zs : List Int) (hl : len ≤ cap) (hm : cap ≤ maxLen) (hz : zs.length = cap)
    (hcell : ∀ i, i < zs.length → w.cell? (x.add i) = some (.int .u64 (zs.getD i 0))) (hw : ∀ n ∈ zs, (Lit.int .u64 n).wf = true) : Raw w (.slice (some x) len cap) len (fun i => zs.getD i 0) := by
  refine ⟨_, _, rfl, fun h => by (cases h), hl, hm, fun i hi => ?_, fun h0 => ?_⟩
  · have hi' : i < zs.length := by omega
    have hmem : zs.getD i 0 ∈ zs := by rw [List.getD_eq_getElem?_getD, List.getElem?_eq_getElem hi']; exact List.getElem_mem hi'
    have := bounds_u64 (hw _ hmem); show 0 ≤ zs.getD i 0 ∧ zs.getD i 0 < 18446744073709551616; omega
  · obtain ⟨b, off, spot⟩ := x
    have hc := hcell 0 (by omega)
    have hspot : spot = none := by simpa [Addr.add] using World.cell?_spot hc
    subst hspot
    refine ⟨b, off, rfl, fun i hi => ?_⟩
    have := hcell i (by omega)
    have e : (⟨b, off, none⟩ : Addr).add i = ⟨b, off + i, none⟩ := by unfold Addr.add; split <;> simp_all
    rw [e] at this; exact this

/-- A slice without an address has no room. -/
def NilOk (v : Value) : Prop := ∀ n c, v = .slice none n c → c = 0
end Go.Proofs.YtbelnhpjhpoacaaDoor
