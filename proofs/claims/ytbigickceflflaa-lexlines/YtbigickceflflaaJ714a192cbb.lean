/-
  Texts of mine, joined: what lies beneath the statement.
-/
import Derived.Test.YtbigickceflflaaJ3f19cb3abf
import Derived.LoopN
namespace Go.Proofs.Ytbigickceflflaa
open Go.RowKit
set_option linter.unusedVariables false
set_option linter.unusedSimpArgs false

set_option maxRecDepth 20000 in
set_option maxHeartbeats 2000000 in
theorem same_q (B1 B2 : Nat) (v1 v2 : Value) (l : List Tok) (w : World) (h1 : TOwn B1 w v1 l) (h2 : TOwn B2 w v2 l) (hl : l.length ≤ 2000000) :
    Calls Try.prog 10 #[v1, v2] w fun e w' => e = .returned (.bool true) ∧ ∃ m, w' = w.drewN m := by
  obtain ⟨ao, c, rfl, o1⟩ := h1.open rfl
  obtain ⟨bo, d, rfl, o2⟩ := h2.open rfl
  go_enter Try.func10, Try.ntmps10
  go_wp2
  go_loopw [5] (fun t wr => ∃ k : Nat, k ≤ l.length ∧ t = .int .i64 (k : Int) ∧ ∃ m, wr = w.drewN m) (fun t _ => l.length - (intOf t).toNat)
  case atStart => exact ⟨0, by omega, rfl, 0, rfl⟩
  case round =>
    obtain ⟨k, hk, rfl, m, hwr⟩ := hrel
    by_cases hlt : k < l.length
    · have hlti : (k : Int) < (l.length : Int) := by omega
      have hg : l[k]? = some l[k] := List.getElem?_eq_getElem hlt
      have p1 := o1
      have p2 := o2
      rcases p1.2 with ⟨e0, e1⟩ | ⟨g, cap, cur, e1, r1⟩
      · omega
      rcases p2.2 with ⟨e0, e2⟩ | ⟨g', cap', cur', e2, r2⟩
      · omega
      cases e1
      cases e2
      obtain ⟨a1, a2, a3⟩ := TOwn.at p1 hg
      obtain ⟨b1, b2, b3⟩ := TOwn.at p2 hg
      generalize l[k] = t at *
      subst hwr
      clear hg r1 r2 p1 p2 o1 o2 h1 h2
      have ha0 : ((0 : Int) ≤ (k : Int)) := by omega
      go_wp2
      go_quiet (fail)
      go_wp2
      go_roundw
      case rel => exact ⟨k + 1, by omega, by go_num, m + nq, by simp⟩
      case measure => simp [intOf]; omega
    · have hlti : ¬ (k : Int) < (l.length : Int) := by omega
      have hltb : decide ((k : Int) < (l.length : Int)) = false := by simp; omega
      go_wp2
      go_ret
      exact ⟨rfl, m, by first | rfl | exact hwr⟩

end Go.Proofs.Ytbigickceflflaa
