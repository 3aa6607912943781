/-
  Texts of mine.
-/
import Derived.RangeFuncNested
import Derived.RangeFuncBound
import Derived.RangeFuncCalls
import Derived.RangeFuncLeaves
import Derived.OrdersIn
import Derived.Test.YtbbliiafkjipbaaGreatDoorJb21aacc9a4
namespace Go.Proofs.YtbbliiafkjipbaaGreatDoor
open Go.RowKit
set_option linter.unusedVariables false
section
variable {P : Program} {ops : Array Oper} {Q : Exit → Act → World → Prop} {md : Region.Mode}
def noDefer (ops : Array Oper) : Bool := ops.all fun o => match o.op with | .defer _ => false | _ => true
theorem noDefer_spec {i : Nat} {o : Oper} (h : noDefer ops = true) (ho : ops[i]? = some o) : ∀ c,o.op ≠ .defer c := by
 intro c e
 have h1 := Array.all_eq_true_iff_forall_mem.1 h o (Array.mem_of_getElem? ho)
 rw [e] at h1; cases h1
theorem rows_in {n l : Nat} {row : String} {args : Array Value} {w : World} {R : Value → World → Prop} (h : Rows P row args w R) : RowsIn (Fence.wide.inRound l) n P row args w R :=
 fun c cs _ => let ⟨v,w',r,s⟩ := h c cs; ⟨v,w',r,stepsIn_wide.2 s⟩
theorem oper_in {n l : Nat} {o : Oper} {a : Act} {w : World} {K : Act → World → Prop} (h : Oper.wp P o a w K Q) (hd : ∀ c,o.op ≠ .defer c) : o.wpIn (Fence.wide.inRound l) n P a w K Q := by
 refine ⟨fun f _ => trivial,?_⟩
 rw [show (Fence.wide.inRound l).round = some l from rfl,Oper.semAt_some l _ _ hd]
 unfold Oper.wp at h
 generalize (execOp a.eval o).run P w = r at *
 cases r with
 | ok k w' =>
  cases k <;> simp only [Oper.upon,Oper.uponIn] at h ⊢ <;>
   first
    | exact h
    | exact ⟨(fun hh => by simp [Fence.wide] at hh),CallsIn.inRound l (callsIn_wide.2 h)⟩
    | exact ⟨(fun hh => by simp [Fence.wide] at hh),rows_in h⟩
 | halt x w' => cases x <;> simp only [Oper.upon,Oper.uponIn] at h ⊢ <;> exact h
theorem wpOp_in {n l i : Nat} {a : Act} {w : World} {K : Act → World → Prop} (hQ : ¬ LetsOut Q) (hd : noDefer ops = true) (h : wpOp P ops Q i K a w) : wpOpIn (Fence.wide.inRound l) n P ops Q i K a w := by
 unfold wpOp at h
 unfold wpOpIn
 cases ho : ops[i]? with
 | none => rw [ho] at h; exact h
 | some o =>
  rw [ho] at h
  simp only at h ⊢
  by_cases hw : Region.wanted o (yielded ops a.tmps) = true
  ·rw [if_pos hw] at h ⊢
   rcases h with h | ⟨_,h⟩
   ·exact oper_in h (noDefer_spec hd ho)
   ·exact absurd h hQ
  ·rw [if_neg hw] at h ⊢
   exact ⟨fun _ _ => trivial,h⟩
theorem wpAny_in {n l : Nat} (hQ : ¬ LetsOut Q) (hd : noDefer ops = true) : ∀ (fuel : Nat) (listed : Array Bool) (a : Act) (w : World),wpAny P md ops Q fuel listed a w → wpAnyIn (Fence.wide.inRound l) n P md ops Q fuel listed a w
 | 0,_,_,_,h => h
 | fuel + 1,_,_,_,h => ⟨h.1,fun i hi => wpOpIn_mono (fun a' w' h' => wpAny_in hQ hd fuel _ a' w' h') (wpOp_in hQ hd (h.2 i hi))⟩
theorem region_in {n l id : Nat} {a : Act} {w : World} (hm : P.follows .mixedOrders = true) (hQ : ¬ LetsOut Q) (hd : noDefer ops = true)
  (h : wpAny P .any ops Q ops.size (Array.replicate ops.size false) a w.drew) : (Code.region id ops true).wpIn (Fence.wide.inRound l) n P Q a w :=
 wpIn_region_any hm (wpAny_in hQ hd _ _ _ _ h)
theorem region_until_in {n l id : Nat} {A : Act} {W : World} (hQ : ¬ LetsOut Q) (hd : noDefer ops = true) (m : Nat) (LM : Array Bool) (Inv : Act → Array Bool → Act → World → Prop) (hm : P.follows .mixedOrders = true) (hsz : m ≤ ops.size) (hsh : shapely ops m = true) (hLs : LM.size = ops.size) (hL : ((List.range ops.size).all fun j => LM.getD j true == decide (j < m)) = true)
  (h0 : Inv A (Array.replicate ops.size false) A W.drew)
  (hstep : ∀ listed a w i,listed.size = ops.size → Inv A listed a w → i < m → i ∈ Region.ready .any ops listed → wpOp P ops Q i (fun a' w' => Inv A (listed.setIfInBounds i true) a' w') a w)
  (hfin : ∀ a w,Inv A LM a w → wpAnyH P .any ops Q (fun _ => True) (ops.size - m) LM a w) : (Code.region id ops true).wpIn (Fence.wide.inRound l) n P Q A W := by
 refine region_in hm hQ hd ?_
 have h := wpAny_until hsz LM (Inv A) hsh hLs hL hstep (fun a w hI => wpAny_of_held _ _ _ _ (hfin a w hI)) m (Array.replicate ops.size false) A W.drew (cnt_none _ m hsz) (by simp) (fun i o _ h => absurd h (fun h => by rcases Nat.lt_or_ge i ops.size with g | g <;> simp [Array.getD_eq_getD_getElem?,g] at h)) (fun j _ h2 => by simp [Array.getD_eq_getD_getElem?,h2]) h0
 rw [show m + (ops.size - m) = ops.size by omega] at h
 exact h
end
end Go.Proofs.YtbbliiafkjipbaaGreatDoor
