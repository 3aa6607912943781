/-
  Texts of mine, joined: what lies beneath the statement.
-/
import Derived.Test.YtgddiimnpliolaaDoorJ7a8da8948c
import Derived.Test.YtgddiimnpliolaaDoorJ04edc57b8b
import Derived.Deep.RegionHeld
namespace Go.Proofs.YtgddiimnpliolaaDoor
open Go.RowKit
set_option linter.unusedVariables false
set_option linter.unusedSimpArgs false
theorem step_store_new {P : Program} {ops : Array Oper} {o : Oper} {a : Act} {w : World} {K : Act → World → Prop} {Q : Exit → Act → World → Prop} {E : Prop} (hgd : o.guard = none) (t : TypeId) (x y : Operand) (ho : o.op = .store t x y) (i0 : TypeInfo) (hi : P.info? t = some i0) (g : Nat) (hx : a.eval x = .pointer (some ⟨g, 0, none⟩)) (vs : Array Value) (hy : a.eval y = .agg vs)
    (cur : Array Value) (t' : TypeId) (hg : w.heap[g]? = some (.cells cur t' (0, 0))) (hl : vs.size = cur.size) (hs : i0.size = vs.size) (h1 : ∀ v ∈ vs.toList, v.oneCell' = true)
    (h : K (a.put o.dst undef) (w.setRow g vs)) :
    if Region.wanted o (yielded ops a.tmps) = true then Oper.wp P o a w K Q else E := by
  have hw : Region.wanted o (yielded ops a.tmps) = true := by simp [Region.wanted, hgd]
  rw [if_pos hw]
  have hst := run_storeCells_at (P := P) g 0 t' vs.toList 0 cur w hg (by simp [hl]) h1
  have e9 : (List.take (0 + 0) cur.toList ++ vs.toList ++ List.drop (0 + 0 + vs.toList.length) cur.toList).toArray = vs := by
    rw [List.drop_eq_nil_of_le (by simp [hl])]
    simp
  rw [e9] at hst
  unfold Oper.wp execOp
  simp [ho, hx, hy, Instr.storeAt, Instr.sureAddr, storeVar, sizeOf, typeInfo, hi, hs, hst, Result.andThen, Value.cells]
  exact h
theorem alloc_setRow (w : World) (a b : Array Value) (t : TypeId) : (w.alloc (.cells a t)).setRow w.heap.size b = w.alloc (.cells b t) := by
  have e : ((w.heap.push (.cells a t)).modify w.heap.size fun | .cells _ elem frozen => .cells b elem frozen | o => o) = w.heap.push (.cells b t) := by
    apply Array.ext
    · simp
    · intro i h1 h2
      rw [Array.getElem_modify]
      by_cases c : w.heap.size = i
      · subst c; simp
      · rw [if_neg c]
        simp at h1
        rw [Array.getElem_push_lt (by omega), Array.getElem_push_lt (by omega)]
  show ({ (w.alloc (.cells a t)) with heap := _ } : World) = _
  unfold World.alloc
  simp only
  congr 1
def GArr (w : World) (g n : Nat) (q : Nat → Rat) (L : Nat) : Prop := ∃ el, Arr3 w g n el ∧ ∀ j, j < n → RatAt w (elv el j) (q j) L
theorem GArr.below {w w' : World} {g n : Nat} {q : Nat → Rat} {L : Nat} (h : GArr w g n q L) (hb : Below w.heap.size w w') : GArr w' g n q L := let ⟨el, a, b⟩ := h; ⟨el, a.below hb, fun j hj => (b j hj).below hb⟩
theorem GArr.put {w : World} {g n i : Nat} {q : Nat → Rat} {L : Nat} (h : GArr w g n q L) (hi : i < n) {p : Bool} {a b : Option Addr} {n1 c m d : Nat} {x : Rat} (hr : RatAt w (.agg #[.bool p, .slice a n1 c, .slice b m d]) x L) : ∃ u0 u1 u2, w.cell? ⟨g, i * 3, none⟩ = some u0 ∧ w.cell? ⟨g, i * 3 + 1, none⟩ = some u1 ∧ w.cell? ⟨g, i * 3 + 2, none⟩ = some u2 ∧ w.frozen? ⟨g, i * 3, none⟩ = false ∧ w.frozen? ⟨g, i * 3 + 1, none⟩ = false ∧ w.frozen? ⟨g, i * 3 + 2, none⟩ = false ∧
    GArr (((w.setCell ⟨g, i * 3, none⟩ (.bool p)).setCell ⟨g, i * 3 + 1, none⟩ (.slice a n1 c)).setCell ⟨g, i * 3 + 2, none⟩ (.slice b m d)) g n (fun j => if j = i then x else q j) L ∧
    KeepQ IsNum w (((w.setCell ⟨g, i * 3, none⟩ (.bool p)).setCell ⟨g, i * 3 + 1, none⟩ (.slice a n1 c)).setCell ⟨g, i * 3 + 2, none⟩ (.slice b m d)) := by
  obtain ⟨el, A, R⟩ := h
  obtain ⟨A2, K2⟩ := A.set i hi (.bool p) (.slice a n1 c) (.slice b m d) (num_bool _) (num_slice _ _ _) (num_slice _ _ _)
  refine ⟨_, _, _, A.1 i hi 0 (by omega), A.1 i hi 1 (by omega), A.1 i hi 2 (by omega), A.2.1 i hi 0 (by omega), A.2.1 i hi 1 (by omega), A.2.1 i hi 2 (by omega), ⟨_, A2, fun j hj => ?_⟩, K2⟩
  by_cases e : j = i
  · subst e
    have := hr.keep K2
    show RatAt _ _ (if j = j then x else q j) L
    rw [if_pos rfl]
    simpa [elv, upd3] using this
  · have := (R j hj).keep K2
    show RatAt _ _ (if j = i then x else q j) L
    rw [if_neg e]
    simp only [elv, upd3_other el i j _ _ _ e] at *
    exact this
theorem GArr.made {w : World} {B g n cap : Nat} {e : TypeId} (h : w.ownsRow B e 3 (.slice (some ⟨g, 0, none⟩) n cap) n (madeCells (Value.agg #[.bool false, .slice none 0 0, .slice none 0 0]).cells (n * 3)).toList) (L : Nat) : GArr w g n (fun _ => 0) L :=
  ⟨_, arr3_made h, fun j _ => RatAt.nil w L⟩
theorem GArr.at {w : World} {g n : Nat} {q : Nat → Rat} {L : Nat} (h : GArr w g n q L) {i : Nat} (hi : i < n) : ∃ p ao m d bo k e, w.cell? ⟨g, i * 3, none⟩ = some (.bool p) ∧ w.cell? ⟨g, i * 3 + 1, none⟩ = some (.slice ao m d) ∧ w.cell? ⟨g, i * 3 + 2, none⟩ = some (.slice bo k e) ∧ RatAt w (.agg #[.bool p, .slice ao m d, .slice bo k e]) (q i) L := by
  obtain ⟨el, A, R⟩ := h
  have hr := R i hi
  obtain ⟨p, ao, m, d, bo, k, e, he⟩ := hr.open
  have h0 := A.1 i hi 0 (by omega)
  have h1 := A.1 i hi 1 (by omega)
  have h2 := A.1 i hi 2 (by omega)
  unfold elv at he hr
  simp only [Value.agg.injEq, Array.mk.injEq, List.cons.injEq, and_true] at he
  obtain ⟨e0, e1, e2⟩ := he
  rw [e0] at h0
  rw [e1] at h1
  rw [e2] at h2
  rw [e0, e1, e2] at hr
  exact ⟨p, ao, m, d, bo, k, e, h0, h1, h2, hr⟩
theorem GArr.lt {w : World} {g n : Nat} {q : Nat → Rat} {L : Nat} (h : GArr w g n q L) (hn : 0 < n) : g < w.heap.size := let ⟨el, a, b⟩ := h; a.lt hn
theorem GArr.row {w : World} {g n : Nat} {q : Nat → Rat} {L : Nat} (h : GArr w g n q L) (hn : n ≤ 1000000) : QRow w (.slice (some ⟨g, 0, none⟩) n n) n q L :=
  let ⟨el, a, b⟩ := h; ⟨el, a.row n n (Nat.le_refl _) (Nat.le_refl _) (by omega), b⟩
theorem GArr.sz {w : World} {g n : Nat} {q : Nat → Rat} {L : Nat} (h : GArr w g n q L) (hL : 1 ≤ L) {i : Nat} (hi : i < n) : qsz (q i) ≤ L := let ⟨el, a, b⟩ := h; (b i hi).qsz hL
theorem RatAt.small {w : World} {v : Value} {q : Rat} {L : Nat} (h : RatAt w v q L) {M : Nat} (hM : L ≤ M) : RatAt w v q M := h.le hM
theorem GArr.congr {w : World} {g n : Nat} {q q' : Nat → Rat} {L : Nat} (h : GArr w g n q L) (e : ∀ i, i < n → q i = q' i) : GArr w g n q' L := let ⟨el, a, b⟩ := h; ⟨el, a, fun j hj => e j hj ▸ b j hj⟩
end Go.Proofs.YtgddiimnpliolaaDoor
