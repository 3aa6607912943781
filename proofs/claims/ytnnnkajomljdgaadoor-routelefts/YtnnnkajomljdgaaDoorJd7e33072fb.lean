/-
  Texts of mine, joined: what lies beneath the statement.
-/
import Derived.Test.YtnnnkajomljdgaaDoorJd4b9aab484
import Derived.Lib.SliceRun
namespace Go.Proofs.YtnnnkajomljdgaaDoor
open Go.RowKit
set_option linter.unusedVariables false
set_option linter.unusedSimpArgs false

/-- An array of the call's own (from B on): those of which ok is said are numbers in their form. -/
def MArr (B : Nat) (w : World) (v : Value) (n : Nat) (q : Nat → Rat) (ok : Nat → Prop) : Prop :=
  ∃ ao c, v = .slice ao n c ∧ n ≤ c ∧ c ≤ 9223372036854775807 ∧ (0 < n → ∃ g el, ao = some ⟨g, 0, none⟩ ∧ B ≤ g ∧ Arr3 w g n el ∧ ∀ i, i < n → ok i → RepQ w (elv el i) (q i))
theorem MArr.below {B : Nat} {w w' : World} {v : Value} {n : Nat} {q : Nat → Rat} {ok : Nat → Prop} (h : MArr B w v n q ok) (hb : Below w.heap.size w w') : MArr B w' v n q ok := by
  obtain ⟨ao, c, h1, h2, h3, h4⟩ := h
  exact ⟨ao, c, h1, h2, h3, fun hn => let ⟨g, el, e, hB, hA, hR⟩ := h4 hn; ⟨g, el, e, hB, hA.below hb, fun i hi ho => (hR i hi ho).below hb⟩⟩
theorem MArr.le {B B' : Nat} {w : World} {v : Value} {n : Nat} {q : Nat → Rat} {ok : Nat → Prop} (h : MArr B w v n q ok) (hb : B' ≤ B) : MArr B' w v n q ok := by
  obtain ⟨ao, c, h1, h2, h3, h4⟩ := h
  exact ⟨ao, c, h1, h2, h3, fun hn => let ⟨g, el, e, hB, hA, hR⟩ := h4 hn; ⟨g, el, e, Nat.le_trans hb hB, hA, hR⟩⟩
theorem MArr.open {B : Nat} {w : World} {v : Value} {n : Nat} {q : Nat → Rat} {ok : Nat → Prop} (h : MArr B w v n q ok) : ∃ a c, v = .slice a n c ∧ n ≤ c ∧ c ≤ 9223372036854775807 := let ⟨ao, c, h1, h2, h3, _⟩ := h; ⟨ao, c, h1, h2, h3⟩
/-- The first ones. -/
theorem MArr.pre {B : Nat} {w : World} {a : Option Addr} {n c : Nat} {q : Nat → Rat} {ok : Nat → Prop} (h : MArr B w (.slice a n c) n q ok) (m d : Nat) (hm : m ≤ n) (hd : m ≤ d) (hd2 : d ≤ 9223372036854775807) (ho : ∀ i, i < m → ok i) : FNew B w (.slice a m d) m q := by
  obtain ⟨ao, c', h1, h2, h3, h4⟩ := h
  cases h1
  by_cases h0 : 0 < n
  · obtain ⟨g, el, rfl, hB, hA, hR⟩ := h4 h0
    exact ⟨⟨el, hA.row m d hm hd hd2, fun i hi => hR i (by omega) (ho i hi)⟩, fun b off c e hn => by cases e; exact hB⟩
  · obtain rfl : m = 0 := by omega
    exact ⟨⟨fun _ _ => .bool false, ⟨a, d, rfl, hd, hd2, fun h => by omega⟩, fun i hi => by omega⟩, fun b off c e hn => by omega⟩
/-- Behind 'make': nothing is said of any. -/
theorem marr_made {w w' : World} {n : Nat} {e : TypeId} (q : Nat → Rat) (hn : n ≤ 1000000) (h : w'.ownsRow w.heap.size e 3 (.slice (some ⟨w.heap.size, 0, none⟩) n n) n (madeCells (Value.agg #[.bool false, .slice none 0 0, .slice none 0 0]).cells (n * 3)).toList) : MArr w.heap.size w' (.slice (some ⟨w.heap.size, 0, none⟩) n n) n q (fun _ => False) :=
  ⟨_, _, rfl, Nat.le_refl _, by omega, fun _ => ⟨_, _, rfl, Nat.le_refl _, arr3_made h, fun _ _ h => absurd h id⟩⟩
/-- The cells of a row, one behind the other. -/
def flat3 (el : Nat → Nat → Value) (n : Nat) : List Value := (List.range (n * 3)).map fun k => el (k / 3) (k % 3)
theorem flat3_len (el : Nat → Nat → Value) (n : Nat) : (flat3 el n).length = n * 3 := by simp [flat3]
theorem flat3_at (el : Nat → Nat → Value) (n i j : Nat) (hi : i < n) (hj : j < 3) : (flat3 el n)[i * 3 + j]? = some (el i j) := by
  have hlt : i * 3 + j < n * 3 := by omega
  simp only [flat3, List.getElem?_map, List.getElem?_range hlt, Option.map_some]
  rw [show (i * 3 + j) / 3 = i by omega, show (i * 3 + j) % 3 = j by omega]
theorem flat3_mem {el : Nat → Nat → Value} {n : Nat} {u : Value} (h : u ∈ flat3 el n) : ∃ i j, i < n ∧ j < 3 ∧ u = el i j := by
  simp only [flat3, List.mem_map, List.mem_range] at h
  obtain ⟨k, hk, rfl⟩ := h
  exact ⟨k / 3, k % 3, by omega, by omega, rfl⟩
theorem rep_cells {w : World} {el : Nat → Nat → Value} {i : Nat} {q : Rat} (h : RepQ w (elv el i) q) : ∀ j, j < 3 → (el i j).oneCell' = true ∧ ¬ IsNum (el i j) := by
  obtain ⟨p, ao, n, c, bo, m, d, he⟩ := h.open
  simp only [elv, Value.agg.injEq, Array.mk.injEq, List.cons.injEq, and_true] at he
  intro j hj
  rcases (show j = 0 ∨ j = 1 ∨ j = 2 by omega) with rfl | rfl | rfl
  · rw [he.1]; exact ⟨rfl, num_bool _⟩
  · rw [he.2.1]; exact ⟨rfl, num_slice _ _ _⟩
  · rw [he.2.2]; exact ⟨rfl, num_slice _ _ _⟩
theorem marr_owns {w : World} {B n : Nat} {e : TypeId} {v : Value} {q : Nat → Rat} {el : Nat → Nat → Value} (h : w.ownsRow B e 3 v n (flat3 el n)) (hr : ∀ i, i < n → RepQ w (elv el i) (q i)) : MArr B w v n q (fun _ => True) := by
  rcases h.2 with ⟨rfl, rfl⟩ | ⟨g, cap, cur, rfl, hb, hg, hnc, hcm, rest⟩
  · exact ⟨none, 0, rfl, Nat.le_refl _, by omega, fun h => by omega⟩
  · refine ⟨_, _, rfl, hnc, by unfold maxLen at hcm; omega, fun _ => ⟨g, el, rfl, hb, ⟨fun i hi j hj => owns_cell h (flat3_at el n i j hi hj), fun i hi j hj => h.frozenAt _, fun i hi j hj => (rep_cells (hr i hi) j hj).2⟩, fun i hi _ => hr i hi⟩⟩


theorem owns_empty (w : World) (B : Nat) (e : TypeId) (size : Nat) (hB : B ≤ w.heap.size) : (w.alloc (.cells #[] e)).ownsRow B e size (.slice (some ⟨w.heap.size, 0, none⟩) 0 0) 0 [] :=
  ⟨by simp, Or.inr ⟨w.heap.size, 0, #[], rfl, hB, heap_alloc_new w _, Nat.le_refl _, by unfold maxLen; omega, by simp, by simp⟩⟩

/-- One step of dividing. -/
def stepR (b : Nat → Rat) (below k : Nat) (R : Nat → Rat) : Nat → Rat := fun j => if k ≤ j ∧ j < k + below then R j - R (k + below) / b below * b (j - k) else R j
/-- The rest, and the quotient, of so many steps. -/
def divR (b : Nat → Rat) (below : Nat) : Nat → (Nat → Rat) → Nat → Rat
  | 0, R => R
  | k + 1, R => divR b below k (stepR b below k R)
def divQ (b : Nat → Rat) (below : Nat) : Nat → (Nat → Rat) → Nat → Rat
  | 0, _ => fun _ => 0
  | k + 1, R => fun j => if j = k then R (k + below) / b below else divQ b below k (stepR b below k R) j
/-- So far in a step. -/
def partR (b : Nat → Rat) (k : Nat) (c : Rat) (R : Nat → Rat) (i : Nat) : Nat → Rat := fun j => if k ≤ j ∧ j < k + i then R j - c * b (j - k) else R j
theorem partR_zero (b : Nat → Rat) (k : Nat) (c : Rat) (R : Nat → Rat) : partR b k c R 0 = R := by
  funext j; unfold partR; rw [if_neg (by omega)]
theorem partR_all (b : Nat → Rat) (below k : Nat) (R : Nat → Rat) : partR b k (R (k + below) / b below) R below = stepR b below k R := rfl
theorem partR_here (b : Nat → Rat) (k : Nat) (c : Rat) (R : Nat → Rat) (i : Nat) : partR b k c R i (k + i) = R (k + i) := by unfold partR; rw [if_neg (by omega)]
theorem partR_next (b : Nat → Rat) (k : Nat) (c : Rat) (R : Nat → Rat) (i j : Nat) : partR b k c R (i + 1) j = if j = k + i then R (k + i) - c * b i else partR b k c R i j := by
  unfold partR
  by_cases e : j = k + i
  · rw [if_pos e, if_pos (by omega), e, Nat.add_sub_cancel_left]
  · rw [if_neg e]
    by_cases h : k ≤ j ∧ j < k + i
    · rw [if_pos h, if_pos (by omega)]
    · rw [if_neg h, if_neg (by omega)]
/-- How long the numbers grow. -/
def szS (L : Nat) : Nat → Nat
  | 0 => L
  | t + 1 => 2 * szS L t + 2 * L + 1
theorem szS_mono (L : Nat) : ∀ t m, t ≤ m → szS L t ≤ szS L m := by
  intro t m h
  induction h with
  | refl => exact Nat.le_refl _
  | step h ih => exact Nat.le_trans ih (by show _ ≤ 2 * szS L _ + 2 * L + 1; omega)
theorem szS_ge (L : Nat) (t : Nat) : L ≤ szS L t := szS_mono L 0 t (Nat.zero_le _)

/-- 'make' as a step of a region that draws. -/
theorem step_make {P : Program} (w : World) {ops : Array Oper} {o : Oper} {a : Act} {K : Act → World → Prop} {Q : Exit → Act → World → Prop} {E : Prop} {T : Array Value} (hg : o.guard = none) (l c : Operand) (t : TypeId) (hop : o.op = Op.makeSlice t l c)
    (base : Nat) (e : TypeId) (i : TypeInfo) (z : Value) (size : Nat) (h1 : P.underlying t = some (.slice e)) (h2 : P.info? e = some i) (h3 : i.zero = some z) (h4 : i.size = size)
    (kl kc : IntKind) (L C : Int) (n : Nat) (hl : a.eval l = .int kl L) (hc : a.eval c = .int kc C) (hL : L = (n : Int)) (hC : C = (n : Int)) (b2 : i.bytes * n ≤ 281474976710656) (b3 : n ≤ maxLen) (b4 : base ≤ w.heap.size)
    (hK : ∀ w', w'.ownsRow base e size (.slice (some ⟨w.heap.size, 0, none⟩) n n) n (madeCells z.cells (n * size)).toList → w.grownBy w' none → K (a.put o.dst (.slice (some ⟨w.heap.size, 0, none⟩) n n)) w') :
    if Region.wanted o (yielded ops T) = true then Oper.wp P o a w K Q else E := by
  have hw : Region.wanted o (yielded ops T) = true := by simp [Region.wanted, hg]
  rw [if_pos hw]
  obtain ⟨w', hrun, r1, r2⟩ := run_make_full (P := P) w base t e i z size h1 h2 h3 h4 kl kc n b2 b3 b4
  subst hL
  subst hC
  unfold Oper.wp
  simp [execOp, hop, hl, hc, hrun, Result.andThen]
  exact hK w' r1 r2
/-- Two arrays lie apart. -/
def Apart (v v' : Value) : Prop := ∀ g g', v.ownBlock = some g → v'.ownBlock = some g' → g ≠ g'
theorem MArr.blk {B : Nat} {w : World} {v : Value} {n : Nat} {q : Nat → Rat} {ok : Nat → Prop} (h : MArr B w v n q ok) (hn : 0 < n) : ∀ g, v.ownBlock = some g → B ≤ g ∧ g < w.heap.size := by
  obtain ⟨ao, c, rfl, _, _, h4⟩ := h
  obtain ⟨g', el, rfl, hB, hA, _⟩ := h4 hn
  intro g hg
  simp only [Value.ownBlock, Option.some.injEq] at hg
  subst hg
  exact ⟨hB, hA.lt hn⟩
theorem apart_new {B : Nat} {w : World} {v : Value} {n m c : Nat} {q : Nat → Rat} {ok : Nat → Prop} (h : MArr B w v n q ok) (hn : 0 < n) : Apart (.slice (some ⟨w.heap.size, 0, none⟩) m c) v := by
  intro g g' h1 h2
  simp only [Value.ownBlock, Option.some.injEq] at h1
  have := (h.blk hn g' h2).2
  omega
theorem apart_old {B : Nat} {w w' : World} {v v' : Value} {n m : Nat} {q q' : Nat → Rat} {ok ok' : Nat → Prop} (h : MArr B w v n q ok) (h' : MArr w.heap.size w' v' m q' ok') (hn : 0 < n) (hm : 0 < m) : Apart v v' := by
  intro g g' h1 h2
  have := (h.blk hn g h1).2
  have := (h'.blk hm g' h2).1
  omega
theorem Arr3.other {w : World} {g n : Nat} {el : Nat → Nat → Value} (h : Arr3 w g n el) {g' k : Nat} (hne : g ≠ g') (x y z : Value) : Arr3 (((w.setCell ⟨g', k, none⟩ x).setCell ⟨g', k + 1, none⟩ y).setCell ⟨g', k + 2, none⟩ z) g n el :=
  ⟨fun i hi j hj => set_cell_block (set_cell_block (set_cell_block (h.1 i hi j hj) hne) hne) hne, fun i hi j hj => by simp [h.2.1 i hi j hj], h.2.2⟩
theorem FNew.cut {B : Nat} {w : World} {a : Option Addr} {n c : Nat} {q : Nat → Rat} (h : FNew B w (.slice a n c) n q) (m : Nat) (hm : m ≤ n) (hc : n ≤ c) (hc2 : c ≤ 9223372036854775807) : FNew B w (.slice a m c) m q := by
  obtain ⟨⟨el, ⟨a', c', h1, h2, h3, h4⟩, h5⟩, h6⟩ := h
  cases h1
  exact ⟨⟨el, ⟨a, c, rfl, by omega, hc2, fun h0 => let ⟨b, off, e, hcc⟩ := h4 (by omega); ⟨b, off, e, fun i hi => hcc i (by omega)⟩⟩, fun i hi => h5 i (by omega)⟩, fun b off c' e hn => by cases e; exact h6 b off _ rfl (by omega)⟩
theorem FNew.trim {B : Nat} {w : World} {a : Option Addr} {n c : Nat} {q : Nat → Rat} (h : FNew B w (.slice a n c) n q) : FNew B w (.slice a (trimN q n) (trimN q n)) (trimN q n) q := by
  have hle := trimN_le q n
  obtain ⟨⟨el, ⟨a', c', h1, h2, h3, h4⟩, h5⟩, h6⟩ := h
  cases h1
  exact ⟨⟨el, ⟨a, _, rfl, Nat.le_refl _, by omega, fun h0 => let ⟨b, off, e, hcc⟩ := h4 (by omega); ⟨b, off, e, fun i hi => hcc i (by omega)⟩⟩, fun i hi => h5 i (by omega)⟩, fun b off c' e hn => by cases e; exact h6 b off _ rfl (by omega)⟩
theorem MQ_none {B : Nat} {w : World} {a : Option Addr} {n c : Nat} {q q' : Nat → Rat} {ok : Nat → Prop} (h : MArr B w (.slice a n c) n q ok) (h0 : n = 0) : FNew B w (.slice a n c) n q' := by
  subst h0
  obtain ⟨ao, c', h1, h2, h3, _⟩ := h
  cases h1
  exact ⟨⟨fun _ _ => .bool false, ⟨a, c, rfl, h2, h3, fun h => by omega⟩, fun i hi => by omega⟩, fun b off c e hn => by omega⟩
theorem Arr3.e3 {w : World} {g n : Nat} {el : Nat → Nat → Value} (h : Arr3 w g n el) (i : Nat) (hi : i < n) {q : Rat} (hr : RepQ w (elv el i) q) : ∃ p ao m d bo k e, E3 w g (i * 3) (.bool p) (.slice ao m d) (.slice bo k e) ∧ RepQ w (.agg #[.bool p, .slice ao m d, .slice bo k e]) q := by
  obtain ⟨p, ao, m, d, bo, k, e, he⟩ := hr.open
  rw [he] at hr
  simp only [elv, Value.agg.injEq, Array.mk.injEq, List.cons.injEq, and_true] at he
  refine ⟨p, ao, m, d, bo, k, e, ⟨?_, ?_, ?_⟩, hr⟩
  · have := h.1 i hi 0 (by omega); rw [he.1] at this; exact this
  · have := h.1 i hi 1 (by omega); rw [he.2.1] at this; exact this
  · have := h.1 i hi 2 (by omega); rw [he.2.2] at this; exact this

/-- Those from lo on, below hi, are numbers in their form. -/
def Reps (w : World) (el : Nat → Nat → Value) (lo hi : Nat) (q : Nat → Rat) : Prop := ∀ i, lo ≤ i → i < hi → RepQ w (elv el i) (q i)
theorem Reps.below {w w' : World} {el : Nat → Nat → Value} {lo hi : Nat} {q : Nat → Rat} (h : Reps w el lo hi q) (hb : Below w.heap.size w w') : Reps w' el lo hi q := fun i h1 h2 => (h i h1 h2).below hb
theorem Reps.keep {w w' : World} {el : Nat → Nat → Value} {lo hi : Nat} {q : Nat → Rat} (h : Reps w el lo hi q) (hk : KeepQ IsNum w w') : Reps w' el lo hi q := fun i h1 h2 => (h i h1 h2).keep hk
theorem Reps.put {w : World} {el : Nat → Nat → Value} {k hi : Nat} {q : Nat → Rat} {x y z : Value} (h : Reps w el (k + 1) hi q) (hr : RepQ w (.agg #[x, y, z]) (q k)) : Reps w (upd3 el k x y z) k hi q := by
  intro i h1 h2
  by_cases e : i = k
  · subst e; simp only [elv, upd3, if_pos]; exact hr
  · simp only [elv]; rw [upd3_other _ _ _ _ _ _ e]; exact h i (by omega) h2
theorem Reps.upd {w : World} {el : Nat → Nat → Value} {j n : Nat} {q q' : Nat → Rat} {x y z : Value} (h : Reps w el 0 n q) (hr : RepQ w (.agg #[x, y, z]) (q' j)) (hq : ∀ i, i ≠ j → q' i = q i) : Reps w (upd3 el j x y z) 0 n q' := by
  intro i h1 h2
  by_cases e : i = j
  · subst e; simp only [elv, upd3, if_pos]; exact hr
  · simp only [elv]; rw [upd3_other _ _ _ _ _ _ e, hq i e]; exact h i h1 h2
/-- What Div answers. -/
def TupQ (w : World) (v : Value) (q : Rat) : Prop := ∃ x, v = .tuple #[x, .int .i64 0] ∧ RepQ w x q
theorem TupQ.below {w w' : World} {v : Value} {q : Rat} (h : TupQ w v q) (hb : Below w.heap.size w w') : TupQ w' v q := let ⟨x, e, hx⟩ := h; ⟨x, e, hx.below hb⟩
theorem stepR_sz {b R : Nat → Rat} {below k n L S lb : Nat} (hR : ∀ i, i < n → qsz (R i) ≤ S) (hb : ∀ i, i < lb → qsz (b i) ≤ L) (hkb : k + below < n) (hl : below < lb) : ∀ i, i < n → qsz (stepR b below k R i) ≤ 2 * S + 2 * L + 1 := by
  intro i hi
  unfold stepR; split
  · rename_i h
    have h1 := qsz_div _ _ (hR (k + below) hkb) (hb below hl)
    have h2 := qsz_mul _ _ h1 (hb (i - k) (by omega))
    exact Nat.le_trans (qsz_sub _ _ (hR i hi) h2) (by omega)
  · exact Nat.le_trans (hR i hi) (by omega)


end Go.Proofs.YtnnnkajomljdgaaDoor
