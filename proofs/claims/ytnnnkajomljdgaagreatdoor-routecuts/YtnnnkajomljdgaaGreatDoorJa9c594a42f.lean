/-
  Texts of mine, joined: what lies beneath the statement.
-/
import Derived.Test.YtnnnkajomljdgaaGreatDoorJb44867797f
import Derived.Test.YtnnnkajomljdgaaGreatDoorJ1ebe28994d
import Derived.Laws.OwnMore
import Derived.Test.YtnnnkajomljdgaaGreatDoorJ3dc5d309b4
namespace Go.Proofs.YtnnnkajomljdgaaGreatDoor
open Go.RowKit
set_option linter.unusedVariables false
set_option linter.unusedSimpArgs false

def noTok : Tok := (0, 0, ByteArray.empty)
/-- Words in memory, to be read. -/
def TkAt (w : World) (v : Value) (l : List Tok) : Prop := RowAt 3 w v l.length (fun i j => (cellsT (l.getD i noTok)).getD j undef)
theorem TkAt.below {w w' : World} {v : Value} {l : List Tok} (h : TkAt w v l) (hb : Below w.heap.size w w') : TkAt w' v l := RowAt.below h hb
theorem TkAt.open {w : World} {v : Value} {l : List Tok} (h : TkAt w v l) : ∃ a c, v = .slice a l.length c ∧ l.length ≤ c ∧ c ≤ 9223372036854775807 := by
 obtain ⟨a, c, h1, h2, h3, _⟩ := h
 exact ⟨a, c, h1, h2, h3⟩
theorem TkAt.at {w : World} {v : Value} {l : List Tok} (h : TkAt w v l) {i : Nat} {t : Tok} (ht : l[i]? = some t) : ∃ b off c, v = .slice (some ⟨b, off, none⟩) l.length c ∧ w.cell? ⟨b, off + i * 3, none⟩ = some (.int .i64 (t.1 : Int)) ∧ w.cell? ⟨b, off + i * 3 + 1, none⟩ = some (.int .i64 (t.2.1 : Int)) ∧ w.cell? ⟨b, off + i * 3 + 2, none⟩ = some (.string t.2.2) := by
 obtain ⟨a, c, h1, h2, h3, h4⟩ := h
 have hi : i < l.length := (List.getElem?_eq_some_iff.1 ht).1
 obtain ⟨b, off, rfl, hc⟩ := h4 (by omega)
 have hg : l.getD i noTok = t := by rw [List.getD_eq_getElem?_getD, ht]; rfl
 have hc : ∀ j, j < 3 → w.cell? ⟨b, off + i * 3 + j, none⟩ = some ((cellsT (l.getD i noTok)).getD j undef) := hc i hi
 rw [hg] at hc
 exact ⟨b, off, c, h1, hc 0 (by omega), hc 1 (by omega), hc 2 (by omega)⟩
/-- A row with another entry. -/
def updC (r : Nat → Cl) (i : Nat) (d : Cl) : Nat → Cl := fun k => if k = i then d else r k
theorem updC_same (r : Nat → Cl) (i : Nat) (d : Cl) : updC r i d i = d := if_pos rfl
theorem updC_other (r : Nat → Cl) {i k : Nat} (d : Cl) (h : k ≠ i) : updC r i d k = r k := if_neg h
theorem COwn.below {B : Nat} {w w' : World} {v : Value} {n : Nat} {t : Nat → Cl} {L : Nat} (h : COwn B w v n t L) (hb : Below w.heap.size w w') : COwn B w' v n t L := h.later hb
theorem COwn.congr {B : Nat} {w : World} {v : Value} {n : Nat} {t t' : Nat → Cl} {L : Nat} (h : COwn B w v n t L) (e : ∀ i, i < n → t i = t' i) : COwn B w v n t' L := by
 obtain ⟨cs, h1, h2, h3⟩ := h
 exact ⟨cs, h1, h2, fun i hi => e i hi ▸ h3 i hi⟩
theorem COwn.mono {B : Nat} {w : World} {v : Value} {n : Nat} {t : Nat → Cl} {L L' : Nat} (h : COwn B w v n t L) (hL : L ≤ L') : COwn B w v n t L' := by
 obtain ⟨cs, h1, h2, h3⟩ := h
 exact ⟨cs, h1, h2, fun i hi => (h3 i hi).mono hL⟩
theorem zero_cell (w : World) (L : Nat) : CellAt w (fun j => [.bool false, .bool false, .slice none 0 0, .slice none 0 0].getD j undef) ⟨false, 0⟩ L := ⟨rfl, false, none, 0, 0, none, 0, 0, rfl, rfl, rfl, RatAt.nil w L⟩
theorem made4 (n i j : Nat) (hi : i < n) (hj : j < 4) : (madeCells (Value.agg #[.bool false, .bool false, .slice none 0 0, .slice none 0 0]).cells (n * 4)).toList.getD (i * 4 + j) undef = [Value.bool false, .bool false, .slice none 0 0, .slice none 0 0].getD j undef := by
 have hlt : i * 4 + j < n * 4 := by omega
 simp only [madeCells, Value.cells, List.getD_eq_getElem?_getD]
 rw [Array.getElem?_toList, Array.getElem?_map, Array.getElem?_range, if_pos hlt]
 simp only [Option.map_some, Option.getD_some]
 rw [show (i * 4 + j) % (#[Value.bool false, .bool false, .slice none 0 0, .slice none 0 0] : Array Value).size = j by simp; omega]
 rcases (by omega : j = 0 ∨ j = 1 ∨ j = 2 ∨ j = 3) with rfl | rfl | rfl | rfl <;> rfl
/-- A made row: numbers that are 0. -/
theorem COwn.made {B : Nat} {w : World} {g n : Nat} (L : Nat) (h : w.ownsRow B 71 4 (.slice (some ⟨g, 0, none⟩) n n) n (madeCells (Value.agg #[.bool false, .bool false, .slice none 0 0, .slice none 0 0]).cells (n * 4)).toList) : COwn B w (.slice (some ⟨g, 0, none⟩) n n) n (fun _ => ⟨false, 0⟩) L := by
 have hc : ∀ i, i < n → ∀ j, j < 4 → w.cell? ⟨g, i * 4 + j, none⟩ = some ([Value.bool false, .bool false, .slice none 0 0, .slice none 0 0].getD j undef) := fun i hi j hj => by
  have hlt : i * 4 + j < (madeCells (Value.agg #[.bool false, .bool false, .slice none 0 0, .slice none 0 0]).cells (n * 4)).toList.length := by rw [h.1]; omega
  have := owns_cell h (j := i * 4 + j) (u := (madeCells (Value.agg #[.bool false, .bool false, .slice none 0 0, .slice none 0 0]).cells (n * 4)).toList.getD (i * 4 + j) undef) (by rw [List.getD_eq_getElem?_getD, List.getElem?_eq_getElem hlt]; rfl)
  rw [made4 n i j hi hj] at this
  exact this
 refine ⟨_, h, fun g' hg' => ?_, fun i hi => (zero_cell w L).congr (fun j hj => (made4 n i j hi hj).symm)⟩
 have hgg : g = g' := by simpa [Value.ownBlock] using hg'
 subst hgg
 intro o u hu
 rcases h.2 with ⟨e, _⟩ | ⟨g2, c2, cur, e, _, hgh, _, _, hcs, _⟩
 ·cases e
 ·cases e
  have hlt : o < n * 4 := by
   rw [cell_of_row _ _ _ _ _ _ hgh] at hu
   have := (Array.getElem?_eq_some_iff.1 hu).1
   omega
  have := hc (o / 4) (by omega) (o % 4) (by omega)
  rw [show o / 4 * 4 + o % 4 = o by omega] at this
  rw [this] at hu
  cases hu
  rcases (by omega : o % 4 = 0 ∨ o % 4 = 1 ∨ o % 4 = 2 ∨ o % 4 = 3) with e | e | e | e <;> rw [e]
  ·exact limb_bool _
  ·exact limb_bool _
  ·exact limb_slice _ _ _
  ·exact limb_slice _ _ _
theorem getD_set {l : List Value} {i j : Nat} {x : Value} : (l.set i x).getD j undef = if i = j ∧ j < l.length then x else l.getD j undef := by
 simp only [List.getD_eq_getElem?_getD, List.getElem?_set]
 by_cases h : i = j
 ·subst h
  by_cases h2 : i < l.length
  ·simp [h2]
  ·simp [h2]
 ·simp [h]
/-- One entry is set. -/
theorem COwn.put {B : Nat} {w : World} {g n c : Nat} {r : Nat → Cl} {L : Nat} (h : COwn B w (.slice (some ⟨g, 0, none⟩) n c) n r L) {i : Nat} (hi : i < n) {x0 x1 x2 x3 : Value} {d : Cl} (hx : CellAt w (fun j => [x0, x1, x2, x3].getD j undef) d L) :
  COwn B ((((w.setCell ⟨g, i * 4, none⟩ x0).setCell ⟨g, i * 4 + 1, none⟩ x1).setCell ⟨g, i * 4 + 2, none⟩ x2).setCell ⟨g, i * 4 + 3, none⟩ x3) (.slice (some ⟨g, 0, none⟩) n c) n (updC r i d) L ∧ KeepQ IsLimb w ((((w.setCell ⟨g, i * 4, none⟩ x0).setCell ⟨g, i * 4 + 1, none⟩ x1).setCell ⟨g, i * 4 + 2, none⟩ x2).setCell ⟨g, i * 4 + 3, none⟩ x3) := by
 obtain ⟨cs, h1, h2, h3⟩ := h
 have hl : cs.length = n * 4 := h1.1
 have s1 := (h1.stored (i * 4) x0).1
 have s2 := (s1.stored (i * 4 + 1) x1).1
 have s3 := (s2.stored (i * 4 + 2) x2).1
 have s4 := (s3.stored (i * 4 + 3) x3).1
 have get : ∀ j, j < 4 → ∃ u, w.cell? ⟨g, i * 4 + j, none⟩ = some u := fun j hj => ⟨_, owns_cell h1 (List.getElem?_eq_getElem (show i * 4 + j < cs.length by omega))⟩
 have nl : ∀ o u, w.cell? ⟨g, o, none⟩ = some u → ¬ IsLimb u := h2 g rfl
 obtain ⟨u0, c0⟩ := get 0 (by omega)
 obtain ⟨u1, c1⟩ := get 1 (by omega)
 obtain ⟨u2, c2⟩ := get 2 (by omega)
 obtain ⟨u3, c3⟩ := get 3 (by omega)
 have K : KeepQ IsLimb w ((((w.setCell ⟨g, i * 4, none⟩ x0).setCell ⟨g, i * 4 + 1, none⟩ x1).setCell ⟨g, i * 4 + 2, none⟩ x2).setCell ⟨g, i * 4 + 3, none⟩ x3) :=
  (((keepL_set c0 (nl _ _ c0) x0).trans (keepL_set (cell_set_by c1 (by omega)) (nl _ _ c1) x1)).trans (keepL_set (cell_set_by (cell_set_by c2 (by omega)) (by omega)) (nl _ _ c2) x2)).trans (keepL_set (cell_set_by (cell_set_by (cell_set_by c3 (by omega)) (by omega)) (by omega)) (nl _ _ c3) x3)
 have q0 : ¬ IsLimb x0 := by obtain ⟨e0, _⟩ := hx; have e0 : x0 = _ := e0; rw [e0]; exact limb_bool _
 obtain ⟨_, p, ao, m, c', bo, k, d', e1, e2, e3, _⟩ := id hx
 have e1 : x1 = _ := e1
 have e2 : x2 = _ := e2
 have e3 : x3 = _ := e3
 have q1 : ¬ IsLimb x1 := by rw [e1]; exact limb_bool _
 have q2 : ¬ IsLimb x2 := by rw [e2]; exact limb_slice _ _ _
 have q3 : ¬ IsLimb x3 := by rw [e3]; exact limb_slice _ _ _
 refine ⟨⟨_, s4, fun g' hg' => ?_, fun k hk => ?_⟩, K⟩
 ·have hgg : g = g' := by simpa [Value.ownBlock] using hg'
  subst hgg
  intro o u hu
  have step : ∀ (W : World) (a : Nat) (y u9 : Value), W.cell? ⟨g, a, none⟩ = some u9 → ¬ IsLimb y → (∀ o u, W.cell? ⟨g, o, none⟩ = some u → ¬ IsLimb u) → ∀ o u, (W.setCell ⟨g, a, none⟩ y).cell? ⟨g, o, none⟩ = some u → ¬ IsLimb u := fun W a y u9 e9 hy hW o u hu => by
   by_cases e : a = o
   ·subst e
    rw [World.cell?_setCell_same _ _ _ e9] at hu; cases hu; exact hy
   ·rw [World.cell?_setCell_other _ _ _ _ (fun e2 => e (by injection e2))] at hu
    exact hW o u hu
  exact step _ _ _ _ (cell_set_by (cell_set_by (cell_set_by c3 (by omega)) (by omega)) (by omega)) q3 (step _ _ _ _ (cell_set_by (cell_set_by c2 (by omega)) (by omega)) q2 (step _ _ _ _ (cell_set_by c1 (by omega)) q1 (step _ _ _ _ c0 q0 nl))) o u hu
 ·by_cases e : k = i
  ·subst e
   rw [updC_same]
   refine (hx.keepL K).congr (fun j hj => ?_)
   simp only [getD_set, List.length_set]
   rcases (by omega : j = 0 ∨ j = 1 ∨ j = 2 ∨ j = 3) with rfl | rfl | rfl | rfl
   ·rw [if_neg (by omega), if_neg (by omega), if_neg (by omega), if_pos (by omega)]; rfl
   ·rw [if_neg (by omega), if_neg (by omega), if_pos (by omega)]; rfl
   ·rw [if_neg (by omega), if_pos (by omega)]; rfl
   ·rw [if_pos (by omega)]; rfl
  ·rw [updC_other _ _ e]
   refine ((h3 k hk).keepL K).congr (fun j hj => ?_)
   simp only [getD_set, List.length_set]
   rw [if_neg (by omega), if_neg (by omega), if_neg (by omega), if_neg (by omega)]

/-- The four cells of the i-th entry, and that they may be written. -/
theorem COwn.cells {B : Nat} {w : World} {g n c : Nat} {r : Nat → Cl} {L : Nat} (h : COwn B w (.slice (some ⟨g, 0, none⟩) n c) n r L) {i : Nat} (hi : i < n) : ∃ u0 u1 u2 u3, w.cell? ⟨g, i * 4, none⟩ = some u0 ∧ w.cell? ⟨g, i * 4 + 1, none⟩ = some u1 ∧ w.cell? ⟨g, i * 4 + 2, none⟩ = some u2 ∧ w.cell? ⟨g, i * 4 + 3, none⟩ = some u3 ∧ w.frozen? ⟨g, i * 4, none⟩ = false ∧ w.frozen? ⟨g, i * 4 + 1, none⟩ = false ∧ w.frozen? ⟨g, i * 4 + 2, none⟩ = false ∧ w.frozen? ⟨g, i * 4 + 3, none⟩ = false := by
 obtain ⟨cs, h1, h2, h3⟩ := h
 have hl : cs.length = n * 4 := h1.1
 have get : ∀ j, j < 4 → ∃ u, w.cell? ⟨g, i * 4 + j, none⟩ = some u := fun j hj => ⟨_, owns_cell h1 (List.getElem?_eq_getElem (show i * 4 + j < cs.length by omega))⟩
 obtain ⟨u0, c0⟩ := get 0 (by omega)
 obtain ⟨u1, c1⟩ := get 1 (by omega)
 obtain ⟨u2, c2⟩ := get 2 (by omega)
 obtain ⟨u3, c3⟩ := get 3 (by omega)
 exact ⟨u0, u1, u2, u3, c0, c1, c2, c3, h1.frozenAt _, h1.frozenAt _, h1.frozenAt _, h1.frozenAt _⟩



theorem cmpQ_eq (q r : Rat) : decide (cmpQ q r = 0) = decide (q = r) := by
 unfold cmpQ
 by_cases h : q = r
 ·subst h; simp
 ·by_cases h2 : q < r
  ·simp [h, h2]
  ·have h3 : r < q := by grind
   simp [h, h2, h3]


def Quad9 (w : World) (b o : Nat) (x y z u : Value) : Prop := w.cell? ⟨b, o, none⟩ = some x ∧ w.cell? ⟨b, o + 1, none⟩ = some y ∧ w.cell? ⟨b, o + 2, none⟩ = some z ∧ w.cell? ⟨b, o + 3, none⟩ = some u
theorem Quad9.out {w : World} {b o : Nat} {x y z u : Value} (h : Quad9 w b o x y z u) : w.cell? ⟨b, o, none⟩ = some x ∧ w.cell? ⟨b, o + 1, none⟩ = some y ∧ w.cell? ⟨b, o + 2, none⟩ = some z ∧ w.cell? ⟨b, o + 3, none⟩ = some u := h
theorem Quad9.below {w w' : World} {b o : Nat} {x y z u : Value} (h : Quad9 w b o x y z u) (hb : Below w.heap.size w w') : Quad9 w' b o x y z u := by
 have hl := World.block_lt_of_cell? w _ h.1
 exact ⟨(hb.cell (p := ⟨b, o, none⟩) hl).trans h.1, (hb.cell (p := ⟨b, o + 1, none⟩) hl).trans h.2.1, (hb.cell (p := ⟨b, o + 2, none⟩) hl).trans h.2.2.1, (hb.cell (p := ⟨b, o + 3, none⟩) hl).trans h.2.2.2⟩


end Go.Proofs.YtnnnkajomljdgaaGreatDoor
