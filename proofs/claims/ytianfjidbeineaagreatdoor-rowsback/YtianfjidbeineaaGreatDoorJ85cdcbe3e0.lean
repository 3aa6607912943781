/-
  Texts of mine, joined: what lies beneath the statement.
-/
import Derived.Test.YtianfjidbeineaaGreatDoorJdc69fa090d
import Derived.Test.YtianfjidbeineaaGreatDoorJab55d695f0
import Derived.Laws.OwnMore
import Derived.Deep.QuietTactic
import Derived.BigQuiet
import Derived.Test.YtianfjidbeineaaGreatDoorJ8baa95956e
namespace Go.Proofs.YtianfjidbeineaaGreatDoor
open Go.RowKit
set_option linter.unusedVariables false
set_option linter.unusedSimpArgs false

def noTok : Tok := (0, 0, ByteArray.empty)
/-- Words in memory, to be read. -/
def TkAt (w : World) (v : Value) (l : List Tok) : Prop := RowAt 3 w v l.length (fun i j => (cellsT (l.getD i noTok)).getD j undef)
theorem TkAt.below {w w' : World} {v : Value} {l : List Tok} (h : TkAt w v l) (hb : Below w.heap.size w w') : TkAt w' v l := RowAt.below h hb
theorem TkAt.open {w : World} {v : Value} {l : List Tok} (h : TkAt w v l) : ∃ a c, v = .slice a l.length c ∧ l.length ≤ c ∧ c ≤ 9223372036854775807 := by
  obtain ⟨a, c, h1, h2, h3, _⟩ := h
  exact ⟨a, c, h1, h2, h3⟩
theorem TkAt.at {w : World} {v : Value} {l : List Tok} (h : TkAt w v l) {i : Nat} {t : Tok} (ht : l[i]? = some t) : ∃ b off c, v = .slice (some ⟨b, off, none⟩) l.length c ∧ w.cell? ⟨b, off + i * 3, none⟩ = some (.int .i64 (t.1 : Int)) ∧ w.cell? ⟨b, off + i * 3 + 1, none⟩ = some (.int .i64 (t.2.1 : Int)) ∧ w.cell? ⟨b, off + i * 3 + 2, none⟩ = some (.string t.2.2) := by
  obtain ⟨a, c, h1, h2, h3, h4⟩ := h
  have hi : i < l.length := (List.getElem?_eq_some_iff.1 ht).1
  obtain ⟨b, off, rfl, hc⟩ := h4 (by omega)
  have hg : l.getD i noTok = t := by rw [List.getD_eq_getElem?_getD, ht]; rfl
  have hc : ∀ j, j < 3 → w.cell? ⟨b, off + i * 3 + j, none⟩ = some ((cellsT (l.getD i noTok)).getD j undef) := hc i hi
  rw [hg] at hc
  exact ⟨b, off, c, h1, hc 0 (by omega), hc 1 (by omega), hc 2 (by omega)⟩
theorem TOwn.tk {B : Nat} {w : World} {v : Value} {l : List Tok} (h : TOwn B w v l) : TkAt w v l := by
  refine RowAt.of_owns h (fun i hi j hj => ?_)
  have hg : l[i]? = some l[i] := List.getElem?_eq_getElem hi
  rw [flatT_at l i l[i] hg j hj]
  have : l.getD i noTok = l[i] := by rw [List.getD_eq_getElem?_getD, hg]; rfl
  rw [this]
  rcases (by omega : j = 0 ∨ j = 1 ∨ j = 2) with rfl | rfl | rfl <;> rfl

/-- A row with another entry. -/
def updC (r : Nat → Cl) (i : Nat) (d : Cl) : Nat → Cl := fun k => if k = i then d else r k
theorem updC_same (r : Nat → Cl) (i : Nat) (d : Cl) : updC r i d i = d := if_pos rfl
theorem updC_other (r : Nat → Cl) {i k : Nat} (d : Cl) (h : k ≠ i) : updC r i d k = r k := if_neg h
theorem COwn.below {B : Nat} {w w' : World} {v : Value} {n : Nat} {t : Nat → Cl} {L : Nat} (h : COwn B w v n t L) (hb : Below w.heap.size w w') : COwn B w' v n t L := h.later hb
theorem COwn.congr {B : Nat} {w : World} {v : Value} {n : Nat} {t t' : Nat → Cl} {L : Nat} (h : COwn B w v n t L) (e : ∀ i, i < n → t i = t' i) : COwn B w v n t' L := by
  obtain ⟨cs, h1, h2, h3⟩ := h
  exact ⟨cs, h1, h2, fun i hi => e i hi ▸ h3 i hi⟩
theorem COwn.mono {B : Nat} {w : World} {v : Value} {n : Nat} {t : Nat → Cl} {L L' : Nat} (h : COwn B w v n t L) (hL : L ≤ L') : COwn B w v n t L' := by
  obtain ⟨cs, h1, h2, h3⟩ := h
  exact ⟨cs, h1, h2, fun i hi => (h3 i hi).mono hL⟩
theorem zero_cell (w : World) (L : Nat) : CellAt w (fun j => [.bool false, .bool false, .slice none 0 0, .slice none 0 0].getD j undef) ⟨false, 0⟩ L := ⟨rfl, false, none, 0, 0, none, 0, 0, rfl, rfl, rfl, RatAt.nil w L⟩
theorem made4 (n i j : Nat) (hi : i < n) (hj : j < 4) : (madeCells (Value.agg #[.bool false, .bool false, .slice none 0 0, .slice none 0 0]).cells (n * 4)).toList.getD (i * 4 + j) undef = [Value.bool false, .bool false, .slice none 0 0, .slice none 0 0].getD j undef := by
  have hlt : i * 4 + j < n * 4 := by omega
  simp only [madeCells, Value.cells, List.getD_eq_getElem?_getD]
  rw [Array.getElem?_toList, Array.getElem?_map, Array.getElem?_range, if_pos hlt]
  simp only [Option.map_some, Option.getD_some]
  rw [show (i * 4 + j) % (#[Value.bool false, .bool false, .slice none 0 0, .slice none 0 0] : Array Value).size = j by simp; omega]
  rcases (by omega : j = 0 ∨ j = 1 ∨ j = 2 ∨ j = 3) with rfl | rfl | rfl | rfl <;> rfl
/-- A made row: numbers that are 0. -/
theorem COwn.made {B : Nat} {w : World} {g n : Nat} (L : Nat) (h : w.ownsRow B 29 4 (.slice (some ⟨g, 0, none⟩) n n) n (madeCells (Value.agg #[.bool false, .bool false, .slice none 0 0, .slice none 0 0]).cells (n * 4)).toList) : COwn B w (.slice (some ⟨g, 0, none⟩) n n) n (fun _ => ⟨false, 0⟩) L := by
  have hc : ∀ i, i < n → ∀ j, j < 4 → w.cell? ⟨g, i * 4 + j, none⟩ = some ([Value.bool false, .bool false, .slice none 0 0, .slice none 0 0].getD j undef) := fun i hi j hj => by
    have hlt : i * 4 + j < (madeCells (Value.agg #[.bool false, .bool false, .slice none 0 0, .slice none 0 0]).cells (n * 4)).toList.length := by rw [h.1]; omega
    have := owns_cell h (j := i * 4 + j) (u := (madeCells (Value.agg #[.bool false, .bool false, .slice none 0 0, .slice none 0 0]).cells (n * 4)).toList.getD (i * 4 + j) undef) (by rw [List.getD_eq_getElem?_getD, List.getElem?_eq_getElem hlt]; rfl)
    rw [made4 n i j hi hj] at this
    exact this
  refine ⟨_, h, fun g' hg' => ?_, fun i hi => (zero_cell w L).congr (fun j hj => (made4 n i j hi hj).symm)⟩
  have hgg : g = g' := by simpa [Value.ownBlock] using hg'
  subst hgg
  intro o u hu
  rcases h.2 with ⟨e, _⟩ | ⟨g2, c2, cur, e, _, hgh, _, _, hcs, _⟩
  · cases e
  · cases e
    have hlt : o < n * 4 := by
      rw [cell_of_row _ _ _ _ _ _ hgh] at hu
      have := (Array.getElem?_eq_some_iff.1 hu).1
      omega
    have := hc (o / 4) (by omega) (o % 4) (by omega)
    rw [show o / 4 * 4 + o % 4 = o by omega] at this
    rw [this] at hu
    cases hu
    rcases (by omega : o % 4 = 0 ∨ o % 4 = 1 ∨ o % 4 = 2 ∨ o % 4 = 3) with e | e | e | e <;> rw [e]
    · exact limb_bool _
    · exact limb_bool _
    · exact limb_slice _ _ _
    · exact limb_slice _ _ _
theorem getD_set {l : List Value} {i j : Nat} {x : Value} : (l.set i x).getD j undef = if i = j ∧ j < l.length then x else l.getD j undef := by
  simp only [List.getD_eq_getElem?_getD, List.getElem?_set]
  by_cases h : i = j
  · subst h
    by_cases h2 : i < l.length
    · simp [h2]
    · simp [h2]
  · simp [h]
/-- One entry is set. -/
theorem COwn.put {B : Nat} {w : World} {g n c : Nat} {r : Nat → Cl} {L : Nat} (h : COwn B w (.slice (some ⟨g, 0, none⟩) n c) n r L) {i : Nat} (hi : i < n) {x0 x1 x2 x3 : Value} {d : Cl} (hx : CellAt w (fun j => [x0, x1, x2, x3].getD j undef) d L) :
    COwn B ((((w.setCell ⟨g, i * 4, none⟩ x0).setCell ⟨g, i * 4 + 1, none⟩ x1).setCell ⟨g, i * 4 + 2, none⟩ x2).setCell ⟨g, i * 4 + 3, none⟩ x3) (.slice (some ⟨g, 0, none⟩) n c) n (updC r i d) L ∧ KeepQ IsLimb w ((((w.setCell ⟨g, i * 4, none⟩ x0).setCell ⟨g, i * 4 + 1, none⟩ x1).setCell ⟨g, i * 4 + 2, none⟩ x2).setCell ⟨g, i * 4 + 3, none⟩ x3) := by
  obtain ⟨cs, h1, h2, h3⟩ := h
  have hl : cs.length = n * 4 := h1.1
  have s1 := (h1.stored (i * 4) x0).1
  have s2 := (s1.stored (i * 4 + 1) x1).1
  have s3 := (s2.stored (i * 4 + 2) x2).1
  have s4 := (s3.stored (i * 4 + 3) x3).1
  have get : ∀ j, j < 4 → ∃ u, w.cell? ⟨g, i * 4 + j, none⟩ = some u := fun j hj => ⟨_, owns_cell h1 (List.getElem?_eq_getElem (show i * 4 + j < cs.length by omega))⟩
  have nl : ∀ o u, w.cell? ⟨g, o, none⟩ = some u → ¬ IsLimb u := h2 g rfl
  obtain ⟨u0, c0⟩ := get 0 (by omega)
  obtain ⟨u1, c1⟩ := get 1 (by omega)
  obtain ⟨u2, c2⟩ := get 2 (by omega)
  obtain ⟨u3, c3⟩ := get 3 (by omega)
  have K : KeepQ IsLimb w ((((w.setCell ⟨g, i * 4, none⟩ x0).setCell ⟨g, i * 4 + 1, none⟩ x1).setCell ⟨g, i * 4 + 2, none⟩ x2).setCell ⟨g, i * 4 + 3, none⟩ x3) :=
    (((keepL_set c0 (nl _ _ c0) x0).trans (keepL_set (cell_set_by c1 (by omega)) (nl _ _ c1) x1)).trans (keepL_set (cell_set_by (cell_set_by c2 (by omega)) (by omega)) (nl _ _ c2) x2)).trans (keepL_set (cell_set_by (cell_set_by (cell_set_by c3 (by omega)) (by omega)) (by omega)) (nl _ _ c3) x3)
  have q0 : ¬ IsLimb x0 := by obtain ⟨e0, _⟩ := hx; have e0 : x0 = _ := e0; rw [e0]; exact limb_bool _
  obtain ⟨_, p, ao, m, c', bo, k, d', e1, e2, e3, _⟩ := id hx
  have e1 : x1 = _ := e1
  have e2 : x2 = _ := e2
  have e3 : x3 = _ := e3
  have q1 : ¬ IsLimb x1 := by rw [e1]; exact limb_bool _
  have q2 : ¬ IsLimb x2 := by rw [e2]; exact limb_slice _ _ _
  have q3 : ¬ IsLimb x3 := by rw [e3]; exact limb_slice _ _ _
  refine ⟨⟨_, s4, fun g' hg' => ?_, fun k hk => ?_⟩, K⟩
  · have hgg : g = g' := by simpa [Value.ownBlock] using hg'
    subst hgg
    intro o u hu
    have step : ∀ (W : World) (a : Nat) (y u9 : Value), W.cell? ⟨g, a, none⟩ = some u9 → ¬ IsLimb y → (∀ o u, W.cell? ⟨g, o, none⟩ = some u → ¬ IsLimb u) → ∀ o u, (W.setCell ⟨g, a, none⟩ y).cell? ⟨g, o, none⟩ = some u → ¬ IsLimb u := fun W a y u9 e9 hy hW o u hu => by
      by_cases e : a = o
      · subst e
        rw [World.cell?_setCell_same _ _ _ e9] at hu; cases hu; exact hy
      · rw [World.cell?_setCell_other _ _ _ _ (fun e2 => e (by injection e2))] at hu
        exact hW o u hu
    exact step _ _ _ _ (cell_set_by (cell_set_by (cell_set_by c3 (by omega)) (by omega)) (by omega)) q3 (step _ _ _ _ (cell_set_by (cell_set_by c2 (by omega)) (by omega)) q2 (step _ _ _ _ (cell_set_by c1 (by omega)) q1 (step _ _ _ _ c0 q0 nl))) o u hu
  · by_cases e : k = i
    · subst e
      rw [updC_same]
      refine (hx.keepL K).congr (fun j hj => ?_)
      simp only [getD_set, List.length_set]
      rcases (by omega : j = 0 ∨ j = 1 ∨ j = 2 ∨ j = 3) with rfl | rfl | rfl | rfl
      · rw [if_neg (by omega), if_neg (by omega), if_neg (by omega), if_pos (by omega)]; rfl
      · rw [if_neg (by omega), if_neg (by omega), if_pos (by omega)]; rfl
      · rw [if_neg (by omega), if_pos (by omega)]; rfl
      · rw [if_pos (by omega)]; rfl
    · rw [updC_other _ _ e]
      refine ((h3 k hk).keepL K).congr (fun j hj => ?_)
      simp only [getD_set, List.length_set]
      rw [if_neg (by omega), if_neg (by omega), if_neg (by omega), if_neg (by omega)]

/-- The four cells of the i-th entry, and that they may be written. -/
theorem COwn.cells {B : Nat} {w : World} {g n c : Nat} {r : Nat → Cl} {L : Nat} (h : COwn B w (.slice (some ⟨g, 0, none⟩) n c) n r L) {i : Nat} (hi : i < n) : ∃ u0 u1 u2 u3, w.cell? ⟨g, i * 4, none⟩ = some u0 ∧ w.cell? ⟨g, i * 4 + 1, none⟩ = some u1 ∧ w.cell? ⟨g, i * 4 + 2, none⟩ = some u2 ∧ w.cell? ⟨g, i * 4 + 3, none⟩ = some u3 ∧ w.frozen? ⟨g, i * 4, none⟩ = false ∧ w.frozen? ⟨g, i * 4 + 1, none⟩ = false ∧ w.frozen? ⟨g, i * 4 + 2, none⟩ = false ∧ w.frozen? ⟨g, i * 4 + 3, none⟩ = false := by
  obtain ⟨cs, h1, h2, h3⟩ := h
  have hl : cs.length = n * 4 := h1.1
  have get : ∀ j, j < 4 → ∃ u, w.cell? ⟨g, i * 4 + j, none⟩ = some u := fun j hj => ⟨_, owns_cell h1 (List.getElem?_eq_getElem (show i * 4 + j < cs.length by omega))⟩
  obtain ⟨u0, c0⟩ := get 0 (by omega)
  obtain ⟨u1, c1⟩ := get 1 (by omega)
  obtain ⟨u2, c2⟩ := get 2 (by omega)
  obtain ⟨u3, c3⟩ := get 3 (by omega)
  exact ⟨u0, u1, u2, u3, c0, c1, c2, c3, h1.frozenAt _, h1.frozenAt _, h1.frozenAt _, h1.frozenAt _⟩
theorem below_store4x {B R o : Nat} {w w' : World} (h : Below B w w') (hR : B ≤ R) (x y z u : Value) : Below B w ((((w'.setCell ⟨R, o, none⟩ x).setCell ⟨R, o + 1, none⟩ y).setCell ⟨R, o + 2, none⟩ z).setCell ⟨R, o + 3, none⟩ u) := (((h.setCell hR _).setCell hR _).setCell hR _).setCell hR _

/-- The i-th word's text. -/
def tx (l : List Tok) (i : Nat) : ByteArray := (l.getD i noTok).2.2
/-- Words whose texts are short, and are short numbers. -/
def Short (L : Nat) (l : List Tok) : Prop := l.length ≤ 100000 ∧ ∀ i, i < l.length → (tx l i).size ≤ 9000 ∧ qsz (qval (tx l i)) ≤ L
def WordsRes (l : List Tok) (L : Nat) (B : Nat) (e : Ending) (w' : World) : Prop :=
  (∃ i, i < l.length ∧ (∀ j, j < i → cerr (tx l j) = 0) ∧ cerr (tx l i) ≠ 0 ∧ e = .returned (.tuple #[.slice none 0 0, .int .i64 ((l.getD i noTok).1 : Int), .int .i64 (cerr (tx l i))])) ∨
  ((∀ j, j < l.length → cerr (tx l j) = 0) ∧ ∃ r, e = .returned (.tuple #[r, .int .i64 0, .int .i64 0]) ∧ COwn B w' r l.length (fun i => cval (tx l i)) L)
theorem tok_get {l : List Tok} {i : Nat} (hi : i < l.length) : l[i]? = some (l.getD i noTok) := by
  rw [List.getD_eq_getElem?_getD, List.getElem?_eq_getElem hi]; rfl
theorem upd_upto (f : Nat → Cl) (i : Nat) : ∀ k, updC (fun k => if k < i then f k else ⟨false, 0⟩) i (f i) k = if k < i + 1 then f k else ⟨false, 0⟩ := fun k => by
  unfold updC
  by_cases h : k = i
  · subst h; rw [if_pos rfl, if_pos (by omega)]
  · rw [if_neg h]
    show (if k < i then f k else ⟨false, 0⟩) = _
    by_cases h2 : k < i
    · rw [if_pos h2, if_pos (by omega)]
    · rw [if_neg h2, if_neg (by omega)]

set_option maxRecDepth 100000 in
set_option maxHeartbeats 4000000 in
theorem rwords_at (v : Value) (l : List Tok) (L : Nat) (w : World) (hv : TkAt w v l) (hS : Short L l) (ht : Tab w) :
    Calls Tryz.prog 35 #[v] w fun e w' => WordsRes l L w.heap.size e w' ∧ Below w.heap.size w w' := by
  obtain ⟨ao, c, rfl, hnc, hc63⟩ := hv.open
  obtain ⟨i0, hi, hz0, hz1, hz2⟩ := info_parts info_cell
  have hv0 : Hid (TkAt w (.slice ao l.length c) l) := hv
  have HS : Hid (Short L l) := hS
  have hn : l.length ≤ 100000 := hS.1
  clear hv hS
  generalize hN : l.length = n at *
  have HN : Hid (l.length = n) := hN
  clear hN
  go_enter Tryz.func35, Tryz.ntmps35
  go_wp2_with (at_make; refine wpList_make_full _ rfl _ _ 39 rfl _ 29 i0 (.agg #[.bool false, .bool false, .slice none 0 0, .slice none 0 0]) 4 Tryz.underlying39 hi hz0 hz1 _ _ _ _ n rfl rfl (by omega) (by omega) (by rw [hz2]; omega) (by unfold maxLen; omega) (Nat.le_refl _) ?_; intro w1 hown hgrow)
  have CO0 : COwn w.heap.size w1 (.slice (some ⟨w.heap.size, 0, none⟩) n n) n (fun k => if k < 0 then cval (tx l k) else ⟨false, 0⟩) L := (COwn.made L hown).congr (fun k hk => by rw [if_neg (by omega)])
  have hb1 := below_grown hgrow
  clear hown hgrow hi hz0 hz1 hz2
  go_wp2
  go_loopw [15] (fun vi wr => ∃ i : Nat, i ≤ n ∧ vi = .int .i64 (i : Int) ∧ Hid (∀ j, j < i → cerr (tx l j) = 0) ∧ COwn w.heap.size wr (.slice (some ⟨w.heap.size, 0, none⟩) n n) n (fun k => if k < i then cval (tx l k) else ⟨false, 0⟩) L ∧ Below w.heap.size w wr) (fun vi _ => n - (intOf vi).toNat)
  case atStart => exact ⟨0, by omega, rfl, fun j hj => by omega, CO0, hb1⟩
  case round =>
    clear CO0 hb1
    obtain ⟨i, hi, rfl, HJ, CO, BB⟩ := hrel
    by_cases hlt : i < n
    · have g1 : (i : Int) < (n : Int) := by omega
      have g0 : (0 : Int) ≤ (i : Int) := by omega
      have hlt2 : i < l.length := by rw [HN.out]; exact hlt
      obtain ⟨s1, s2⟩ := HS.out.2 i hlt2
      have hvr := hv0.out.below BB
      obtain ⟨b, off, c9, hvv, X0, X1, X2⟩ := hvr.at (tok_get hlt2)
      rw [HN.out] at hvv
      cases hvv
      have HT : Hid ((l.getD i noTok).2.2 = tx l i) := rfl
      have HP : Hid ((l.getD i noTok).1 = (l.getD i noTok).1) := rfl
      generalize htt : (l.getD i noTok).1 = tA at X0
      have HTA : Hid ((l.getD i noTok).1 = tA) := htt
      generalize htb : (l.getD i noTok).2.1 = tB at X1
      rw [HT.out] at X2
      clear htt htb hvr HT HP
      generalize hts : tx l i = s at X2 s1 s2
      have HTS : Hid (tx l i = s) := hts
      clear hts
      obtain ⟨Wa, hWa, hSa, hLa, VW⟩ := V3.lay wr 51 (.int .i64 (tA : Int)) (.int .i64 (tB : Int)) (.string s)
      obtain ⟨z1, z2, z3, z4, z5, z6⟩ := id VW
      rw [hWa] at z1 z2 z3 z4 z5 z6
      go_wp2_with fail
      rw [← hWa]
      clear z1 z2 z3 z4 z5 z6 X0 X1 X2
      have COa := CO.below hLa
      have BBa := BB.trans (hLa.mono BB.size)
      have hRa : wr.heap.size < Wa.heap.size := VW.lt
      have hRw : w.heap.size < wr.heap.size := (CO.blocks _ rfl).2
      clear hWa hSa CO BB
      generalize wr.heap.size = Ra at *
      refine (rcell_at s L _ s1 (ht.below BBa) s2).mono ?_
      rintro e w2 ⟨p, a, m, c2, b2, k, d, rfl, hr, bb⟩
      replace COa := COa.below bb
      replace VW := VW.below bb
      replace BBa := BBa.trans (bb.mono BBa.size)
      have hRa2 : Ra < w2.heap.size := VW.lt
      clear bb hLa
      have HCE : Hid (cerr s = cerr s) := rfl
      generalize hce : cerr s = ce
      have HCe : Hid (cerr (tx l i) = ce) := by show _ = _; rw [HTS.out]; exact hce
      generalize hcm : (cval s).miss = ms
      have HMs : Hid ((cval (tx l i)).miss = ms) := by show _ = _; rw [HTS.out]; exact hcm
      generalize hcv : (cval s).val = vs at hr
      have HVs : Hid ((cval (tx l i)).val = vs) := by show _ = _; rw [HTS.out]; exact hcv
      clear hce hcm hcv HCE
      by_cases hc0 : ce = 0
      · subst hc0
        obtain ⟨Wc, hWc, hSc, hLc, VC⟩ := V4.lay w2 29 (.bool ms) (.bool p) (.slice a m c2) (.slice b2 k d)
        have COc := COa
        have hA : CellAt w2 (fun j => [.bool ms, .bool p, .slice a m c2, .slice b2 k d].getD j undef) (cval (tx l i)) L := ⟨by rw [HMs.out]; rfl, p, a, m, c2, b2, k, d, rfl, rfl, rfl, by rw [HVs.out]; exact hr⟩
        obtain ⟨COn, KK⟩ := COa.put hlt hA
        have BBn := below_store4x (R := w.heap.size) (o := i * 4) BBa (Nat.le_refl _) (.bool ms) (.bool p) (.slice a m c2) (.slice b2 k d)
        have hAl : ∀ o, Below w2.heap.size ((((w2.setCell ⟨w.heap.size, i * 4, none⟩ (.bool ms)).setCell ⟨w.heap.size, i * 4 + 1, none⟩ (.bool p)).setCell ⟨w.heap.size, i * 4 + 2, none⟩ (.slice a m c2)).setCell ⟨w.heap.size, i * 4 + 3, none⟩ (.slice b2 k d)) (((((w2.setCell ⟨w.heap.size, i * 4, none⟩ (.bool ms)).setCell ⟨w.heap.size, i * 4 + 1, none⟩ (.bool p)).setCell ⟨w.heap.size, i * 4 + 2, none⟩ (.slice a m c2)).setCell ⟨w.heap.size, i * 4 + 3, none⟩ (.slice b2 k d)).alloc o) := fun o => (Below.refl _ _).alloc (by simp) _
        have HA1 : Hid (∀ o, COwn w.heap.size (((((w2.setCell ⟨w.heap.size, i * 4, none⟩ (.bool ms)).setCell ⟨w.heap.size, i * 4 + 1, none⟩ (.bool p)).setCell ⟨w.heap.size, i * 4 + 2, none⟩ (.slice a m c2)).setCell ⟨w.heap.size, i * 4 + 3, none⟩ (.slice b2 k d)).alloc o) (.slice (some ⟨w.heap.size, 0, none⟩) n n) n (fun k => if k < i + 1 then cval (tx l k) else ⟨false, 0⟩) L ∧ Below w.heap.size w (((((w2.setCell ⟨w.heap.size, i * 4, none⟩ (.bool ms)).setCell ⟨w.heap.size, i * 4 + 1, none⟩ (.bool p)).setCell ⟨w.heap.size, i * 4 + 2, none⟩ (.slice a m c2)).setCell ⟨w.heap.size, i * 4 + 3, none⟩ (.slice b2 k d)).alloc o)) := fun o => ⟨(COn.congr (fun k hk => upd_upto (fun k => cval (tx l k)) i k)).below ((hAl o).mono (by simp)), BBn.trans ((hAl o).mono BBa.size)⟩
        have CF := COc.cells hlt
        obtain ⟨u0, u1, u2, u3, f0, f1, f2, f3, k0, k1, k2, k3⟩ := CF
        have hwl : w.heap.size < w2.heap.size := by omega
        clear COn KK BBn hAl hA hr COa COc VC hWc hSc hLc VW BBa
        go_wp2
        go_roundw
        case rel => exact ⟨i + 1, by omega, by go_num, fun j hj => by
          by_cases e : j = i
          · rw [e]; exact HCe.out
          · exact HJ.out j (by omega), (HA1.out _).1, (HA1.out _).2⟩
        case measure => simp [intOf]; omega
      · have hcb : (ce != 0) = true := by simp [hc0]
        have HC0 : Hid (¬ ce = 0) := hc0
        obtain ⟨z1, z2, z3, z4, z5, z6⟩ := id VW
        obtain ⟨Wc, hWc, hSc, hLc, VC⟩ := V4.lay w2 29 (.bool ms) (.bool p) (.slice a m c2) (.slice b2 k d)
        have BBc := BBa.trans (hLc.mono BBa.size)
        rw [hWc] at BBc
        clear VC hWc hSc hLc COa hr
        go_wp2
        go_quiet (fail)
        go_wp2
        go_ret3
        exact ⟨.inl ⟨i, hlt2, HJ.out, by rw [HCe.out]; exact HC0.out, by rw [HCe.out, HTA.out]; rfl⟩, below_drewN BBc _⟩
    · obtain rfl : i = n := by omega
      have g1 : ¬ (i : Int) < (i : Int) := by omega
      go_wp2
      go_ret3
      exact ⟨.inr ⟨fun j hj => HJ.out j (by rw [HN.out] at hj; exact hj), _, rfl, by rw [HN.out]; exact CO.congr (fun k hk => if_pos hk)⟩, BB⟩

set_option maxRecDepth 100000 in
set_option maxHeartbeats 4000000 in
theorem lwords_at (v : Value) (l : List Tok) (L : Nat) (w : World) (hv : TkAt w v l) (hS : Short L l) (ht : Tab w) :
    Calls Tryz.prog 18 #[v] w fun e w' => WordsRes l L w.heap.size e w' ∧ Below w.heap.size w w' := by
  obtain ⟨ao, c, rfl, hnc, hc63⟩ := hv.open
  have hv0 : Hid (TkAt w (.slice ao l.length c) l) := hv
  have HS : Hid (Short L l) := hS
  have hn : l.length ≤ 100000 := hS.1
  clear hv hS
  generalize hN : l.length = n at *
  have HN : Hid (l.length = n) := hN
  clear hN
  go_enter Tryz.func18, Tryz.ntmps18
  go_wp2
  go_loopw [5, 6] (fun vo vi wr => ∃ i : Nat, i ≤ n ∧ vi = .int .i64 (i : Int) ∧ Hid (∀ j, j < i → cerr (tx l j) = 0) ∧ COwn w.heap.size wr vo i (fun k => cval (tx l k)) L ∧ Below w.heap.size w wr) (fun _ vi _ => n - (intOf vi).toNat)
  case atStart => exact ⟨0, by omega, rfl, fun j hj => by omega, COwn.nil _ _ _ _, Below.refl _ _⟩
  case round =>
    obtain ⟨i, hi, rfl, HJ, CO, BB⟩ := hrel
    obtain ⟨ac, cc, rfl⟩ := CO.form
    by_cases hlt : i < n
    · have g1 : (i : Int) < (n : Int) := by omega
      have g0 : (0 : Int) ≤ (i : Int) := by omega
      have hlt2 : i < l.length := by rw [HN.out]; exact hlt
      obtain ⟨s1, s2⟩ := HS.out.2 i hlt2
      have hvr := hv0.out.below BB
      obtain ⟨b, off, c9, hvv, X0, X1, X2⟩ := hvr.at (tok_get hlt2)
      rw [HN.out] at hvv
      cases hvv
      have HT : Hid ((l.getD i noTok).2.2 = tx l i) := rfl
      generalize htt : (l.getD i noTok).1 = tA at X0
      have HTA : Hid ((l.getD i noTok).1 = tA) := htt
      rw [HT.out] at X2
      clear htt hvr HT X1
      generalize hts : tx l i = s at X2 s1 s2
      have HTS : Hid (tx l i = s) := hts
      clear hts
      go_wp2_with fail
      clear X2
      refine (lcell_at s L _ s1 (ht.below BB) s2).mono ?_
      rintro e w2 ⟨p, a, m, c2, b2, k, d, rfl, hr, bb⟩
      replace CO := CO.below bb
      replace X0 : w2.cell? ⟨b, off + i * 3, none⟩ = some (.int .i64 (tA : Int)) := (bb.cell (World.block_lt_of_cell? _ _ X0)).trans X0
      replace BB := BB.trans (bb.mono BB.size)
      clear bb
      generalize hce : cerr s = ce
      have HCe : Hid (cerr (tx l i) = ce) := by show _ = _; rw [HTS.out]; exact hce
      generalize hcm : (cval s).miss = ms
      have HMs : Hid ((cval (tx l i)).miss = ms) := by show _ = _; rw [HTS.out]; exact hcm
      generalize hcv : (cval s).val = vs at hr
      have HVs : Hid ((cval (tx l i)).val = vs) := by show _ = _; rw [HTS.out]; exact hcv
      clear hce hcm hcv
      obtain ⟨Wc, hWc, hSc, hLc, VC⟩ := V4.lay w2 29 (.bool ms) (.bool p) (.slice a m c2) (.slice b2 k d)
      have BBc := BB.trans (hLc.mono BB.size)
      by_cases hc0 : ce = 0
      · subst hc0
        have hA0 : CellAt w2 (fun j => [.bool ms, .bool p, .slice a m c2, .slice b2 k d].getD j undef) (cval (tx l i)) L := ⟨by rw [HMs.out]; rfl, p, a, m, c2, b2, k, d, rfl, rfl, rfl, by rw [HVs.out]; exact hr⟩
        have hAl : Below Wc.heap.size Wc (Wc.alloc (.cells #[.bool ms, .bool p, .slice a m c2, .slice b2 k d] 29)) := (Below.refl _ _).alloc (Nat.le_refl _) _
        have hL2 := hLc.trans (hAl.mono hLc.size)
        have CO2 := CO.below hL2
        have HCA : Hid (CellAt (Wc.alloc (.cells #[.bool ms, .bool p, .slice a m c2, .slice b2 k d] 29)) (fun j => [.bool ms, .bool p, .slice a m c2, .slice b2 k d].getD j undef) (cval (tx l i)) L) := hA0.below hL2
        have BB2 := BBc.trans (hAl.mono BBc.size)
        obtain ⟨cs, hcl, hco, hcp, hcn⟩ := CO2.parts
        have hsz2 := BB2.size
        have hbk := CO2.blocks
        have HCN : Hid (∀ j, j < i → CellAt (Wc.alloc (.cells #[.bool ms, .bool p, .slice a m c2, .slice b2 k d] 29)) (fun x => cs.getD (j * 4 + x) undef) (cval (tx l j)) L) := hcn
        have HCL : Hid (cs.length = i * 4) := hcl
        have hnb := news_block (heap_alloc_new Wc (.cells #[.bool ms, .bool p, .slice a m c2, .slice b2 k d] 29))
        rw [hSc] at hnb
        clear hcn hcl CO2 CO hL2 hAl hA0 BBc hLc VC X0 BB hr hSc
        subst hWc
        go_wp2_with (first
          | (at_builtin
             refine wpList_append_pure (Q' := IsLimb) rfl _ _ _ rfl w.heap.size 29 (.agg #[.bool false, .bool false, .slice none 0 0, .slice none 0 0]) 4 64 Tryz.underlying39 info_cell rfl (by omega) (.slice ac i cc) rfl i cs hco hcp ⟨w2.heap.size + 1, 0, none⟩ 1 rfl [.bool ms, .bool p, .slice a m c2, .slice b2 k d] rfl ?g14 ?g15 ?g16 ?g17 (by omega) (by omega) hsz2 ?_
             case g14 => exact hnb
             case g15 => simp [Value.oneCell']
             case g16 => simp [limb_bool, limb_slice]
             case g17 => simp [Value.cells, limb_bool, limb_slice]
             intro gN cN w5 ho5 hg5 _ hp5 hk5
             have CO5 : COwn w.heap.size w5 (.slice (some ⟨gN, 0, none⟩) (i + 1) cN) (i + 1) (fun k => cval (tx l k)) L := COwn.more (v := .slice none 0 0) ho5 HCL.out (fun g hg => by cases hg; exact hp5) hk5 HCN.out HCA.out
             have BI5 : Below w.heap.size w w5 := below_grownB BB2 hg5 hsz2 (fun g hg => (hbk g hg).1)
             clear ho5 hg5 hp5 hk5 hco hcp BB2 hbk HCN HCA HCL hnb))
        go_roundw
        case rel => exact ⟨i + 1, by omega, by go_num, fun j hj => by
          by_cases e : j = i
          · rw [e]; exact HCe.out
          · exact HJ.out j (by omega), CO5, BI5⟩
        case measure => simp [intOf]; omega
      · have hcb : (ce != 0) = true := by simp [hc0]
        have HC0 : Hid (¬ ce = 0) := hc0
        rw [hWc] at BBc
        have X0c : (w2.alloc (.cells #[.bool ms, .bool p, .slice a m c2, .slice b2 k d] 29)).cell? ⟨b, off + i * 3, none⟩ = some (.int .i64 (tA : Int)) := by rw [← hWc]; exact (hLc.cell (World.block_lt_of_cell? _ _ X0)).trans X0
        clear VC hWc hSc hLc CO hr X0
        go_wp2
        go_quiet (fail)
        go_wp2
        go_ret3
        exact ⟨.inl ⟨i, hlt2, HJ.out, by rw [HCe.out]; exact HC0.out, by rw [HCe.out, HTA.out]; rfl⟩, below_drewN BBc _⟩
    · obtain rfl : i = n := by omega
      have g1 : ¬ (i : Int) < (i : Int) := by omega
      go_wp2
      go_ret3
      exact ⟨.inr ⟨fun j hj => HJ.out j (by rw [HN.out] at hj; exact hj), _, rfl, by rw [HN.out]; exact CO⟩, BB⟩

set_option maxRecDepth 100000 in
set_option maxHeartbeats 4000000 in
theorem few9_at (v : Value) (n K : Nat) (r : Nat → Cl) (w : World) (hv : CRaw w v n r 3) (hK : K ≤ 1000) :
    Calls Tryz.prog 20 #[v, .int .i64 (K : Int)] w fun e w' => ∃ u, e = .returned u ∧ COwn w.heap.size w' u (min n K) r 3 ∧ Below w.heap.size w w' := by
  obtain ⟨ao, c, rfl, hnc, hc63⟩ := hv.open
  have hv0 : Hid (CRaw w (.slice ao n c) n r 3) := hv
  clear hv
  go_enter Tryz.func20, Tryz.ntmps20
  go_wp2
  go_loopw [5, 6] (fun vo vi wr => ∃ i : Nat, i ≤ min n K ∧ vi = .int .i64 (i : Int) ∧ COwn w.heap.size wr vo i r 3 ∧ Below w.heap.size w wr) (fun _ vi _ => min n K - (intOf vi).toNat)
  case atStart => exact ⟨0, by omega, rfl, COwn.nil _ _ _ _, Below.refl _ _⟩
  case round =>
    obtain ⟨i, hi, rfl, CO, BB⟩ := hrel
    obtain ⟨av, cv, rfl⟩ := CO.form
    by_cases hlt : i < min n K
    · have hin : i < n := by omega
      have g1 : (i : Int) < (n : Int) := by omega
      have g2 : (i : Int) < (K : Int) := by omega
      have g0 : (0 : Int) ≤ (i : Int) := by omega
      have hi15 : i ≤ 1000 := by omega
      obtain ⟨b, off, c9, p1, a1, n1, c1, b1, m1, d1, f1, g1_, hvv, hcc, hc6, X0, X1, X2, X3, u1, v1, E1⟩ := (hv0.out.below BB).at hin
      cases hvv
      have HE : Hid ((r i).val = mkRat (zof p1 (num f1 (min n1 3))) (num g1_ (min m1 3))) := E1
      obtain ⟨ms, hms⟩ : ∃ ms, (r i).miss = ms := ⟨_, rfl⟩
      have HM : Hid ((r i).miss = ms) := hms
      rw [hms] at X0
      clear hms E1
      have hRT : ∀ g, (Value.slice av i cv).ownBlock = some g → g ≠ wr.heap.size := fun g hg => Nat.ne_of_lt (CO.blocks g hg).2
      have HRT : Hid (∀ g, (Value.slice av i cv).ownBlock = some g → g ≠ wr.heap.size) := hRT
      have hRb : w.heap.size ≤ wr.heap.size := BB.size
      obtain ⟨Wa, hWa, hSa, hLa, VC⟩ := V4.lay wr 29 (.bool ms) (.bool p1) (.slice a1 n1 c1) (.slice b1 m1 d1)
      replace CO := CO.below hLa
      replace BB := BB.trans (hLa.mono BB.size)
      obtain ⟨⟨y1, y2, y3, y4, y5, y6⟩, y7, y8⟩ := id VC
      rw [hWa] at y1 y2 y3 y4 y5 y6 y7 y8
      go_wp2_with fail
      clear y1 y2 y3 y4 y5 y6 y7 y8 X0 X1 X2 X3
      rw [← hWa]
      have u2 := u1.below hLa
      have v2 := v1.below hLa
      generalize wr.heap.size = R at *
      clear hWa hSa u1 v1 hLa
      refine (number9_at _ _ _ _ _ _ _ _ u2 v2).mono ?_
      rintro e wn ⟨ao1, co1, bo1, do1, rfl, hu1, uf1, hv1, vf1, bn⟩
      have X1 : RatAt wn (.agg #[.bool p1, .slice ao1 (min n1 3) co1, .slice bo1 (min m1 3) do1]) (r i).val 3 := by rw [HE.out]; exact RatAt.raw hu1 uf1 hv1 vf1 (Nat.min_le_right _ _) (Nat.min_le_right _ _)
      clear hu1 uf1 hv1 vf1 HE
      replace VC := VC.below bn
      replace CO := CO.below bn
      replace BB := BB.trans (bn.mono BB.size)
      clear bn u2 v2
      generalize min n1 3 = k1 at *
      generalize min m1 3 = l1 at *
      have KK : KeepQ IsLimb wn (((wn.setCell ⟨R, 1, none⟩ (.bool p1)).setCell ⟨R, 2, none⟩ (.slice ao1 k1 co1)).setCell ⟨R, 3, none⟩ (.slice bo1 l1 do1)) :=
        ((keepL_set VC.1.2.1 (limb_bool _) _).trans (keepL_set (cell_set_by VC.1.2.2.1 (by omega)) (limb_slice _ _ _) _)).trans (keepL_set (cell_set_by (cell_set_by VC.2.1 (by omega)) (by omega)) (limb_slice _ _ _) _)
      have X2 := X1.keepL KK
      have CO2 : COwn w.heap.size (((wn.setCell ⟨R, 1, none⟩ (.bool p1)).setCell ⟨R, 2, none⟩ (.slice ao1 k1 co1)).setCell ⟨R, 3, none⟩ (.slice bo1 l1 do1)) (.slice av i cv) i r 3 :=
        ((CO.apart (a := ⟨R, 1, none⟩) HRT.out _ (keepL_set VC.1.2.1 (limb_bool _) _)).apart (a := ⟨R, 2, none⟩) HRT.out _ (keepL_set (cell_set_by VC.1.2.2.1 (by omega)) (limb_slice _ _ _) _)).apart (a := ⟨R, 3, none⟩) HRT.out _ (keepL_set (cell_set_by (cell_set_by VC.2.1 (by omega)) (by omega)) (limb_slice _ _ _) _)
      have BB2 : Below w.heap.size w (((wn.setCell ⟨R, 1, none⟩ (.bool p1)).setCell ⟨R, 2, none⟩ (.slice ao1 k1 co1)).setCell ⟨R, 3, none⟩ (.slice bo1 l1 do1)) := ((BB.setCell hRb _).setCell hRb _).setCell hRb _
      obtain ⟨⟨y1, y2, y3, y4, y5, y6⟩, y7, y8⟩ := id VC
      have hA : Below (((wn.setCell ⟨R, 1, none⟩ (.bool p1)).setCell ⟨R, 2, none⟩ (.slice ao1 k1 co1)).setCell ⟨R, 3, none⟩ (.slice bo1 l1 do1)).heap.size (((wn.setCell ⟨R, 1, none⟩ (.bool p1)).setCell ⟨R, 2, none⟩ (.slice ao1 k1 co1)).setCell ⟨R, 3, none⟩ (.slice bo1 l1 do1)) ((((wn.setCell ⟨R, 1, none⟩ (.bool p1)).setCell ⟨R, 2, none⟩ (.slice ao1 k1 co1)).setCell ⟨R, 3, none⟩ (.slice bo1 l1 do1)).alloc (.cells #[.bool ms, .bool p1, .slice ao1 k1 co1, .slice bo1 l1 do1] 29)) := (Below.refl _ _).alloc (Nat.le_refl _) _
      replace X2 := X2.below hA
      replace CO2 := CO2.below hA
      replace BB2 := BB2.trans (hA.mono BB2.size)
      have HCA : Hid (CellAt ((((wn.setCell ⟨R, 1, none⟩ (.bool p1)).setCell ⟨R, 2, none⟩ (.slice ao1 k1 co1)).setCell ⟨R, 3, none⟩ (.slice bo1 l1 do1)).alloc (.cells #[.bool ms, .bool p1, .slice ao1 k1 co1, .slice bo1 l1 do1] 29)) (fun j => [.bool ms, .bool p1, .slice ao1 k1 co1, .slice bo1 l1 do1].getD j undef) (r i) 3) := ⟨by rw [HM.out]; rfl, p1, ao1, k1, co1, bo1, l1, do1, rfl, rfl, rfl, X2⟩
      obtain ⟨cs, hcl, hco, hcp, hcn⟩ := CO2.parts
      have hsz2 := BB2.size
      have hbk := CO2.blocks
      have HCN : Hid (∀ j, j < i → CellAt ((((wn.setCell ⟨R, 1, none⟩ (.bool p1)).setCell ⟨R, 2, none⟩ (.slice ao1 k1 co1)).setCell ⟨R, 3, none⟩ (.slice bo1 l1 do1)).alloc (.cells #[.bool ms, .bool p1, .slice ao1 k1 co1, .slice bo1 l1 do1] 29)) (fun x => cs.getD (j * 4 + x) undef) (r j) 3) := hcn
      have HCL : Hid (cs.length = i * 4) := hcl
      have hnb := news_block (heap_alloc_new (((wn.setCell ⟨R, 1, none⟩ (.bool p1)).setCell ⟨R, 2, none⟩ (.slice ao1 k1 co1)).setCell ⟨R, 3, none⟩ (.slice bo1 l1 do1)) (.cells #[.bool ms, .bool p1, .slice ao1 k1 co1, .slice bo1 l1 do1] 29))
      rw [show (((wn.setCell ⟨R, 1, none⟩ (.bool p1)).setCell ⟨R, 2, none⟩ (.slice ao1 k1 co1)).setCell ⟨R, 3, none⟩ (.slice bo1 l1 do1)).heap.size = wn.heap.size by simp] at hnb
      clear hcn hcl CO2 CO KK X1 X2 VC BB hA HRT hRT HM
      go_wp2_with (first
        | (at_builtin
           refine wpList_append_pure (Q' := IsLimb) rfl _ _ _ rfl w.heap.size 29 (.agg #[.bool false, .bool false, .slice none 0 0, .slice none 0 0]) 4 64 Tryz.underlying39 info_cell rfl (by omega) (.slice av i cv) rfl i cs hco hcp ⟨wn.heap.size, 0, none⟩ 1 rfl [.bool ms, .bool p1, .slice ao1 k1 co1, .slice bo1 l1 do1] rfl ?g14 ?g15 ?g16 ?g17 (by omega) (by omega) hsz2 ?_
           case g14 => exact hnb
           case g15 => simp [Value.oneCell']
           case g16 => simp [limb_bool, limb_slice]
           case g17 => simp [Value.cells, limb_bool, limb_slice]
           intro gN cN w5 ho5 hg5 _ hp5 hk5
           have CO5 : COwn w.heap.size w5 (.slice (some ⟨gN, 0, none⟩) (i + 1) cN) (i + 1) r 3 := COwn.more (v := .slice none 0 0) ho5 HCL.out (fun g hg => by cases hg; exact hp5) hk5 HCN.out HCA.out
           have BI5 : Below w.heap.size w w5 := below_grownB BB2 hg5 hsz2 (fun g hg => (hbk g hg).1)
           clear ho5 hg5 hp5 hk5 hco hcp BB2 hbk HCN HCA HCL hnb))
      go_roundw
      case rel => exact ⟨i + 1, by omega, by go_num, CO5, BI5⟩
      case measure => simp [intOf]; omega
    · have hie : i = min n K := by omega
      have HI : Hid (i = min n K) := hie
      by_cases hnk : i < n
      · have c1 : (i : Int) < (n : Int) := by omega
        have c2 : ¬ (i : Int) < (K : Int) := by omega
        clear hie hi hlt
        go_wp2
        go_ret
        exact ⟨_, rfl, by rw [← HI.out]; exact CO, BB⟩
      · have c1 : ¬ (i : Int) < (n : Int) := by omega
        have c1b : decide ((i : Int) < (n : Int)) = false := decide_eq_false c1
        clear hie hi hlt
        go_wp2
        go_ret
        exact ⟨_, rfl, by rw [← HI.out]; exact CO, BB⟩

set_option maxRecDepth 100000 in
set_option maxHeartbeats 4000000 in
theorem all9_at (v : Value) (k n wd : Nat) (N : Nat → Nat) (R : Nat → Nat → Cl) (w : World) (hv : ARaw w v k N R 3) (hn : n ≤ 1000) (hw : wd ≤ 1000) :
    Calls Tryz.prog 21 #[v, .int .i64 (n : Int), .int .i64 (wd : Int)] w fun e w' => ∃ u, e = .returned u ∧ AOwn w.heap.size w' u (min k n) (fun i => min (N i) wd) R 3 ∧ Below w.heap.size w w' := by
  obtain ⟨ao, c, rfl, hnc, hc63⟩ := hv.open
  have hv0 : Hid (ARaw w (.slice ao k c) k N R 3) := hv
  clear hv
  go_enter Tryz.func21, Tryz.ntmps21
  go_wp2
  go_loopw [7, 8] (fun vo vi wr => ∃ i : Nat, i ≤ min k n ∧ vi = .int .i64 (i : Int) ∧ AOwn w.heap.size wr vo i (fun i => min (N i) wd) R 3 ∧ Below w.heap.size w wr) (fun _ vi _ => min k n - (intOf vi).toNat)
  case atStart => exact ⟨0, by omega, rfl, AOwn.nil _ _ _ _ _, Below.refl _ _⟩
  case round =>
    obtain ⟨i, hi, rfl, AO, BB⟩ := hrel
    obtain ⟨av, cv, rfl⟩ := AO.form
    by_cases hlt : i < min k n
    · have hin : i < k := by omega
      have g1 : (i : Int) < (k : Int) := by omega
      have g2 : (i : Int) < (n : Int) := by omega
      have g0 : (0 : Int) ≤ (i : Int) := by omega
      have hi15 : i ≤ 1000 := by omega
      obtain ⟨b, off, c9, a1, d1, hvv, hcc, X1, R1⟩ := (hv0.out.below BB).at hin
      cases hvv
      go_wp2_with fail
      clear X1
      refine (few9_at _ (N i) wd (R i) wr R1 hw).mono ?_
      rintro e w3 ⟨u, rfl, CO, b3⟩
      have hszw := BB.size
      replace CO := CO.le hszw
      replace AO := AO.below b3
      replace BB := BB.trans (b3.mono BB.size)
      obtain ⟨ar, cr, rfl⟩ := CO.form
      obtain ⟨m, hm⟩ : ∃ m, min (N i) wd = m := ⟨_, rfl⟩
      have HM : Hid (min (N i) wd = m) := hm
      rw [hm] at CO ⊢
      clear hm b3 R1 hszw
      have hAl : Below w3.heap.size w3 (w3.alloc (.cells #[.slice ar m cr] 39)) := (Below.refl _ _).alloc (Nat.le_refl _) _
      have AO2 := AO.below hAl
      have CO2 := CO.below hAl
      have BR2 := BB.trans (hAl.mono BB.size)
      obtain ⟨us2, huo, hup⟩ := AO2.parts
      have hbk := AO2.blocks
      have hsz2 := BR2.size
      clear AO CO hAl BB
      go_wp2_with (first
        | (at_builtin
           refine wpList_append_pure (Q' := IsLimb) rfl _ _ _ rfl w.heap.size 39 (.slice none 0 0) 1 24 Tryz.underlying42 info_cells rfl (by omega) (.slice av i cv) rfl i us2 huo hup ⟨w3.heap.size, 0, none⟩ 1 rfl [.slice ar m cr] rfl ?g14 ?g15 ?g16 ?g17 (by omega) (by omega) hsz2 ?_
           case g14 => exact news_block (heap_alloc_new _ _)
           case g15 => simp [Value.oneCell']
           case g16 => simp [limb_slice]
           case g17 => simp [Value.cells, limb_slice]
           intro gN cN w5 ho5 hg5 _ hp5 hk5
           have AO5 : AOwn w.heap.size w5 (.slice (some ⟨gN, 0, none⟩) (i + 1) cN) (i + 1) (fun i => min (N i) wd) R 3 := AO2.more1 huo (by rw [HM.out]; exact CO2) ho5 hg5 (fun g hg => by cases hg; exact hp5) hk5
           have BR5 : Below w.heap.size w w5 := below_grownB BR2 hg5 hsz2 (fun g hg => (hbk g hg).1)
           clear ho5 hg5 hp5 hk5 huo hup hbk AO2 CO2 BR2))
      go_roundw
      case rel => exact ⟨i + 1, by omega, by go_num, AO5, BR5⟩
      case measure => simp [intOf]; omega
    · have hie : i = min k n := by omega
      have HI : Hid (i = min k n) := hie
      by_cases hnk : i < k
      · have c1 : (i : Int) < (k : Int) := by omega
        have c2 : ¬ (i : Int) < (n : Int) := by omega
        clear hie hi hlt
        go_wp2
        go_ret
        exact ⟨_, rfl, by rw [← HI.out]; exact AO, BB⟩
      · have c1 : ¬ (i : Int) < (k : Int) := by omega
        have c1b : decide ((i : Int) < (k : Int)) = false := decide_eq_false c1
        clear hie hi hlt
        go_wp2
        go_ret
        exact ⟨_, rfl, by rw [← HI.out]; exact AO, BB⟩

def sameC (a b : Cl) : Bool := if (a.miss || b.miss) = true then a.miss && b.miss else decide (a.val = b.val)
theorem sameC_self (a : Cl) : sameC a a = true := by unfold sameC; cases a.miss <;> simp
def eqR (n m : Nat) (a b : Nat → Cl) : Bool := decide (n = m ∧ ∀ i, i < n → sameC (a i) (b i) = true)
theorem eqR_yes {n : Nat} {a b : Nat → Cl} (h : ∀ i, i < n → sameC (a i) (b i) = true) : eqR n n a b = true := decide_eq_true ⟨rfl, h⟩
theorem eqR_len {n m : Nat} {a b : Nat → Cl} (h : ¬ n = m) : eqR n m a b = false := decide_eq_false (fun h2 => h h2.1)
theorem eqR_no {n m i : Nat} {a b : Nat → Cl} (hi : i < n) (h : sameC (a i) (b i) = false) : eqR n m a b = false := decide_eq_false (fun h2 => by have := h2.2 i hi; rw [h] at this; cases this)
theorem cmpQ_eq (q r : Rat) : decide (cmpQ q r = 0) = decide (q = r) := by
  unfold cmpQ
  by_cases h : q = r
  · subst h; simp
  · by_cases h2 : q < r
    · simp [h, h2]
    · have h3 : r < q := by grind
      simp [h, h2, h3]


set_option maxRecDepth 20000 in
set_option maxHeartbeats 2000000 in
theorem rsame_at (ma pa mb pb : Bool) (aa ab ba bb : Option Addr) (na ca la da nb cb lb db : Nat) (q r : Rat) (L : Nat) (w : World) (hu : RatAt w (.agg #[.bool pa, .slice aa na ca, .slice ab la da]) q L) (hv : RatAt w (.agg #[.bool pb, .slice ba nb cb, .slice bb lb db]) r L) (hL : 1 ≤ L) (hM : L ≤ 100000) :
    Calls Tryz.prog 25 #[.agg #[.bool ma, .bool pa, .slice aa na ca, .slice ab la da], .agg #[.bool mb, .bool pb, .slice ba nb cb, .slice bb lb db]] w fun e w' => e = .returned (.bool (sameC ⟨ma, q⟩ ⟨mb, r⟩)) ∧ Below w.heap.size w w' := by
  have hAB : ∀ o o', Below w.heap.size w ((w.alloc o).alloc o') := fun o o' => ((Below.refl _ _).alloc (Nat.le_refl _) _).alloc (by simp) _
  cases ma <;> cases mb
  case true.true =>
    go_enter Tryz.func25, Tryz.ntmps25
    go_wp2
    go_ret
    exact ⟨rfl, hAB _ _⟩
  case true.false =>
    go_enter Tryz.func25, Tryz.ntmps25
    go_wp2
    go_ret
    exact ⟨rfl, hAB _ _⟩
  case false.true =>
    go_enter Tryz.func25, Tryz.ntmps25
    go_wp2
    go_ret
    exact ⟨rfl, hAB _ _⟩
  case false.false =>
    have HO : Hid (sameC ⟨false, q⟩ ⟨false, r⟩ = decide (q = r)) := rfl
    have h1 := hu.below (hAB (.cells #[.bool false, .bool pa, .slice aa na ca, .slice ab la da] 29) (.cells #[.bool false, .bool pb, .slice ba nb cb, .slice bb lb db] 29))
    have h2 := hv.below (hAB (.cells #[.bool false, .bool pa, .slice aa na ca, .slice ab la da] 29) (.cells #[.bool false, .bool pb, .slice ba nb cb, .slice bb lb db] 29))
    have BB := hAB (.cells #[.bool false, .bool pa, .slice aa na ca, .slice ab la da] 29) (.cells #[.bool false, .bool pb, .slice ba nb cb, .slice bb lb db] 29)
    go_enter Tryz.func25, Tryz.ntmps25
    go_wp2_with fail
    refine (qsame_at _ _ q r L _ h1 h2 hL hM).mono ?_
    rintro e w1 ⟨rfl, b1⟩
    replace BB := BB.trans (b1.mono BB.size)
    clear b1 h1 h2
    generalize hd : decide (q = r) = dd
    have HD : Hid (decide (q = r) = dd) := hd
    clear hd
    go_wp2
    go_ret
    exact ⟨by rw [HO.out, HD.out]; rfl, BB⟩


set_option maxRecDepth 20000 in
set_option maxHeartbeats 4000000 in
theorem jsame9_at (ma pa mb pb : Bool) (aa ab ba bb : Option Addr) (na ca la da nb cb lb db : Nat) (q r : Rat) (L : Nat) (w : World) (hu : RatAt w (.agg #[.bool pa, .slice aa na ca, .slice ab la da]) q L) (hv : RatAt w (.agg #[.bool pb, .slice ba nb cb, .slice bb lb db]) r L) (hL : 2 ≤ L) (hM : L ≤ 450) :
    Calls Tryz.prog 12 #[.agg #[.bool ma, .bool pa, .slice aa na ca, .slice ab la da], .agg #[.bool mb, .bool pb, .slice ba nb cb, .slice bb lb db]] w fun e w' => e = .returned (.bool (sameC ⟨ma, q⟩ ⟨mb, r⟩)) ∧ Below w.heap.size w w' := by
  have hAB : ∀ o o', Below w.heap.size w ((w.alloc o).alloc o') := fun o o' => ((Below.refl _ _).alloc (Nat.le_refl _) _).alloc (by simp) _
  cases ma <;> cases mb
  case true.true =>
    go_enter Tryz.func12, Tryz.ntmps12
    go_wp2
    go_ret
    exact ⟨rfl, hAB _ _⟩
  case true.false =>
    go_enter Tryz.func12, Tryz.ntmps12
    go_wp2
    go_ret
    exact ⟨rfl, hAB _ _⟩
  case false.true =>
    go_enter Tryz.func12, Tryz.ntmps12
    go_wp2
    go_ret
    exact ⟨rfl, hAB _ _⟩
  case false.false =>
    have HO : Hid (sameC ⟨false, q⟩ ⟨false, r⟩ = decide (q = r)) := rfl
    obtain ⟨Wa, hWa, hSa, hLa, VA⟩ := V4.lay w 29 (.bool false) (.bool pa) (.slice aa na ca) (.slice ab la da)
    obtain ⟨Wb, hWb, hSb, hLb, VB⟩ := V4.lay Wa 29 (.bool false) (.bool pb) (.slice ba nb cb) (.slice bb lb db)
    rw [hSa] at VB
    have h1 := (hu.below hLa).below hLb
    have h2 := (hv.below hLa).below hLb
    replace VA := VA.below hLb
    have BB := hLa.trans (hLb.mono hLa.size)
    go_enter Tryz.func12, Tryz.ntmps12
    obtain ⟨⟨y1, y2, y3, y4, y5, y6⟩, y7, y8⟩ := id VA
    obtain ⟨⟨z1, z2, z3, z4, z5, z6⟩, z7, z8⟩ := id VB
    rw [hWb, hWa] at y1 y2 y3 y4 y5 y6 y7 y8 z1 z2 z3 z4 z5 z6 z7 z8
    go_wp2
    rw [← hWa, ← hWb]
    clear y1 y2 y3 y4 y5 y6 y7 y8 z1 z2 z3 z4 z5 z6 z7 z8 hWa hWb hSa hSb hLa hLb hu hv hAB
    have hDr : Below Wb.heap.size Wb Wb.drew := (Below.refl _ _).drew
    replace h1 := h1.below hDr
    replace h2 := h2.below hDr
    replace VA := VA.below hDr
    replace VB := VB.below hDr
    replace BB := BB.trans (hDr.mono BB.size)
    clear hDr
    refine wp_region_held_drew (S := (fun w' => w'.cell? ⟨w.heap.size, 1, none⟩ = some (.bool pa) ∧ w'.cell? ⟨w.heap.size, 2, none⟩ = some (.slice aa na ca) ∧ w'.cell? ⟨w.heap.size, 3, none⟩ = some (.slice ab la da) ∧ w'.cell? ⟨w.heap.size + 1, 1, none⟩ = some (.bool pb) ∧ w'.cell? ⟨w.heap.size + 1, 2, none⟩ = some (.slice ba nb cb) ∧ w'.cell? ⟨w.heap.size + 1, 3, none⟩ = some (.slice bb lb db))) (by kernel_rfl) ?_ (fun hHeld => ?_)
    · exact ⟨VA.1.2.1, VA.1.2.2.1, VA.2.1, VB.1.2.1, VB.1.2.2.1, VB.2.1⟩
    generalize Wb.drew = W1 at *
    refine wpAnyH_take (i := 0) (v := ?_) (by simp only [List.getElem?_toArray, List.getElem?_cons_succ, List.getElem?_cons_zero]; rfl) (by kernel_rfl) (by kernel_rfl) (by kernel_rfl) (by exact fun _ _ _ h => h) (Or.inl ⟨by rfl, ?_⟩) (by assumption) ?_
    rotate_left
    · (intro w hSw; (try dsimp only at hSw); go_simp; (try with_reducible rfl))
    (try simp only [Act.put, List.setIfInBounds_toArray, List.set_cons_zero, List.set_cons_succ])
    refine wpAnyH_take (i := 1) (v := ?_) (by simp only [List.getElem?_toArray, List.getElem?_cons_succ, List.getElem?_cons_zero]; rfl) (by kernel_rfl) (by kernel_rfl) (by kernel_rfl) (by exact fun _ _ _ h => h) (Or.inl ⟨by rfl, ?_⟩) (by assumption) ?_
    rotate_left
    · (intro w hSw; (try dsimp only at hSw); go_simp; (try with_reducible rfl))
    (try simp only [Act.put, List.setIfInBounds_toArray, List.set_cons_zero, List.set_cons_succ])
    refine wpAnyH_take (i := 3) (v := ?_) (by simp only [List.getElem?_toArray, List.getElem?_cons_succ, List.getElem?_cons_zero]; rfl) (by kernel_rfl) (by kernel_rfl) (by kernel_rfl) (by exact fun _ _ _ h => h) (Or.inl ⟨by rfl, ?_⟩) (by assumption) ?_
    rotate_left
    · (intro w hSw; (try dsimp only at hSw); go_simp; (try with_reducible rfl))
    (try simp only [Act.put, List.setIfInBounds_toArray, List.set_cons_zero, List.set_cons_succ])
    refine wpAnyH_take (i := 4) (v := ?_) (by simp only [List.getElem?_toArray, List.getElem?_cons_succ, List.getElem?_cons_zero]; rfl) (by kernel_rfl) (by kernel_rfl) (by kernel_rfl) (by exact fun _ _ _ h => h) (Or.inl ⟨by rfl, ?_⟩) (by assumption) ?_
    rotate_left
    · (intro w hSw; (try dsimp only at hSw); go_simp; (try with_reducible rfl))
    (try simp only [Act.put, List.setIfInBounds_toArray, List.set_cons_zero, List.set_cons_succ])
    refine wpAnyH_ready (rs := [2]) (by kernel_rfl) (by simp) ?_
    refine AllReadyH.cons (by simp only [List.getElem?_toArray, List.getElem?_cons_succ, List.getElem?_cons_zero]; rfl) (fun K hK => ?_) AllReadyH.nil
    go_simp
    refine (jfrom_at _ q L _ h1 hL (by omega)).mono ?_
    rintro e w1 ⟨x1, rfl, j1, b1⟩
    go_wp2_with fail
    replace h1 := h1.below b1
    replace h2 := h2.below b1
    replace VA := VA.below b1
    replace VB := VB.below b1
    replace BB := BB.trans (b1.mono BB.size)
    clear b1
    refine hK.out _ _ ?_ (fun hH1 => ?_)
    · exact ⟨VA.1.2.1, VA.1.2.2.1, VA.2.1, VB.1.2.1, VB.1.2.2.1, VB.2.1⟩
    clear hK K hHeld
    (try simp only [Act.put, List.setIfInBounds_toArray, List.set_cons_zero, List.set_cons_succ])
    refine wpAnyH_ready (rs := [5]) (by kernel_rfl) (by simp) ?_
    refine AllReadyH.cons (by simp only [List.getElem?_toArray, List.getElem?_cons_succ, List.getElem?_cons_zero]; rfl) (fun K hK => ?_) AllReadyH.nil
    go_simp
    refine (jfrom_at _ r L _ h2 hL (by omega)).mono ?_
    rintro e w2 ⟨x2, rfl, j2, b2⟩
    go_wp2_with fail
    replace h1 := h1.below b2
    replace h2 := h2.below b2
    replace VA := VA.below b2
    replace VB := VB.below b2
    replace j1 := j1.below b2
    replace BB := BB.trans (b2.mono BB.size)
    clear b2
    refine hK.out _ _ ?_ (fun hH2 => ?_)
    · exact ⟨VA.1.2.1, VA.1.2.2.1, VA.2.1, VB.1.2.1, VB.1.2.2.1, VB.2.1⟩
    clear hK K hH1
    (try simp only [Act.put, List.setIfInBounds_toArray, List.set_cons_zero, List.set_cons_succ])
    refine wpAnyH_ready (rs := [6]) (by kernel_rfl) (by simp) ?_
    refine AllReadyH.cons (by simp only [List.getElem?_toArray, List.getElem?_cons_succ, List.getElem?_cons_zero]; rfl) (fun K hK => ?_) AllReadyH.nil
    go_simp
    refine (jorder_at _ _ q r L L _ j1 j2 (by omega)).mono ?_
    rintro e w3 ⟨rfl, b3⟩
    generalize hcq : cmpQ q r = cq
    have HCQ : Hid (cmpQ q r = cq) := hcq
    clear hcq
    go_wp2_with fail
    replace h1 := h1.below b3
    replace h2 := h2.below b3
    replace VA := VA.below b3
    replace VB := VB.below b3
    replace j1 := j1.below b3
    replace j2 := j2.below b3
    replace BB := BB.trans (b3.mono BB.size)
    clear b3
    refine hK.out _ _ ?_ (fun hH3 => ?_)
    · exact ⟨VA.1.2.1, VA.1.2.2.1, VA.2.1, VB.1.2.1, VB.1.2.2.1, VB.2.1⟩
    clear hK K hH2
    (try simp only [Act.put, List.setIfInBounds_toArray, List.set_cons_zero, List.set_cons_succ])
    refine wpAnyH_take (i := 7) (v := ?_) (by simp only [List.getElem?_toArray, List.getElem?_cons_succ, List.getElem?_cons_zero]; rfl) (by kernel_rfl) (by kernel_rfl) (by kernel_rfl) (by exact fun _ _ _ h => h) (Or.inl ⟨by rfl, ?_⟩) (by assumption) ?_
    rotate_left
    · (intro w hSw; (try dsimp only at hSw); go_simp; (try with_reducible rfl))
    (try simp only [Act.put, List.setIfInBounds_toArray, List.set_cons_zero, List.set_cons_succ])
    refine wpAnyH_take (i := 8) (v := ?_) (by simp only [List.getElem?_toArray, List.getElem?_cons_succ, List.getElem?_cons_zero]; rfl) (by kernel_rfl) (by kernel_rfl) (by kernel_rfl) (by exact fun _ _ _ h => h) (Or.inl ⟨by rfl, ?_⟩) (by assumption) ?_
    rotate_left
    · (intro w hSw; (try dsimp only at hSw); go_simp; (try with_reducible rfl))
    (try simp only [Act.put, List.setIfInBounds_toArray, List.set_cons_zero, List.set_cons_succ])
    refine wpAnyH_done (by kernel_rfl) ?_ _
    clear hH3
    have HDD : Hid (decide (cq = 0) = decide (q = r)) := by show _ = _; rw [← HCQ.out]; exact cmpQ_eq q r
    go_wp2
    go_ret
    exact ⟨by rw [HO.out, ← HDD.out]; rfl, BB⟩

def Quad9 (w : World) (b o : Nat) (x y z u : Value) : Prop := w.cell? ⟨b, o, none⟩ = some x ∧ w.cell? ⟨b, o + 1, none⟩ = some y ∧ w.cell? ⟨b, o + 2, none⟩ = some z ∧ w.cell? ⟨b, o + 3, none⟩ = some u
theorem Quad9.out {w : World} {b o : Nat} {x y z u : Value} (h : Quad9 w b o x y z u) : w.cell? ⟨b, o, none⟩ = some x ∧ w.cell? ⟨b, o + 1, none⟩ = some y ∧ w.cell? ⟨b, o + 2, none⟩ = some z ∧ w.cell? ⟨b, o + 3, none⟩ = some u := h
theorem Quad9.below {w w' : World} {b o : Nat} {x y z u : Value} (h : Quad9 w b o x y z u) (hb : Below w.heap.size w w') : Quad9 w' b o x y z u := by
  have hl := World.block_lt_of_cell? w _ h.1
  exact ⟨(hb.cell (p := ⟨b, o, none⟩) hl).trans h.1, (hb.cell (p := ⟨b, o + 1, none⟩) hl).trans h.2.1, (hb.cell (p := ⟨b, o + 2, none⟩) hl).trans h.2.2.1, (hb.cell (p := ⟨b, o + 3, none⟩) hl).trans h.2.2.2⟩


set_option maxRecDepth 100000 in
set_option maxHeartbeats 8000000 in
theorem jequal9_at (u v : Value) (n m : Nat) (a b : Nat → Cl) (L : Nat) (w : World) (hu : CRow w u n a L) (hv : CRow w v m b L) (hL : 2 ≤ L) (hM : L ≤ 450) :
    Calls Tryz.prog 19 #[u, v] w fun e w' => e = .returned (.bool (eqR n m a b)) ∧ Below w.heap.size w w' := by
  obtain ⟨ao, ca, rfl, hac, hac6⟩ := hu.open
  obtain ⟨bo, cb, rfl, hbc, hbc6⟩ := hv.open
  by_cases hnm : n = m
  · subst hnm
    have hu0 : Hid (CRow w (.slice ao n ca) n a L) := hu
    have hv0 : Hid (CRow w (.slice bo n cb) n b L) := hv
    clear hu hv
    go_enter Tryz.func19, Tryz.ntmps19
    go_wp2
    go_loopw [5] (fun vi wr => ∃ i : Nat, i ≤ n ∧ vi = .int .i64 (i : Int) ∧ Hid (∀ j, j < i → sameC (a j) (b j) = true) ∧ Below w.heap.size w wr) (fun vi _ => n - (intOf vi).toNat)
    case atStart => exact ⟨0, by omega, rfl, fun j hj => by omega, Below.refl _ _⟩
    case round =>
      obtain ⟨i, hi, rfl, HJ, BB⟩ := hrel
      by_cases hlt : i < n
      · have g1 : (i : Int) < (n : Int) := by omega
        have g0 : (0 : Int) ≤ (i : Int) := by omega
        obtain ⟨b1, off1, c91, p1, a1, n1, c1, d1, m1, e1, hv1, hcc1, hc61, X01, X11, X21, X31, r1⟩ := (hu0.out.below BB).at hlt
        cases hv1
        obtain ⟨b2, off2, c92, p2, a2, n2, c2, d2, m2, e2, hv2, hcc2, hc62, X02, X12, X22, X32, r2⟩ := (hv0.out.below BB).at hlt
        cases hv2
        obtain ⟨m1_, hm1⟩ : ∃ z, (a i).miss = z := ⟨_, rfl⟩
        obtain ⟨m2_, hm2⟩ : ∃ z, (b i).miss = z := ⟨_, rfl⟩
        rw [hm1] at X01
        rw [hm2] at X02
        have HSM : Hid (sameC (a i) (b i) = sameC ⟨m1_, (a i).val⟩ ⟨m2_, (b i).val⟩) := by show _ = _; rw [← hm1, ← hm2]
        clear hm1 hm2
        have C1 : Quad9 wr b1 (off1 + i * 4) (.bool m1_) (.bool p1) (.slice a1 n1 c1) (.slice d1 m1 e1) := ⟨X01, X11, X21, X31⟩
        have C2 : Quad9 wr b2 (off2 + i * 4) (.bool m2_) (.bool p2) (.slice a2 n2 c2) (.slice d2 m2 e2) := ⟨X02, X12, X22, X32⟩
        clear X01 X11 X21 X31 X02 X12 X22 X32
        go_wp2
        have hDr : Below wr.heap.size wr wr.drew := (Below.refl _ _).drew
        replace C1 := C1.below hDr
        replace C2 := C2.below hDr
        replace r1 := r1.below hDr
        replace r2 := r2.below hDr
        replace BB := BB.trans (hDr.mono BB.size)
        clear hDr
        refine wp_region_held_drew (S := (fun w' => w'.cell? ⟨b1, off1 + i * 4, none⟩ = some (.bool m1_) ∧ w'.cell? ⟨b1, off1 + i * 4 + 1, none⟩ = some (.bool p1) ∧ w'.cell? ⟨b1, off1 + i * 4 + 2, none⟩ = some (.slice a1 n1 c1) ∧ w'.cell? ⟨b1, off1 + i * 4 + 3, none⟩ = some (.slice d1 m1 e1) ∧ w'.cell? ⟨b2, off2 + i * 4, none⟩ = some (.bool m2_) ∧ w'.cell? ⟨b2, off2 + i * 4 + 1, none⟩ = some (.bool p2) ∧ w'.cell? ⟨b2, off2 + i * 4 + 2, none⟩ = some (.slice a2 n2 c2) ∧ w'.cell? ⟨b2, off2 + i * 4 + 3, none⟩ = some (.slice d2 m2 e2))) (by kernel_rfl) ?_ (fun hHeld => ?_)
        · exact ⟨C1.out.1, C1.out.2.1, C1.out.2.2.1, C1.out.2.2.2, C2.out.1, C2.out.2.1, C2.out.2.2.1, C2.out.2.2.2⟩
        generalize wr.drew = W1 at *
        refine wpAnyH_take (i := 0) (v := ?_) (by simp only [List.getElem?_toArray, List.getElem?_cons_succ, List.getElem?_cons_zero]; rfl) (by kernel_rfl) (by kernel_rfl) (by kernel_rfl) (by exact fun _ _ _ h => h) (Or.inl ⟨by rfl, ?_⟩) (by assumption) ?_
        rotate_left
        · (intro w hSw; (try dsimp only at hSw); go_simp; (try with_reducible rfl))
        (try simp only [Act.put, List.setIfInBounds_toArray, List.set_cons_zero, List.set_cons_succ])
        refine wpAnyH_take (i := 1) (v := ?_) (by simp only [List.getElem?_toArray, List.getElem?_cons_succ, List.getElem?_cons_zero]; rfl) (by kernel_rfl) (by kernel_rfl) (by kernel_rfl) (by exact fun _ _ _ h => h) (Or.inl ⟨by rfl, ?_⟩) (by assumption) ?_
        rotate_left
        · (intro w hSw; (try dsimp only at hSw); go_simp; (try with_reducible rfl))
        (try simp only [Act.put, List.setIfInBounds_toArray, List.set_cons_zero, List.set_cons_succ])
        refine wpAnyH_take (i := 2) (v := ?_) (by simp only [List.getElem?_toArray, List.getElem?_cons_succ, List.getElem?_cons_zero]; rfl) (by kernel_rfl) (by kernel_rfl) (by kernel_rfl) (by exact fun _ _ _ h => h) (Or.inl ⟨by rfl, ?_⟩) (by assumption) ?_
        rotate_left
        · (intro w hSw; (try dsimp only at hSw); go_simp; (try with_reducible rfl))
        (try simp only [Act.put, List.setIfInBounds_toArray, List.set_cons_zero, List.set_cons_succ])
        refine wpAnyH_take (i := 3) (v := ?_) (by simp only [List.getElem?_toArray, List.getElem?_cons_succ, List.getElem?_cons_zero]; rfl) (by kernel_rfl) (by kernel_rfl) (by kernel_rfl) (by exact fun _ _ _ h => h) (Or.inl ⟨by rfl, ?_⟩) (by assumption) ?_
        rotate_left
        · (intro w hSw; (try dsimp only at hSw); go_simp; (try with_reducible rfl))
        (try simp only [Act.put, List.setIfInBounds_toArray, List.set_cons_zero, List.set_cons_succ])
        refine wpAnyH_take (i := 4) (v := ?_) (by simp only [List.getElem?_toArray, List.getElem?_cons_succ, List.getElem?_cons_zero]; rfl) (by kernel_rfl) (by kernel_rfl) (by kernel_rfl) (by exact fun _ _ _ h => h) (Or.inl ⟨by rfl, ?_⟩) (by assumption) ?_
        rotate_left
        · (intro w hSw; (try dsimp only at hSw); go_simp; (try with_reducible rfl))
        (try simp only [Act.put, List.setIfInBounds_toArray, List.set_cons_zero, List.set_cons_succ])
        refine wpAnyH_take (i := 5) (v := ?_) (by simp only [List.getElem?_toArray, List.getElem?_cons_succ, List.getElem?_cons_zero]; rfl) (by kernel_rfl) (by kernel_rfl) (by kernel_rfl) (by exact fun _ _ _ h => h) (Or.inl ⟨by rfl, ?_⟩) (by assumption) ?_
        rotate_left
        · (intro w hSw; (try dsimp only at hSw); go_simp; (try with_reducible rfl))
        (try simp only [Act.put, List.setIfInBounds_toArray, List.set_cons_zero, List.set_cons_succ])
        refine wpAnyH_take (i := 6) (v := ?_) (by simp only [List.getElem?_toArray, List.getElem?_cons_succ, List.getElem?_cons_zero]; rfl) (by kernel_rfl) (by kernel_rfl) (by kernel_rfl) (by exact fun _ _ _ h => h) (Or.inl ⟨by rfl, ?_⟩) (by assumption) ?_
        rotate_left
        · (intro w hSw; (try dsimp only at hSw); go_simp; (try with_reducible rfl))
        (try simp only [Act.put, List.setIfInBounds_toArray, List.set_cons_zero, List.set_cons_succ])
        refine wpAnyH_take (i := 7) (v := ?_) (by simp only [List.getElem?_toArray, List.getElem?_cons_succ, List.getElem?_cons_zero]; rfl) (by kernel_rfl) (by kernel_rfl) (by kernel_rfl) (by exact fun _ _ _ h => h) (Or.inl ⟨by rfl, ?_⟩) (by assumption) ?_
        rotate_left
        · (intro w hSw; (try dsimp only at hSw); go_simp; (try with_reducible rfl))
        (try simp only [Act.put, List.setIfInBounds_toArray, List.set_cons_zero, List.set_cons_succ])
        refine wpAnyH_ready (rs := [8]) (by kernel_rfl) (by simp) ?_
        refine AllReadyH.cons (by simp only [List.getElem?_toArray, List.getElem?_cons_succ, List.getElem?_cons_zero]; rfl) (fun K hK => ?_) AllReadyH.nil
        go_simp
        refine (jsame9_at m1_ p1 m2_ p2 _ _ _ _ _ _ _ _ _ _ _ _ (a i).val (b i).val L _ r1 r2 hL hM).mono ?_
        rintro e w1 ⟨rfl, b1⟩
        generalize hsm : sameC ⟨m1_, (a i).val⟩ ⟨m2_, (b i).val⟩ = sm
        have HS2 : Hid (sameC (a i) (b i) = sm) := by show _ = _; rw [HSM.out]; exact hsm
        clear hsm HSM
        go_wp2_with fail
        replace C1 := C1.below b1
        replace C2 := C2.below b1
        replace r1 := r1.below b1
        replace r2 := r2.below b1
        replace BB := BB.trans (b1.mono BB.size)
        clear b1
        refine hK.out _ _ ?_ (fun hH1 => ?_)
        · exact ⟨C1.out.1, C1.out.2.1, C1.out.2.2.1, C1.out.2.2.2, C2.out.1, C2.out.2.1, C2.out.2.2.1, C2.out.2.2.2⟩
        clear hK K hHeld
        (try simp only [Act.put, List.setIfInBounds_toArray, List.set_cons_zero, List.set_cons_succ])
        refine wpAnyH_take (i := 9) (v := ?_) (by simp only [List.getElem?_toArray, List.getElem?_cons_succ, List.getElem?_cons_zero]; rfl) (by kernel_rfl) (by kernel_rfl) (by kernel_rfl) (by exact fun _ _ _ h => h) (Or.inl ⟨by rfl, ?_⟩) (by assumption) ?_
        rotate_left
        · (intro w hSw; (try dsimp only at hSw); go_simp; (try with_reducible rfl))
        (try simp only [Act.put, List.setIfInBounds_toArray, List.set_cons_zero, List.set_cons_succ])
        refine wpAnyH_done (by kernel_rfl) ?_ _
        clear hH1
        cases sm
        · go_wp2
          go_ret
          exact ⟨by rw [eqR_no hlt HS2.out]; rfl, BB⟩
        · go_wp2
          go_roundw
          case rel => exact ⟨i + 1, by omega, by go_num, fun j hj => by
            by_cases e9 : j = i
            · subst e9; exact HS2.out
            · exact HJ.out j (by omega), BB⟩
          case measure => simp [intOf]; omega
      · obtain rfl : i = n := by omega
        have g1 : ¬ (i : Int) < (i : Int) := by omega
        go_wp2
        go_ret
        exact ⟨by rw [eqR_yes HJ.out]; rfl, BB⟩
  · have HNM : Hid (¬ n = m) := hnm
    have g1 : ¬ (n : Int) = (m : Int) := by omega
    have g2 : ((n : Int) != (m : Int)) = true := by simpa using g1
    go_enter Tryz.func19, Tryz.ntmps19
    go_wp2
    go_ret
    exact ⟨by rw [eqR_len HNM.out]; rfl, Below.refl _ _⟩


set_option maxRecDepth 100000 in
set_option maxHeartbeats 8000000 in
theorem eqfunc9_at (u v : Value) (n m : Nat) (a b : Nat → Cl) (L : Nat) (w : World) (hu : CRow w u n a L) (hv : CRow w v m b L) (hL : 1 ≤ L) (hM : L ≤ 100000) :
    Calls Tryz.prog 39 #[u, v, .func (.func 25) #[] #[]] w fun e w' => e = .returned (.bool (eqR n m a b)) ∧ Below w.heap.size w w' := by
  obtain ⟨ao, ca, rfl, hac, hac6⟩ := hu.open
  obtain ⟨bo, cb, rfl, hbc, hbc6⟩ := hv.open
  by_cases hnm : n = m
  · subst hnm
    have hu0 : Hid (CRow w (.slice ao n ca) n a L) := hu
    have hv0 : Hid (CRow w (.slice bo n cb) n b L) := hv
    clear hu hv
    go_enter Tryz.func39, Tryz.ntmps39
    go_wp2
    go_loopw [17] (fun vi wr => ∃ i : Nat, i ≤ n ∧ vi = .int .i64 (i : Int) ∧ Hid (∀ j, j < i → sameC (a j) (b j) = true) ∧ Below w.heap.size w wr) (fun vi _ => n - (intOf vi).toNat)
    case atStart => exact ⟨0, by omega, rfl, fun j hj => by omega, Below.refl _ _⟩
    case round =>
      obtain ⟨i, hi, rfl, HJ, BB⟩ := hrel
      by_cases hlt : i < n
      · have g1 : (i : Int) < (n : Int) := by omega
        have g0 : (0 : Int) ≤ (i : Int) := by omega
        obtain ⟨b1, off1, c91, p1, a1, n1, c1, d1, m1, e1, hv1, hcc1, hc61, X01, X11, X21, X31, r1⟩ := (hu0.out.below BB).at hlt
        cases hv1
        obtain ⟨b2, off2, c92, p2, a2, n2, c2, d2, m2, e2, hv2, hcc2, hc62, X02, X12, X22, X32, r2⟩ := (hv0.out.below BB).at hlt
        cases hv2
        obtain ⟨m1_, hm1⟩ : ∃ z, (a i).miss = z := ⟨_, rfl⟩
        obtain ⟨m2_, hm2⟩ : ∃ z, (b i).miss = z := ⟨_, rfl⟩
        rw [hm1] at X01
        rw [hm2] at X02
        have HSM : Hid (sameC (a i) (b i) = sameC ⟨m1_, (a i).val⟩ ⟨m2_, (b i).val⟩) := by show _ = _; rw [← hm1, ← hm2]
        clear hm1 hm2
        have hbl1 : b1 < wr.heap.size := World.block_lt_of_cell? _ _ X01
        have hbl2 : b2 < wr.heap.size := World.block_lt_of_cell? _ _ X02
        obtain ⟨Wa, hWa, hSa, hLa, VA⟩ := V4.lay wr 29 (.bool m1_) (.bool p1) (.slice a1 n1 c1) (.slice d1 m1 e1)
        obtain ⟨Wb, hWb, hSb, hLb, VB⟩ := V4.lay Wa 29 (.bool m2_) (.bool p2) (.slice a2 n2 c2) (.slice d2 m2 e2)
        replace r1 := (r1.below hLa).below hLb
        replace r2 := (r2.below hLa).below hLb
        replace BB := (BB.trans (hLa.mono BB.size)).trans (hLb.mono (by have := BB.size; have := hLa.size; omega))
        obtain ⟨⟨y1, y2, y3, y4, y5, y6⟩, y7, y8⟩ := id (VA.below hLb)
        obtain ⟨⟨z1, z2, z3, z4, z5, z6⟩, z7, z8⟩ := id VB
        rw [hSa] at z1 z2 z3 z4 z5 z6 z7 z8
        rw [hWb, hWa] at y1 y2 y3 y4 y5 y6 y7 y8 z1 z2 z3 z4 z5 z6 z7 z8
        go_wp2_with fail
        rw [← hWa, ← hWb]
        clear y1 y2 y3 y4 y5 y6 y7 y8 z1 z2 z3 z4 z5 z6 z7 z8 hWa hWb hSa hSb hLa hLb VA VB X01 X11 X21 X31 X02 X12 X22 X32
        refine (rsame_at m1_ p1 m2_ p2 _ _ _ _ _ _ _ _ _ _ _ _ (a i).val (b i).val L _ r1 r2 hL hM).mono ?_
        rintro e w3 ⟨rfl, b3⟩
        replace BB := BB.trans (b3.mono BB.size)
        clear b3
        generalize hsm : sameC ⟨m1_, (a i).val⟩ ⟨m2_, (b i).val⟩ = sm
        have HS2 : Hid (sameC (a i) (b i) = sm) := by show _ = _; rw [HSM.out]; exact hsm
        clear hsm HSM
        cases sm
        · go_wp2
          go_ret
          exact ⟨by rw [eqR_no hlt HS2.out]; rfl, BB⟩
        · go_wp2
          go_roundw
          case rel => exact ⟨i + 1, by omega, by go_num, fun j hj => by
            by_cases e9 : j = i
            · subst e9; exact HS2.out
            · exact HJ.out j (by omega), BB⟩
          case measure => simp [intOf]; omega
      · obtain rfl : i = n := by omega
        have g1 : ¬ (i : Int) < (i : Int) := by omega
        go_wp2
        go_ret
        exact ⟨by rw [eqR_yes HJ.out]; rfl, BB⟩
  · have HNM : Hid (¬ n = m) := hnm
    have g1 : ¬ (n : Int) = (m : Int) := by omega
    have g2 : ((n : Int) != (m : Int)) = true := by simpa using g1
    go_enter Tryz.func39, Tryz.ntmps39
    go_wp2
    go_ret
    exact ⟨by rw [eqR_len HNM.out]; rfl, Below.refl _ _⟩


set_option maxRecDepth 20000 in
set_option maxHeartbeats 2000000 in
theorem requal9_at (u v : Value) (n m : Nat) (a b : Nat → Cl) (L : Nat) (w : World) (hu : CRow w u n a L) (hv : CRow w v m b L) (hL : 1 ≤ L) (hM : L ≤ 100000) :
    Calls Tryz.prog 24 #[u, v] w fun e w' => e = .returned (.bool (eqR n m a b)) ∧ Below w.heap.size w w' := by
  obtain ⟨ao, ca, rfl, hac, hac6⟩ := hu.open
  obtain ⟨bo, cb, rfl, hbc, hbc6⟩ := hv.open
  go_enter Tryz.func24, Tryz.ntmps24
  go_wp2_with fail
  refine (eqfunc9_at _ _ n m a b L w hu hv hL hM).mono ?_
  rintro e w1 ⟨rfl, b1⟩
  generalize hq : eqR n m a b = qq
  have HQ : Hid (eqR n m a b = qq) := hq
  clear hq
  go_wp2
  go_ret
  exact ⟨by rw [HQ.out]; rfl, b1⟩

end Go.Proofs.YtianfjidbeineaaGreatDoor
