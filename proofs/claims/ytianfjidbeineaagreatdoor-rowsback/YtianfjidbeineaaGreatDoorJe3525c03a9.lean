/-
  Texts of mine, joined: what lies beneath the statement.
-/
import Derived.Test.YtianfjidbeineaaGreatDoorJ85cdcbe3e0
import Derived.Test.YtianfjidbeineaaGreatDoorJ4e1ab49688
import Derived.Test.YtianfjidbeineaaGreatDoorJc1d9f74807
import Derived.Test.YtianfjidbeineaaGreatDoorJdc69fa090d
import Derived.Test.YtianfjidbeineaaGreatDoorJ8baa95956e
namespace Go.Proofs.YtianfjidbeineaaGreatDoor
open Go.RowKit
set_option linter.unusedVariables false
set_option linter.unusedSimpArgs false

/-- A word by its three cells. -/
abbrev Tau := Nat → Int × Int × ByteArray
def tel (τ : Tau) (i j : Nat) : Value := if j = 0 then .int .i64 (τ i).1 else if j = 1 then .int .i64 (τ i).2.1 else .string (τ i).2.2
def bar (τ : Tau) (i : Nat) : Bool := (τ i).2.2.toList == [124]
/-- The parts that are done, and where the last one begins. -/
def spl (τ : Tau) : Nat → List (Nat × Nat) × Nat
  | 0 => ([], 0)
  | m + 1 => if bar τ m = true then ((spl τ m).1 ++ [((spl τ m).2, m - (spl τ m).2)], m + 1) else spl τ m
theorem spl_bar {τ : Tau} {m : Nat} (h : bar τ m = true) : spl τ (m + 1) = ((spl τ m).1 ++ [((spl τ m).2, m - (spl τ m).2)], m + 1) := if_pos h
theorem spl_no {τ : Tau} {m : Nat} (h : bar τ m = false) : spl τ (m + 1) = spl τ m := if_neg (by simp [h])
theorem spl_le (τ : Tau) : ∀ m, (spl τ m).2 ≤ m
  | 0 => Nat.le_refl _
  | m + 1 => by
    cases h : bar τ m
    · rw [spl_no h]; have := spl_le τ m; omega
    · rw [spl_bar h]; exact Nat.le_refl _
theorem spl_len (τ : Tau) : ∀ m, (spl τ m).1.length ≤ m
  | 0 => Nat.le_refl _
  | m + 1 => by
    cases h : bar τ m
    · rw [spl_no h]; have := spl_len τ m; omega
    · rw [spl_bar h]; have := spl_len τ m; simp; omega
def partsT (τ : Tau) (n : Nat) : List (Nat × Nat) := (spl τ n).1 ++ [((spl τ n).2, n - (spl τ n).2)]
/-- A row of words of the call's own. -/
def SOwn (B : Nat) (w : World) (v : Value) (n : Nat) (τ : Tau) : Prop := ∃ cs : List Value, w.ownsRow B 51 3 v n cs ∧ ∀ i, i < n → ∀ j, j < 3 → cs[i * 3 + j]? = some (tel τ i j)
theorem SOwn.nil (B : Nat) (w : World) (τ : Tau) : SOwn B w (.slice none 0 0) 0 τ := ⟨[], World.ownsRow_nil _ _ _ _, fun i hi => by omega⟩
theorem SOwn.below {B : Nat} {w w' : World} {v : Value} {n : Nat} {τ : Tau} (h : SOwn B w v n τ) (hb : Below w.heap.size w w') : SOwn B w' v n τ := let ⟨cs, a, b⟩ := h; ⟨cs, owns_later a hb, b⟩
theorem SOwn.form {B : Nat} {w : World} {v : Value} {n : Nat} {τ : Tau} (h : SOwn B w v n τ) : ∃ a c, v = .slice a n c := by
  obtain ⟨cs, h1, _⟩ := h
  rcases h1.2 with ⟨rfl, rfl⟩ | ⟨g, c, _, rfl, _⟩
  · exact ⟨none, 0, rfl⟩
  · exact ⟨_, c, rfl⟩
theorem SOwn.kept {B : Nat} {w w' : World} {v : Value} {n : Nat} {τ : Tau} {row : Option Nat} (h : SOwn B w v n τ) (hg : w.grownBy w' row) (hne : v.ownBlock = none ∨ v.ownBlock ≠ row) : SOwn B w' v n τ := let ⟨cs, a, b⟩ := h; ⟨cs, a.kept hg hne, b⟩
theorem SOwn.row {B : Nat} {w : World} {v : Value} {n : Nat} {τ : Tau} (h : SOwn B w v n τ) : RowAt 3 w v n (tel τ) := let ⟨cs, a, b⟩ := h; RowAt.of_owns a b
theorem SOwn.more {B : Nat} {w' : World} {v' : Value} {n : Nat} {τ : Tau} {cs : List Value} (h : w'.ownsRow B 51 3 v' (n + 1) (cs ++ [tel τ n 0, tel τ n 1, tel τ n 2])) (hl : cs.length = n * 3) (hc : ∀ i, i < n → ∀ j, j < 3 → cs[i * 3 + j]? = some (tel τ i j)) : SOwn B w' v' (n + 1) τ := by
  refine ⟨_, h, fun i hi j hj => ?_⟩
  by_cases e : i = n
  · subst e
    rw [List.getElem?_append_right (by omega), hl, Nat.add_sub_cancel_left]
    rcases (by omega : j = 0 ∨ j = 1 ∨ j = 2) with rfl | rfl | rfl <;> rfl
  · rw [List.getElem?_append_left (by omega)]
    exact hc i (by omega) j hj
/-- Parts of words, all of the call's own. -/
def POwn (B : Nat) (w : World) (v : Value) (P : List (Nat × Nat)) (τ : Tau) : Prop := ∃ us : List Value, w.ownsRow B 45 1 v P.length us ∧ ∀ (i : Nat) (p : Nat × Nat), P[i]? = some p → ∃ u, us[i]? = some u ∧ SOwn B w u p.2 (fun x => τ (p.1 + x))
theorem POwn.below {B : Nat} {w w' : World} {v : Value} {P : List (Nat × Nat)} {τ : Tau} (h : POwn B w v P τ) (hb : Below w.heap.size w w') : POwn B w' v P τ := let ⟨us, a, b⟩ := h; ⟨us, owns_later a hb, fun i p hp => let ⟨u, c, d⟩ := b i p hp; ⟨u, c, d.below hb⟩⟩
/-- Parts that grow: the last one's row shares its block with no other. -/
structure PLast (B : Nat) (w : World) (v : Value) (D : List (Nat × Nat)) (a m : Nat) (τ : Tau) (us : List Value) (ul : Value) : Prop where
  row : w.ownsRow B 45 1 v (D.length + 1) us
  last : us[D.length]? = some ul
  own : SOwn B w ul (m - a) (fun x => τ (a + x))
  parts : ∀ (i : Nat) (p : Nat × Nat), D[i]? = some p → ∃ u, us[i]? = some u ∧ SOwn B w u p.2 (fun x => τ (p.1 + x))
  apart : ∀ i u, i < D.length → us[i]? = some u → u.ownBlock = none ∨ u.ownBlock ≠ ul.ownBlock
theorem PLast.below {B : Nat} {w w' : World} {v : Value} {D : List (Nat × Nat)} {a m : Nat} {τ : Tau} {us : List Value} {ul : Value} (h : PLast B w v D a m τ us ul) (hb : Below w.heap.size w w') : PLast B w' v D a m τ us ul :=
  ⟨owns_later h.row hb, h.last, h.own.below hb, fun i p hp => let ⟨u, c, d⟩ := h.parts i p hp; ⟨u, c, d.below hb⟩, h.apart⟩
theorem PLast.pown {B : Nat} {w : World} {v : Value} {D : List (Nat × Nat)} {a m : Nat} {τ : Tau} {us : List Value} {ul : Value} (h : PLast B w v D a m τ us ul) : POwn B w v (D ++ [(a, m - a)]) τ := by
  refine ⟨us, by rw [List.length_append]; exact h.row, fun i p hp => ?_⟩
  by_cases e : i < D.length
  · rw [List.getElem?_append_left e] at hp
    exact h.parts i p hp
  · rw [List.getElem?_append_right (by omega)] at hp
    have hi : i = D.length := by
      have := (List.getElem?_eq_some_iff.1 hp).1
      simp at this; omega
    subst hi
    simp at hp
    subst hp
    exact ⟨ul, h.last, h.own⟩
theorem PLast.start {B : Nat} {w : World} (τ : Tau) (hb : B ≤ w.heap.size) : PLast B (w.alloc (.cells #[.slice none 0 0] 45)) (.slice (some ⟨w.heap.size, 0, none⟩) 1 1) [] 0 0 τ [.slice none 0 0] (.slice none 0 0) :=
  ⟨World.ownsRow_lit w #[.slice none 0 0] 1 hb (by unfold maxLen; omega) rfl, rfl, SOwn.nil _ _ _, fun i p hp => by simp at hp, fun i u hi => by simp at hi⟩
theorem PLast.block {B : Nat} {w : World} {v : Value} {D : List (Nat × Nat)} {a m : Nat} {τ : Tau} {us : List Value} {ul : Value} (h : PLast B w v D a m τ us ul) : ∃ g c, v = .slice (some ⟨g, 0, none⟩) (D.length + 1) c ∧ B ≤ g ∧ g < w.heap.size ∧ D.length + 1 ≤ c ∧ w.cell? ⟨g, D.length, none⟩ = some ul ∧ w.frozen? ⟨g, D.length, none⟩ = false := by
  rcases h.row.2 with ⟨_, e⟩ | ⟨g, c, cur, rfl, hB, hg, hc, _⟩
  · omega
  · exact ⟨g, c, rfl, hB, (h.row.lt g rfl).2, hc, owns_cell h.row h.last, h.row.frozenAt _⟩
/-- A bar: the last part is done, and an empty one begins. -/
theorem PLast.bar {B : Nat} {w w' : World} {v v' : Value} {D : List (Nat × Nat)} {a m : Nat} {τ : Tau} {us : List Value} {ul : Value} (h : PLast B w v D a m τ us ul) (ho : w'.ownsRow B 45 1 v' (D.length + 1 + 1) (us ++ [.slice none 0 0])) (hg : w.grownBy w' v.ownBlock) : PLast B w' v' (D ++ [(a, m - a)]) (m + 1) (m + 1) τ (us ++ [.slice none 0 0]) (.slice none 0 0) := by
  have hl : us.length = D.length + 1 := by have := h.row.1; omega
  have stay : ∀ u n σ, SOwn B w u n σ → SOwn B w' u n σ := fun u n σ hs => by
    obtain ⟨cs, c1, _⟩ := id hs
    exact hs.kept hg (owns_apart c1 h.row (by decide))
  refine ⟨by rw [List.length_append]; exact ho, ?_, by rw [Nat.sub_self]; exact SOwn.nil _ _ _, fun i p hp => ?_, fun i u hi hu => ?_⟩
  · rw [List.length_append, List.getElem?_append_right (by simp; omega)]; simp [hl]
  · obtain ⟨us2, r2, p2⟩ := h.pown
    obtain ⟨u, hu, hs⟩ : ∃ u, us[i]? = some u ∧ SOwn B w u p.2 (fun x => τ (p.1 + x)) := by
      by_cases e : i < D.length
      · rw [List.getElem?_append_left e] at hp
        exact h.parts i p hp
      · rw [List.getElem?_append_right (by omega)] at hp
        have hi : i = D.length := by
          have := (List.getElem?_eq_some_iff.1 hp).1
          simp at this; omega
        subst hi
        simp at hp
        subst hp
        exact ⟨ul, h.last, h.own⟩
    exact ⟨u, by rw [List.getElem?_append_left (List.getElem?_eq_some_iff.1 hu).1]; exact hu, stay _ _ _ hs⟩
  · cases e : u.ownBlock with
    | none => exact .inl rfl
    | some g => exact .inr (fun e2 => by simp [Value.ownBlock] at e2)
/-- A word: the last part's row grows, and is put back. -/
theorem PLast.word {B : Nat} {w w' : World} {g c : Nat} {D : List (Nat × Nat)} {a m : Nat} {τ : Tau} {us cs : List Value} {ul : Value} {g' c' : Nat} (h : PLast B w (.slice (some ⟨g, 0, none⟩) (D.length + 1) c) D a m τ us ul) (ham : a ≤ m)
    (ho : w.ownsRow B 51 3 ul (m - a) cs) (hcs : ∀ i, i < m - a → ∀ j, j < 3 → cs[i * 3 + j]? = some (tel (fun x => τ (a + x)) i j))
    (ho' : w'.ownsRow B 51 3 (.slice (some ⟨g', 0, none⟩) (m - a + 1) c') (m - a + 1) (cs ++ [tel τ m 0, tel τ m 1, tel τ m 2])) (hg : w.grownBy w' ul.ownBlock) (hat : ul.ownBlock = some g' ∨ g' = w.heap.size) :
    PLast B (w'.setCell ⟨g, D.length, none⟩ (.slice (some ⟨g', 0, none⟩) (m - a + 1) c')) (.slice (some ⟨g, 0, none⟩) (D.length + 1) c) D a (m + 1) τ (us.set D.length (.slice (some ⟨g', 0, none⟩) (m - a + 1) c')) (.slice (some ⟨g', 0, none⟩) (m - a + 1) c') := by
  have hl : us.length = D.length + 1 := by have := h.row.1; omega
  have r1 : w'.ownsRow B 45 1 (.slice (some ⟨g, 0, none⟩) (D.length + 1) c) (D.length + 1) us := h.row.kept hg (owns_apart h.row ho (by decide))
  obtain ⟨r2, r3⟩ := r1.stored D.length (.slice (some ⟨g', 0, none⟩) (m - a + 1) c')
  have up : ∀ u n σ, SOwn B w' u n σ → SOwn B (w'.setCell ⟨g, D.length, none⟩ (.slice (some ⟨g', 0, none⟩) (m - a + 1) c')) u n σ := fun u n σ hs => by
    obtain ⟨cs2, c1, _⟩ := id hs
    exact hs.kept r3 (owns_apart c1 r1 (by decide))
  have hmore : SOwn B w' (.slice (some ⟨g', 0, none⟩) (m - a + 1) c') (m - a + 1) (fun x => τ (a + x)) := by
    have e : ∀ j, tel τ m j = tel (fun x => τ (a + x)) (m - a) j := fun j => by unfold tel; simp only [show a + (m - a) = m by omega]
    rw [e 0, e 1, e 2] at ho'
    exact SOwn.more ho' ho.1 hcs
  refine ⟨r2, by rw [List.getElem?_set_self (by omega)], by rw [show m + 1 - a = m - a + 1 by omega]; exact up _ _ _ hmore, fun i p hp => ?_, fun i u hi hu => ?_⟩
  · obtain ⟨u, hu, hs⟩ := h.parts i p hp
    have hi : i < D.length := (List.getElem?_eq_some_iff.1 hp).1
    exact ⟨u, by rw [List.getElem?_set_ne (by omega)]; exact hu, up _ _ _ (hs.kept hg (h.apart i u hi hu))⟩
  · rw [List.getElem?_set_ne (by omega)] at hu
    cases e : u.ownBlock with
    | none => exact .inl rfl
    | some b =>
      refine .inr (fun e2 => ?_)
      have e2 : some b = some g' := e2
      injection e2 with e2
      subst e2
      rcases hat with h1 | h1
      · rcases h.apart i u hi hu with h2 | h2
        · rw [e] at h2; cases h2
        · exact h2 (e.trans h1.symm)
      · obtain ⟨p, hp⟩ : ∃ p, D[i]? = some p := ⟨_, List.getElem?_eq_getElem hi⟩
        obtain ⟨u2, hu2, cs2, c2, _⟩ := h.parts i p hp
        rw [hu] at hu2
        cases hu2
        have := (c2.lt b e).2
        omega

theorem info_toks : (Tryz.prog.info? 45).map (fun i => (i.zero, i.size, i.bytes)) = some (some (.slice none 0 0), 1, 24) := by kernel_rfl

theorem tel_at {w : World} {v : Value} {n : Nat} {τ : Tau} (h : RowAt 3 w v n (tel τ)) {i : Nat} (hi : i < n) : ∃ b off c, v = .slice (some ⟨b, off, none⟩) n c ∧ n ≤ c ∧ w.cell? ⟨b, off + i * 3, none⟩ = some (.int .i64 (τ i).1) ∧ w.cell? ⟨b, off + i * 3 + 1, none⟩ = some (.int .i64 (τ i).2.1) ∧ w.cell? ⟨b, off + i * 3 + 2, none⟩ = some (.string (τ i).2.2) := by
  obtain ⟨a, c, h1, h2, h3, h4⟩ := h
  obtain ⟨b, off, rfl, hc⟩ := h4 (by omega)
  exact ⟨b, off, c, h1, h2, hc i hi 0 (by omega), hc i hi 1 (by omega), hc i hi 2 (by omega)⟩
def SplitOut (n : Nat) (τ : Tau) (B : Nat) (e : Ending) (w' : World) : Prop := (n = 0 ∧ e = .returned (.slice none 0 0)) ∨ (0 < n ∧ ∃ r, e = .returned r ∧ POwn B w' r (partsT τ n) τ)
/-- The parts, growing: what Split's loop keeps. -/
def SplInv (B : Nat) (w : World) (v : Value) (m : Nat) (τ : Tau) : Prop := ∃ us ul, PLast B w v (spl τ m).1 (spl τ m).2 m τ us ul

theorem V3.kept5 {w w' : World} {R : Nat} {x y z : Value} {row : Option Nat} (h : V3 w R x y z) (hg : w.grownBy w' row) (hne : ∀ g, row = some g → g = R → False) : V3 w' R x y z := by
  have hb := hg.block R h.lt (fun e => hne R e.symm rfl)
  obtain ⟨h1, h2, h3, h4, h5, h6⟩ := h
  exact ⟨(World.cell?_of_block (w := w) (a := ⟨R, 0, none⟩) hb).trans h1, (World.cell?_of_block (w := w) (a := ⟨R, 1, none⟩) hb).trans h2, (World.cell?_of_block (w := w) (a := ⟨R, 2, none⟩) hb).trans h3, (World.frozen?_of_block (w := w) (a := ⟨R, 0, none⟩) hb).trans h4, (World.frozen?_of_block (w := w) (a := ⟨R, 1, none⟩) hb).trans h5, (World.frozen?_of_block (w := w) (a := ⟨R, 2, none⟩) hb).trans h6⟩


set_option maxRecDepth 100000 in
set_option maxHeartbeats 8000000 in
theorem split_at (v : Value) (n : Nat) (τ : Tau) (w : World) (hv : RowAt 3 w v n (tel τ)) (hn : n ≤ 100000) :
    Calls Tryz.prog 36 #[v] w fun e w' => SplitOut n τ w.heap.size e w' ∧ Below w.heap.size w w' := by
  obtain ⟨ao, c, rfl, hnc, hc63⟩ : ∃ a c, v = .slice a n c ∧ n ≤ c ∧ c ≤ 9223372036854775807 := by obtain ⟨a, c, h1, h2, h3, _⟩ := hv; exact ⟨a, c, h1, h2, h3⟩
  have hv0 : Hid (RowAt 3 w (.slice ao n c) n (tel τ)) := hv
  clear hv
  go_enter Tryz.func36, Tryz.ntmps36
  by_cases hn0 : n = 0
  · subst hn0
    go_wp2
    go_ret
    exact ⟨.inl ⟨rfl, rfl⟩, Below.refl _ _⟩
  · have hn1 : ¬ (n : Int) = 0 := by omega
    have hn2 : ((n : Int) == 0) = false := by simp [hn0]
    have PS := PLast.start (B := w.heap.size) (w := w) τ (Nat.le_refl _)
    have B0 : Below w.heap.size w (w.alloc (.cells #[.slice none 0 0] 45)) := (Below.refl _ _).alloc (Nat.le_refl _) _
    go_wp2
    go_loopw [3, 13] (fun vo vi wr => ∃ i : Nat, i ≤ n ∧ vi = .int .i64 (i : Int) ∧ SplInv w.heap.size wr vo i τ ∧ Below w.heap.size w wr) (fun _ vi _ => n - (intOf vi).toNat)
    case atStart => exact ⟨0, by omega, rfl, ⟨_, _, PS⟩, B0⟩
    case round =>
      clear PS B0
      obtain ⟨i, hi, rfl, ⟨us, ul, PL⟩, BB⟩ := hrel
      by_cases hlt : i < n
      · have g1 : (i : Int) < (n : Int) := by omega
        have g0 : (0 : Int) ≤ (i : Int) := by omega
        obtain ⟨gO, cO, rfl, hgB, hgl, hcO, XL, FL⟩ := PL.block
        have hDl := spl_len τ i
        have hDa := spl_le τ i
        have HSP : Hid (spl τ i = ((spl τ i).1, (spl τ i).2)) := rfl
        generalize hDD : (spl τ i).1 = D at *
        generalize hAA : (spl τ i).2 = a at *
        have HD : Hid ((spl τ i).1 = D ∧ (spl τ i).2 = a) := ⟨hDD, hAA⟩
        clear hDD hAA HSP
        obtain ⟨kk, hkk⟩ : ∃ kk, D.length = kk := ⟨_, rfl⟩
        have HKK : Hid (D.length = kk) := hkk
        rw [hkk] at hcO XL FL hDl
        obtain ⟨k1, hk1⟩ : ∃ k1, kk + 1 = k1 := ⟨_, rfl⟩
        have HK1 : Hid (D.length + 1 = k1) := by show _ = _; omega
        have hk1v : (D.length + 1) = k1 := by omega
        rw [hk1v]
        rw [hk1] at hcO
        have f1 : (k1 : Int) - 1 = (kk : Int) := by omega
        have f2 : IntKind.i64.wrap (kk : Int) = (kk : Int) := by rw [IntKind.wrap_i64]; omega
        have f3 : (0 : Int) ≤ (kk : Int) := by omega
        have f4 : (kk : Int) < (k1 : Int) := by omega
        have hk15 : k1 ≤ 100001 := by omega
        clear hk1 hkk hk1v
        obtain ⟨b, off, c9, hvv, hcc, X0, X1, X2⟩ := tel_at (hv0.out.below BB) hlt
        cases hvv
        generalize ht1 : (τ i).1 = tA at X0
        generalize ht2 : (τ i).2.1 = tB at X1
        generalize ht3 : (τ i).2.2 = s at X2
        have HT : Hid ((τ i).1 = tA ∧ (τ i).2.1 = tB ∧ (τ i).2.2 = s) := ⟨ht1, ht2, ht3⟩
        clear ht1 ht2 ht3
        have HBL : Hid ((∀ g, ul.ownBlock = some g → g < wr.heap.size) ∧ gO < wr.heap.size) := ⟨fun g hg => let ⟨cs9, c9, _⟩ := PL.own; (c9.lt g hg).2, hgl⟩
        obtain ⟨Wa, hWa, hSa, hLa, VW⟩ := V3.lay wr 51 (.int .i64 tA) (.int .i64 tB) (.string s)
        have PL1 := PL.below hLa
        have BB1 := BB.trans (hLa.mono BB.size)
        cases hbr : (s.toList == [124])
        · have HB : Hid (bar τ i = false) := by show ((τ i).2.2.toList == [124]) = false; rw [HT.out.2.2]; exact hbr
          have HSPL : Hid (spl τ (i + 1) = (D, a)) := by show _ = _; rw [spl_no HB.out, ← HD.out.1, ← HD.out.2]
          obtain ⟨z1, z2, z3, z4, z5, z6⟩ := id VW
          rw [hWa] at z1 z2 z3 z4 z5 z6
          go_wp2
          rw [← hWa]
          clear z1 z2 z3 z4 z5 z6 PL BB XL FL X0 X1 X2 hSa
          have hRw : wr.heap.size < Wa.heap.size := VW.lt
          have HUL : Hid (∀ g, ul.ownBlock = some g → g < wr.heap.size) := HBL.out.1
          have hgO : gO < wr.heap.size := HBL.out.2
          generalize wr.heap.size = Ra at *
          clear hWa hLa hgl
          obtain ⟨gO2, cO2, hvO, hgB2, hgl2, hcO2, XL, FL⟩ := PL1.block
          cases hvO
          obtain ⟨au, cu, hul⟩ := PL1.own.form
          subst hul
          obtain ⟨ln, hln⟩ : ∃ ln, i - a = ln := ⟨_, rfl⟩
          have HLN : Hid (i - a = ln) := hln
          have hl15 : ln ≤ 100000 := by omega
          rw [hln] at PL1 XL
          rw [HKK.out] at XL FL
          have HRA0 : ∀ g, Value.ownBlock (.slice au ln cu) = some g → g = Ra → False := fun g hg e9 => by have h9 := HUL.out g (by rw [HLN.out]; exact hg); omega
          clear hln hcO2
          have BB := BB1
          clear BB1
          have PL := PL1
          clear PL1
          have HGO : Hid (gO = Ra → False) := fun e9 => by have h9 := hgO; omega
          have HRA : Hid (∀ g, Value.ownBlock (.slice au ln cu) = some g → g = Ra → False) := HRA0
          clear hgO HRA0
          have hDr : Below Wa.heap.size Wa Wa.drew := (Below.refl _ _).drew
          replace PL := PL.below hDr
          replace VW := VW.below hDr
          replace BB := BB.trans (hDr.mono BB.size)
          clear hDr
          refine wp_region_held_drew (S := (fun w' => w'.cell? ⟨Ra, 0, none⟩ = some (.int .i64 tA) ∧ w'.cell? ⟨Ra, 1, none⟩ = some (.int .i64 tB) ∧ w'.cell? ⟨Ra, 2, none⟩ = some (.string s))) (by kernel_rfl) ?_ (fun hHeld => ?_)
          · exact ⟨VW.1, VW.2.1, VW.2.2.1⟩
          generalize Wa.drew = W41 at *
          refine wpAnyH_take (i := 0) (v := ?_) (by simp only [List.getElem?_toArray, List.getElem?_cons_succ, List.getElem?_cons_zero]; rfl) (by kernel_rfl) (by kernel_rfl) (by kernel_rfl) (by exact fun _ _ _ h => h) (Or.inl ⟨by rfl, ?_⟩) (by assumption) ?_
          rotate_left
          · (intro w hSw; (try dsimp only at hSw); go_simp; (try with_reducible rfl))
          (try simp only [Act.put, List.setIfInBounds_toArray, List.set_cons_zero, List.set_cons_succ])
          refine wpAnyH_take (i := 1) (v := ?_) (by simp only [List.getElem?_toArray, List.getElem?_cons_succ, List.getElem?_cons_zero]; rfl) (by kernel_rfl) (by kernel_rfl) (by kernel_rfl) (by exact fun _ _ _ h => h) (Or.inl ⟨by rfl, ?_⟩) (by assumption) ?_
          rotate_left
          · (intro w hSw; (try dsimp only at hSw); go_simp; (try with_reducible rfl))
          (try simp only [Act.put, List.setIfInBounds_toArray, List.set_cons_zero, List.set_cons_succ])
          refine wpAnyH_take (i := 2) (v := ?_) (by simp only [List.getElem?_toArray, List.getElem?_cons_succ, List.getElem?_cons_zero]; rfl) (by kernel_rfl) (by kernel_rfl) (by kernel_rfl) (by exact fun _ _ _ h => h) (Or.inl ⟨by rfl, ?_⟩) (by assumption) ?_
          rotate_left
          · (intro w hSw; (try dsimp only at hSw); go_simp; (try with_reducible rfl))
          (try simp only [Act.put, List.setIfInBounds_toArray, List.set_cons_zero, List.set_cons_succ])
          refine wpAnyH_take (i := 3) (v := ?_) (by simp only [List.getElem?_toArray, List.getElem?_cons_succ, List.getElem?_cons_zero]; rfl) (by kernel_rfl) (by kernel_rfl) (by kernel_rfl) (by exact fun _ _ _ h => h) (Or.inl ⟨by rfl, ?_⟩) (by assumption) ?_
          rotate_left
          · (intro w hSw; (try dsimp only at hSw); go_simp; (try with_reducible rfl))
          (try simp only [Act.put, List.setIfInBounds_toArray, List.set_cons_zero, List.set_cons_succ])
          refine wpAnyH_take (i := 4) (v := ?_) (by simp only [List.getElem?_toArray, List.getElem?_cons_succ, List.getElem?_cons_zero]; rfl) (by kernel_rfl) (by kernel_rfl) (by kernel_rfl) (by exact fun _ _ _ h => h) (Or.inl ⟨by rfl, ?_⟩) (by assumption) ?_
          rotate_left
          · (intro w hSw; (try dsimp only at hSw); go_simp; (try with_reducible rfl))
          (try simp only [Act.put, List.setIfInBounds_toArray, List.set_cons_zero, List.set_cons_succ])
          refine wpAnyH_take (i := 6) (v := ?_) (by simp only [List.getElem?_toArray, List.getElem?_cons_succ, List.getElem?_cons_zero]; rfl) (by kernel_rfl) (by kernel_rfl) (by kernel_rfl) (by exact fun _ _ _ h => h) (Or.inl ⟨by rfl, ?_⟩) (by assumption) ?_
          rotate_left
          · (intro w hSw; (try dsimp only at hSw); go_simp; (try with_reducible rfl))
          (try simp only [Act.put, List.setIfInBounds_toArray, List.set_cons_zero, List.set_cons_succ])
          refine wpAnyH_ready (rs := [5, 7]) (by kernel_rfl) (by simp) ?_
          refine AllReadyH.cons (by simp only [List.getElem?_toArray, List.getElem?_cons_succ, List.getElem?_cons_zero]; rfl) (fun K hK => ?_) ?_
          ·
            have XL5 : W41.cell? ⟨gO, kk, none⟩ = some (.slice au ln cu) := by have h9 := PL.block; obtain ⟨g9, c9_, e9, _, _, _, x9, _⟩ := h9; cases e9; rw [HKK.out] at x9; exact x9
            go_simp
            clear XL5
            refine hK.out _ _ ?_ (fun hH1 => ?_)
            · exact ⟨VW.1, VW.2.1, VW.2.2.1⟩
            clear hK K hHeld
            (try simp only [Act.put, List.setIfInBounds_toArray, List.set_cons_zero, List.set_cons_succ])
            refine wpAnyH_ready (rs := [7]) (by kernel_rfl) (by simp) ?_
            refine AllReadyH.cons (by simp only [List.getElem?_toArray, List.getElem?_cons_succ, List.getElem?_cons_zero]; rfl) (fun K hK => ?_) AllReadyH.nil
            go_simp
            obtain ⟨W42, hW7, hS7, hL7, V7⟩ := V3.lay W41 51 (.int .i64 tA) (.int .i64 tB) (.string s)
            rw [← hW7]
            replace PL := PL.below hL7
            replace VW := VW.below hL7
            replace BB := BB.trans (hL7.mono BB.size)
            have hnb : ∀ (j : Nat) u, [Value.int .i64 tA, .int .i64 tB, .string s][j]? = some u → W42.cell? ((⟨W41.heap.size, 0, none⟩ : Addr).add j) = some u := by rw [hW7]; exact news_block (heap_alloc_new _ _)
            generalize W41.heap.size = R7 at *
            clear hW7 hS7 hL7 V7
            refine hK.out _ _ ?_ (fun hH2 => ?_)
            · exact ⟨VW.1, VW.2.1, VW.2.2.1⟩
            clear hK K hH1
            (try simp only [Act.put, List.setIfInBounds_toArray, List.set_cons_zero, List.set_cons_succ])
            refine wpAnyH_ready (rs := [8]) (by kernel_rfl) (by simp) ?_
            refine AllReadyH.cons (by simp only [List.getElem?_toArray, List.getElem?_cons_succ, List.getElem?_cons_zero]; rfl) (fun K hK => ?_) AllReadyH.nil
            obtain ⟨cs, hco, hcs⟩ := PL.own
            have hsz2 := BB.size
            have hbk := hco.lt
            refine step_append_pure (Q' := fun _ => False) (by rfl) _ _ _ (by rfl) w.heap.size 51 (.agg #[.int .i64 0, .int .i64 0, .string ByteArray.empty]) 3 32 Tryz.underlying45 info_tok (by rfl) (by omega) (.slice au ln cu) (by rfl) ln cs ?g1 (fun _ _ _ _ _ h => h) ⟨R7, 0, none⟩ 1 (by rfl) [.int .i64 tA, .int .i64 tB, .string s] rfl hnb (by simp [Value.oneCell']) (by simp) (by simp) (by omega) (by omega) hsz2 ?_
            case g1 => have h9 := hco; rw [HLN.out] at h9; exact h9
            intro gN cN w5 ho5 hg5 hat5 _ _
            clear hnb
            have BB5 : Below w.heap.size w w5 := below_grownB BB hg5 hsz2 (fun g hg => (hbk g hg).1)
            have HW9 : Hid (PLast w.heap.size (w5.setCell ⟨gO, kk, none⟩ (.slice (some ⟨gN, 0, none⟩) (ln + 1) cN)) (.slice (some ⟨gO, 0, none⟩) k1 cO) D a (i + 1) τ (us.set kk (.slice (some ⟨gN, 0, none⟩) (ln + 1) cN)) (.slice (some ⟨gN, 0, none⟩) (ln + 1) cN)) := by
              have e1 := HKK.out
              have e2 := HLN.out
              have e3 := HK1.out
              have e4 := HT.out
              subst e1 e2 e3
              refine PL.word hDa hco hcs ?_ hg5 hat5
              simp only [tel, if_pos, if_neg, Nat.one_ne_zero, e4.1, e4.2.1, e4.2.2, show ¬ (2 : Nat) = 0 by omega, show ¬ (2 : Nat) = 1 by omega, if_false, if_true]
              exact ho5
            have VW5 : V3 w5 Ra (.int .i64 tA) (.int .i64 tB) (.string s) := VW.kept5 hg5 (fun g hg e9 => HRA.out g hg e9)
            have X5 : w5.cell? ⟨gO, kk, none⟩ = some (.slice au ln cu) ∧ w5.frozen? ⟨gO, kk, none⟩ = false := by
              have h9 := PL.block
              obtain ⟨g9, c9_, e9, _, l9, _, x9, y9⟩ := h9
              cases e9
              rw [HKK.out] at x9 y9
              have hne : some gO ≠ Value.ownBlock (.slice au ln cu) := fun e9 => by
                rcases owns_apart PL.row hco (by decide) with q9 | q9
                · cases q9
                · exact q9 e9
              have hbl := hg5.block gO l9 hne
              exact ⟨(World.cell?_of_block (w := W42) (a := ⟨gO, kk, none⟩) hbl).trans x9, (World.frozen?_of_block (w := W42) (a := ⟨gO, kk, none⟩) hbl).trans y9⟩
            clear PL VW BB hco hcs hsz2 hbk ho5 hg5 hat5
            have VW := VW5
            clear VW5
            refine hK.out _ _ ?_ (fun hH3 => ?_)
            · exact ⟨VW.1, VW.2.1, VW.2.2.1⟩
            clear hK K hH2
            (try simp only [Act.put, List.setIfInBounds_toArray, List.set_cons_zero, List.set_cons_succ])
            refine wpAnyH_take (i := 9) (v := ?_) (by simp only [List.getElem?_toArray, List.getElem?_cons_succ, List.getElem?_cons_zero]; rfl) (by kernel_rfl) (by kernel_rfl) (by kernel_rfl) (by exact fun _ _ _ h => h) (Or.inl ⟨by rfl, ?_⟩) (by assumption) ?_
            rotate_left
            · (intro w hSw; (try dsimp only at hSw); go_simp; (try with_reducible rfl))
            (try simp only [Act.put, List.setIfInBounds_toArray, List.set_cons_zero, List.set_cons_succ])
            refine wpAnyH_ready (rs := [10]) (by kernel_rfl) (by simp) ?_
            refine AllReadyH.cons (by simp only [List.getElem?_toArray, List.getElem?_cons_succ, List.getElem?_cons_zero]; rfl) (fun K hK => ?_) AllReadyH.nil
            obtain ⟨x5, y5⟩ := X5
            have BB6 := BB5.setCell (p := ⟨gO, kk, none⟩) hgB (.slice (some ⟨gN, 0, none⟩) (ln + 1) cN)
            have VW6 : V3 (w5.setCell ⟨gO, kk, none⟩ (.slice (some ⟨gN, 0, none⟩) (ln + 1) cN)) Ra (.int .i64 tA) (.int .i64 tB) (.string s) := VW.kept5 (grown_at _ _ _) (fun g hg e9 => by cases hg; exact HGO.out e9)
            go_simp
            clear x5 y5 BB5 VW
            generalize w5.setCell ⟨gO, kk, none⟩ (.slice (some ⟨gN, 0, none⟩) (ln + 1) cN) = W9 at *
            have VW := VW6
            clear VW6
            refine hK.out _ _ ?_ (fun hH4 => ?_)
            · exact ⟨VW.1, VW.2.1, VW.2.2.1⟩
            clear hK K hH3
            (try simp only [Act.put, List.setIfInBounds_toArray, List.set_cons_zero, List.set_cons_succ])
            refine wpAnyH_done (by kernel_rfl) ?_ _
            clear hH4
            go_wp2
            go_roundw
            case rel => exact ⟨i + 1, by omega, by go_num, by unfold SplInv; rw [HSPL.out]; exact ⟨_, _, HW9.out⟩, BB6⟩
            case measure => simp [intOf]; omega
          refine AllReadyH.cons (by simp only [List.getElem?_toArray, List.getElem?_cons_succ, List.getElem?_cons_zero]; rfl) (fun K hK => ?_) ?_
          ·
            go_simp
            obtain ⟨W43, hW7, hS7, hL7, V7⟩ := V3.lay W41 51 (.int .i64 tA) (.int .i64 tB) (.string s)
            rw [← hW7]
            replace PL := PL.below hL7
            replace VW := VW.below hL7
            replace BB := BB.trans (hL7.mono BB.size)
            have hnb : ∀ (j : Nat) u, [Value.int .i64 tA, .int .i64 tB, .string s][j]? = some u → W43.cell? ((⟨W41.heap.size, 0, none⟩ : Addr).add j) = some u := by rw [hW7]; exact news_block (heap_alloc_new _ _)
            generalize W41.heap.size = R7 at *
            clear hW7 hS7 hL7 V7
            refine hK.out _ _ ?_ (fun hH1 => ?_)
            · exact ⟨VW.1, VW.2.1, VW.2.2.1⟩
            clear hK K hHeld
            (try simp only [Act.put, List.setIfInBounds_toArray, List.set_cons_zero, List.set_cons_succ])
            refine wpAnyH_ready (rs := [5]) (by kernel_rfl) (by simp) ?_
            refine AllReadyH.cons (by simp only [List.getElem?_toArray, List.getElem?_cons_succ, List.getElem?_cons_zero]; rfl) (fun K hK => ?_) AllReadyH.nil
            have XL5 : W43.cell? ⟨gO, kk, none⟩ = some (.slice au ln cu) := by have h9 := PL.block; obtain ⟨g9, c9_, e9, _, _, _, x9, _⟩ := h9; cases e9; rw [HKK.out] at x9; exact x9
            go_simp
            clear XL5
            refine hK.out _ _ ?_ (fun hH2 => ?_)
            · exact ⟨VW.1, VW.2.1, VW.2.2.1⟩
            clear hK K hH1
            (try simp only [Act.put, List.setIfInBounds_toArray, List.set_cons_zero, List.set_cons_succ])
            refine wpAnyH_ready (rs := [8]) (by kernel_rfl) (by simp) ?_
            refine AllReadyH.cons (by simp only [List.getElem?_toArray, List.getElem?_cons_succ, List.getElem?_cons_zero]; rfl) (fun K hK => ?_) AllReadyH.nil
            obtain ⟨cs, hco, hcs⟩ := PL.own
            have hsz2 := BB.size
            have hbk := hco.lt
            refine step_append_pure (Q' := fun _ => False) (by rfl) _ _ _ (by rfl) w.heap.size 51 (.agg #[.int .i64 0, .int .i64 0, .string ByteArray.empty]) 3 32 Tryz.underlying45 info_tok (by rfl) (by omega) (.slice au ln cu) (by rfl) ln cs ?g1 (fun _ _ _ _ _ h => h) ⟨R7, 0, none⟩ 1 (by rfl) [.int .i64 tA, .int .i64 tB, .string s] rfl hnb (by simp [Value.oneCell']) (by simp) (by simp) (by omega) (by omega) hsz2 ?_
            case g1 => have h9 := hco; rw [HLN.out] at h9; exact h9
            intro gN cN w5 ho5 hg5 hat5 _ _
            clear hnb
            have BB5 : Below w.heap.size w w5 := below_grownB BB hg5 hsz2 (fun g hg => (hbk g hg).1)
            have HW9 : Hid (PLast w.heap.size (w5.setCell ⟨gO, kk, none⟩ (.slice (some ⟨gN, 0, none⟩) (ln + 1) cN)) (.slice (some ⟨gO, 0, none⟩) k1 cO) D a (i + 1) τ (us.set kk (.slice (some ⟨gN, 0, none⟩) (ln + 1) cN)) (.slice (some ⟨gN, 0, none⟩) (ln + 1) cN)) := by
              have e1 := HKK.out
              have e2 := HLN.out
              have e3 := HK1.out
              have e4 := HT.out
              subst e1 e2 e3
              refine PL.word hDa hco hcs ?_ hg5 hat5
              simp only [tel, if_pos, if_neg, Nat.one_ne_zero, e4.1, e4.2.1, e4.2.2, show ¬ (2 : Nat) = 0 by omega, show ¬ (2 : Nat) = 1 by omega, if_false, if_true]
              exact ho5
            have VW5 : V3 w5 Ra (.int .i64 tA) (.int .i64 tB) (.string s) := VW.kept5 hg5 (fun g hg e9 => HRA.out g hg e9)
            have X5 : w5.cell? ⟨gO, kk, none⟩ = some (.slice au ln cu) ∧ w5.frozen? ⟨gO, kk, none⟩ = false := by
              have h9 := PL.block
              obtain ⟨g9, c9_, e9, _, l9, _, x9, y9⟩ := h9
              cases e9
              rw [HKK.out] at x9 y9
              have hne : some gO ≠ Value.ownBlock (.slice au ln cu) := fun e9 => by
                rcases owns_apart PL.row hco (by decide) with q9 | q9
                · cases q9
                · exact q9 e9
              have hbl := hg5.block gO l9 hne
              exact ⟨(World.cell?_of_block (w := W43) (a := ⟨gO, kk, none⟩) hbl).trans x9, (World.frozen?_of_block (w := W43) (a := ⟨gO, kk, none⟩) hbl).trans y9⟩
            clear PL VW BB hco hcs hsz2 hbk ho5 hg5 hat5
            have VW := VW5
            clear VW5
            refine hK.out _ _ ?_ (fun hH3 => ?_)
            · exact ⟨VW.1, VW.2.1, VW.2.2.1⟩
            clear hK K hH2
            (try simp only [Act.put, List.setIfInBounds_toArray, List.set_cons_zero, List.set_cons_succ])
            refine wpAnyH_take (i := 9) (v := ?_) (by simp only [List.getElem?_toArray, List.getElem?_cons_succ, List.getElem?_cons_zero]; rfl) (by kernel_rfl) (by kernel_rfl) (by kernel_rfl) (by exact fun _ _ _ h => h) (Or.inl ⟨by rfl, ?_⟩) (by assumption) ?_
            rotate_left
            · (intro w hSw; (try dsimp only at hSw); go_simp; (try with_reducible rfl))
            (try simp only [Act.put, List.setIfInBounds_toArray, List.set_cons_zero, List.set_cons_succ])
            refine wpAnyH_ready (rs := [10]) (by kernel_rfl) (by simp) ?_
            refine AllReadyH.cons (by simp only [List.getElem?_toArray, List.getElem?_cons_succ, List.getElem?_cons_zero]; rfl) (fun K hK => ?_) AllReadyH.nil
            obtain ⟨x5, y5⟩ := X5
            have BB6 := BB5.setCell (p := ⟨gO, kk, none⟩) hgB (.slice (some ⟨gN, 0, none⟩) (ln + 1) cN)
            have VW6 : V3 (w5.setCell ⟨gO, kk, none⟩ (.slice (some ⟨gN, 0, none⟩) (ln + 1) cN)) Ra (.int .i64 tA) (.int .i64 tB) (.string s) := VW.kept5 (grown_at _ _ _) (fun g hg e9 => by cases hg; exact HGO.out e9)
            go_simp
            clear x5 y5 BB5 VW
            generalize w5.setCell ⟨gO, kk, none⟩ (.slice (some ⟨gN, 0, none⟩) (ln + 1) cN) = W9 at *
            have VW := VW6
            clear VW6
            refine hK.out _ _ ?_ (fun hH4 => ?_)
            · exact ⟨VW.1, VW.2.1, VW.2.2.1⟩
            clear hK K hH3
            (try simp only [Act.put, List.setIfInBounds_toArray, List.set_cons_zero, List.set_cons_succ])
            refine wpAnyH_done (by kernel_rfl) ?_ _
            clear hH4
            go_wp2
            go_roundw
            case rel => exact ⟨i + 1, by omega, by go_num, by unfold SplInv; rw [HSPL.out]; exact ⟨_, _, HW9.out⟩, BB6⟩
            case measure => simp [intOf]; omega
          exact AllReadyH.nil
        · have HB : Hid (bar τ i = true) := by show (τ i).2.2.toList == [124]; rw [HT.out.2.2]; exact hbr
          have HSPL : Hid (spl τ (i + 1) = (D ++ [(a, i - a)], i + 1)) := by show _ = _; rw [spl_bar HB.out, HD.out.1, HD.out.2]
          have hAl : Below Wa.heap.size Wa (Wa.alloc (.cells #[.slice none 0 0] 45)) := (Below.refl _ _).alloc (Nat.le_refl _) _
          have PL2 := PL1.below hAl
          have BB2 := BB1.trans (hAl.mono BB1.size)
          have hrow := PL2.row
          rw [HK1.out] at hrow
          have hsz2 := BB2.size
          have hnb := news_block (heap_alloc_new Wa (.cells #[.slice none 0 0] 45))
          rw [hSa] at hnb
          have hbk := PL2.row.lt
          obtain ⟨z1, z2, z3, z4, z5, z6⟩ := id VW
          rw [hWa] at z1 z2 z3 z4 z5 z6
          clear VW hLa hAl PL PL1 BB BB1 hSa HT hv0 XL FL
          rw [HK1.out] at hbk
          subst hWa
          go_wp2_with (first
            | (at_builtin
               refine wpList_append_pure (Q' := fun _ => False) rfl _ _ _ rfl w.heap.size 45 (.slice none 0 0) 1 24 Tryz.underlying76 info_toks rfl (by omega) (.slice (some ⟨gO, 0, none⟩) k1 cO) rfl k1 us hrow (fun _ _ _ _ _ h => h) ⟨wr.heap.size + 1, 0, none⟩ 1 rfl [.slice none 0 0] rfl ?g14 ?g15 ?g16 ?g17 (by omega) (by omega) hsz2 ?_
               case g14 => exact hnb
               case g15 => simp [Value.oneCell']
               case g16 => simp
               case g17 => simp
               intro gN cN w5 ho5 hg5 _ _ _
               have ho6 : w5.ownsRow w.heap.size 45 1 (.slice (some ⟨gN, 0, none⟩) (k1 + 1) cN) (D.length + 1 + 1) (us ++ [.slice none 0 0]) := by rw [HK1.out]; exact ho5
               have PL6 := PL2.bar ho6 hg5
               have SI6 : SplInv w.heap.size w5 (.slice (some ⟨gN, 0, none⟩) (k1 + 1) cN) (i + 1) τ := by unfold SplInv; rw [HSPL.out]; exact ⟨_, _, PL6⟩
               have BB6 : Below w.heap.size w w5 := below_grownB BB2 hg5 hsz2 (fun g hg => (hbk g hg).1)
               clear ho5 hg5 ho6 PL6 PL2 BB2 hrow hnb hbk))
          go_roundw
          case rel => exact ⟨i + 1, by omega, by go_num, SI6, BB6⟩
          case measure => simp [intOf]; omega
      · obtain rfl : i = n := by omega
        have g1 : ¬ (i : Int) < (i : Int) := by omega
        have HP := PL.pown
        go_wp2
        go_ret
        exact ⟨.inr ⟨by omega, _, rfl, HP⟩, BB⟩

/-- Words as cells. -/
def tauL (l : List Tok) : Tau := fun i => (((l.getD i noTok).1 : Int), ((l.getD i noTok).2.1 : Int), (l.getD i noTok).2.2)
theorem TkAt.tel {w : World} {v : Value} {l : List Tok} (h : TkAt w v l) : RowAt 3 w v l.length (tel (tauL l)) := by
  obtain ⟨a, c, h1, h2, h3, h4⟩ := h
  refine ⟨a, c, h1, h2, h3, fun hn => ?_⟩
  obtain ⟨b, off, e, hc⟩ := h4 hn
  refine ⟨b, off, e, fun i hi j hj => (hc i hi j hj).trans ?_⟩
  rcases (by omega : j = 0 ∨ j = 1 ∨ j = 2) with rfl | rfl | rfl <;> rfl
/-- The words of a part. -/
def part9 (l : List Tok) (p : Nat × Nat) : List Tok := (l.drop p.1).take p.2
theorem part9_len {l : List Tok} {p : Nat × Nat} (h : p.1 + p.2 ≤ l.length) : (part9 l p).length = p.2 := by
  unfold part9; rw [List.length_take, List.length_drop]; omega
theorem part9_get {l : List Tok} {p : Nat × Nat} {i : Nat} (hi : i < p.2) : (part9 l p).getD i noTok = l.getD (p.1 + i) noTok := by
  unfold part9
  rw [List.getD_eq_getElem?_getD, List.getElem?_take, if_pos hi, List.getElem?_drop, ← List.getD_eq_getElem?_getD]
theorem part9_tx {l : List Tok} {p : Nat × Nat} {i : Nat} (hi : i < p.2) : tx (part9 l p) i = tx l (p.1 + i) := by unfold tx; rw [part9_get hi]
theorem SOwn.tk9 {B : Nat} {w : World} {v : Value} {l : List Tok} {p : Nat × Nat} (h : SOwn B w v p.2 (fun x => tauL l (p.1 + x))) (hp : p.1 + p.2 ≤ l.length) : TkAt w v (part9 l p) := by
  obtain ⟨a, c, h1, h2, h3, h4⟩ := h.row
  unfold TkAt
  rw [part9_len hp]
  refine ⟨a, c, h1, h2, h3, fun hn => ?_⟩
  obtain ⟨b, off, e, hc⟩ := h4 hn
  refine ⟨b, off, e, fun i hi j hj => (hc i hi j hj).trans ?_⟩
  show _ = some ((cellsT ((part9 l p).getD i noTok)).getD j undef)
  rw [part9_get hi]
  rcases (by omega : j = 0 ∨ j = 1 ∨ j = 2) with rfl | rfl | rfl <;> rfl
theorem spl_in (τ : Tau) : ∀ m, ∀ p ∈ (spl τ m).1, p.1 + p.2 ≤ m
  | 0 => fun p hp => by simp [spl] at hp
  | m + 1 => fun p hp => by
    cases h : bar τ m
    · rw [spl_no h] at hp; have := spl_in τ m p hp; omega
    · rw [spl_bar h] at hp
      have hp : p ∈ (spl τ m).1 ++ [((spl τ m).2, m - (spl τ m).2)] := hp
      rw [List.mem_append] at hp
      rcases hp with hp | hp
      · have := spl_in τ m p hp; omega
      · obtain rfl := List.mem_singleton.1 hp
        have := spl_le τ m
        show (spl τ m).2 + (m - (spl τ m).2) ≤ m + 1; omega
theorem parts_in {τ : Tau} {n : Nat} {p : Nat × Nat} (hp : p ∈ partsT τ n) : p.1 + p.2 ≤ n := by
  unfold partsT at hp
  rw [List.mem_append] at hp
  rcases hp with hp | hp
  · exact spl_in τ n p hp
  · obtain rfl := List.mem_singleton.1 hp
    have := spl_le τ n
    show (spl τ n).2 + (n - (spl τ n).2) ≤ n; omega
theorem parts_len (τ : Tau) (n : Nat) : (partsT τ n).length ≤ n + 1 := by
  unfold partsT; rw [List.length_append]; have := spl_len τ n; simp; omega
def partsOf (l : List Tok) : List (Nat × Nat) := if l.length = 0 then [] else partsT (tauL l) l.length
theorem partsOf_in {l : List Tok} {p : Nat × Nat} (hp : p ∈ partsOf l) : p.1 + p.2 ≤ l.length := by
  unfold partsOf at hp
  split at hp
  · simp at hp
  · exact parts_in hp
theorem partsOf_len (l : List Tok) : (partsOf l).length ≤ l.length + 1 := by
  unfold partsOf
  split
  · simp
  · exact parts_len _ _
theorem Short.part {L : Nat} {l : List Tok} (h : Short L l) {p : Nat × Nat} (hp : p.1 + p.2 ≤ l.length) : Short L (part9 l p) := by
  refine ⟨by rw [part9_len hp]; have := h.1; omega, fun i hi => ?_⟩
  rw [part9_len hp] at hi
  rw [part9_tx hi]
  exact h.2 (p.1 + i) (by omega)
/-- A part that is a row. -/
def Fine (l : List Tok) (p : Nat × Nat) : Prop := ∀ x, x < p.2 → cerr (tx l (p.1 + x)) = 0
def RowRes (s : ByteArray) (L B : Nat) (e : Ending) (w' : World) : Prop := match scan s 0 [] with
  | .form i => e = .returned (.tuple #[.slice none 0 0, .int .i64 (i : Int), .int .i64 4])
  | .limit i => e = .returned (.tuple #[.slice none 0 0, .int .i64 (i : Int), .int .i64 16])
  | .ok ws => WordsRes (toks s 0 0 ws) L B e w'
/-- Rows of words: the first fault, or all of them. -/
def PartsRes (l : List Tok) (L B : Nat) (e : Ending) (w' : World) : Prop :=
  (∃ (i : Nat) (p : Nat × Nat) (x : Nat), (partsOf l)[i]? = some p ∧ (∀ (j : Nat) (q : Nat × Nat), j < i → (partsOf l)[j]? = some q → Fine l q) ∧ x < p.2 ∧ (∀ y, y < x → cerr (tx l (p.1 + y)) = 0) ∧ cerr (tx l (p.1 + x)) ≠ 0 ∧ e = .returned (.tuple #[.slice none 0 0, .int .i64 ((l.getD (p.1 + x) noTok).1 : Int), .int .i64 (cerr (tx l (p.1 + x)))])) ∨
  ((∀ (j : Nat) (q : Nat × Nat), (partsOf l)[j]? = some q → Fine l q) ∧ ∃ r, e = .returned (.tuple #[r, .int .i64 0, .int .i64 0]) ∧ AOwn B w' r (partsOf l).length (fun i => ((partsOf l).getD i (0, 0)).2) (fun i k => cval (tx l (((partsOf l).getD i (0, 0)).1 + k))) L)
def RowsRes (s : ByteArray) (L B : Nat) (e : Ending) (w' : World) : Prop := match scan s 0 [] with
  | .form i => e = .returned (.tuple #[.slice none 0 0, .int .i64 (i : Int), .int .i64 4])
  | .limit i => e = .returned (.tuple #[.slice none 0 0, .int .i64 (i : Int), .int .i64 16])
  | .ok ws => PartsRes (toks s 0 0 ws) L B e w'
/-- All words of a line are short. -/
def ShortS (L : Nat) (s : ByteArray) : Prop := s.size ≤ 2000000 ∧ ∀ ws, scan s 0 [] = .ok ws → Short L (toks s 0 0 ws)

theorem WordsRes.le {l : List Tok} {L B B' : Nat} {e : Ending} {w' : World} (h : WordsRes l L B e w') (hb : B' ≤ B) : WordsRes l L B' e w' := by
  rcases h with h | ⟨h1, r, h2, h3⟩
  · exact .inl h
  · exact .inr ⟨h1, r, h2, h3.le hb⟩

set_option maxRecDepth 20000 in
set_option maxHeartbeats 2000000 in
theorem rrow_at (s : ByteArray) (L : Nat) (w : World) (hS : ShortS L s) (ht : Tab w) :
    Calls Tryz.prog 15 #[.string s] w fun e w' => RowRes s L w.heap.size e w' ∧ Below w.heap.size w w' := by
  have hc := Words_at s w hS.1
  have HS : Hid (ShortS L s) := hS
  clear hS
  go_enter Tryz.func15, Tryz.ntmps15
  cases hE : scan s 0 [] with
  | ok ws =>
    rw [hE] at hc
    go_wp2_with fail
    refine hc.mono ?_
    rintro e w1 ⟨⟨v, rfl, ho⟩, hb⟩
    clear hc
    have hT := ho.tk
    have hsh := HS.out.2 ws hE
    have HE : Hid (scan s 0 [] = .ok ws) := hE
    clear hE ho
    go_wp2_with fail
    refine (rwords_at v (toks s 0 0 ws) L w1 hT hsh (ht.below hb)).mono ?_
    rintro e w2 ⟨hr, b2⟩
    have BB := hb.trans (b2.mono hb.size)
    have HR : Hid (WordsRes (toks s 0 0 ws) L w.heap.size e w2) := hr.le hb.size
    clear b2 hb hT hsh hr
    have HOUT : Hid (∀ e9, WordsRes (toks s 0 0 ws) L w.heap.size e9 w2 → RowRes s L w.heap.size e9 w2) := fun e9 h9 => by unfold RowRes; rw [HE.out]; exact h9
    have h9 := HR.out
    rcases h9 with ⟨i, hi, h1, h2, rfl⟩ | ⟨h1, r, rfl, h3⟩
    · clear h1 h2 hi
      generalize ((toks s 0 0 ws).getD i noTok).1 = pl at HR ⊢
      generalize cerr (tx (toks s 0 0 ws) i) = ce at HR ⊢
      go_wp2
      go_ret3
      exact ⟨HOUT.out _ HR.out, BB⟩
    · clear h3 h1
      go_wp2
      go_ret3
      exact ⟨HOUT.out _ HR.out, BB⟩
  | form i =>
    rw [hE] at hc
    go_wp2_with fail
    refine hc.mono ?_
    rintro e w1 ⟨he, hb⟩
    have he := form_out he
    subst he
    have HE : Hid (scan s 0 [] = .form i) := hE
    clear hc hE
    go_wp2
    go_ret3
    exact ⟨by unfold RowRes; rw [HE.out]; rfl, hb⟩
  | limit i =>
    rw [hE] at hc
    go_wp2_with fail
    refine hc.mono ?_
    rintro e w1 ⟨he, hb⟩
    have he := limit_out he
    subst he
    have HE : Hid (scan s 0 [] = .limit i) := hE
    clear hc hE
    go_wp2
    go_ret3
    exact ⟨by unfold RowRes; rw [HE.out]; rfl, hb⟩

set_option maxRecDepth 100000 in
set_option maxHeartbeats 4000000 in
theorem rrows_at (s : ByteArray) (L : Nat) (w : World) (hS : ShortS L s) (ht : Tab w) :
    Calls Tryz.prog 16 #[.string s] w fun e w' => RowsRes s L w.heap.size e w' ∧ Below w.heap.size w w' := by
  have hc := Words_at s w hS.1
  have HS : Hid (ShortS L s) := hS
  clear hS
  go_enter Tryz.func16, Tryz.ntmps16
  cases hE : scan s 0 [] with
  | form i =>
    rw [hE] at hc
    go_wp2_with fail
    refine hc.mono ?_
    rintro e w1 ⟨he, hb⟩
    have he := form_out he
    subst he
    have HE : Hid (scan s 0 [] = .form i) := hE
    clear hc hE
    go_wp2
    go_ret3
    exact ⟨by unfold RowsRes; rw [HE.out]; rfl, hb⟩
  | limit i =>
    rw [hE] at hc
    go_wp2_with fail
    refine hc.mono ?_
    rintro e w1 ⟨he, hb⟩
    have he := limit_out he
    subst he
    have HE : Hid (scan s 0 [] = .limit i) := hE
    clear hc hE
    go_wp2
    go_ret3
    exact ⟨by unfold RowsRes; rw [HE.out]; rfl, hb⟩
  | ok ws =>
    rw [hE] at hc
    go_wp2_with fail
    refine hc.mono ?_
    rintro e w1 ⟨⟨v, rfl, ho⟩, hb⟩
    clear hc
    have hT := ho.tk
    have hsh := HS.out.2 ws hE
    have HE : Hid (scan s 0 [] = .ok ws) := hE
    clear hE ho
    have HOUT : Hid (∀ e9 w9, PartsRes (toks s 0 0 ws) L w.heap.size e9 w9 → RowsRes s L w.heap.size e9 w9) := fun e9 w9 h9 => by unfold RowsRes; rw [HE.out]; exact h9
    clear HE HS
    generalize toks s 0 0 ws = l at *
    go_wp2_with fail
    refine (split_at v l.length (tauL l) w1 hT.tel hsh.1).mono ?_
    rintro e w2 ⟨hr, b2⟩
    have BB := hb.trans (b2.mono hb.size)
    have ht2 := ht.below BB
    have HSH : Hid (Short L l) := hsh
    clear b2 hT ht
    obtain ⟨r, P, hP, rfl, PO⟩ : ∃ r P, P = partsOf l ∧ e = .returned r ∧ POwn w1.heap.size w2 r P (tauL l) := by
      rcases hr with ⟨h0, rfl⟩ | ⟨h0, r, rfl, hp⟩
      · exact ⟨_, [], by unfold partsOf; rw [if_pos h0], rfl, ⟨[], World.ownsRow_nil _ _ _ _, fun i p hp => by simp at hp⟩⟩
      · exact ⟨r, _, by unfold partsOf; rw [if_neg (by omega)], rfl, hp⟩
    have HP : Hid (P = partsOf l) := hP
    have hPl : P.length ≤ 100001 := by rw [hP]; have := partsOf_len l; have := hsh.1; omega
    clear hr hP hsh hb
    obtain ⟨us, hru, hpu⟩ := PO
    have HPU : Hid (∀ (i : Nat) (p : Nat × Nat), P[i]? = some p → ∃ u, us[i]? = some u ∧ SOwn w1.heap.size w2 u p.2 (fun x => tauL l (p.1 + x))) := hpu
    obtain ⟨ao, co, rfl⟩ : ∃ a c, r = .slice a P.length c := by
      rcases hru.2 with ⟨rfl, h0⟩ | ⟨g, c, _, rfl, _⟩
      · exact ⟨none, 0, by rw [h0]⟩
      · exact ⟨_, c, rfl⟩
    have hru0 : Hid (w2.ownsRow w1.heap.size 45 1 (.slice ao P.length co) P.length us) := hru
    clear hpu hru
    obtain ⟨K, hK⟩ : ∃ K, P.length = K := ⟨_, rfl⟩
    have HK : Hid (P.length = K) := hK
    rw [hK] at hPl hru0
    rw [hK]
    clear hK
    go_wp2
    go_loopw [8, 27] (fun vo vi wr => ∃ i : Nat, i ≤ K ∧ vi = .int .i64 (i : Int) ∧ Hid (∀ (j : Nat) (q : Nat × Nat), j < i → P[j]? = some q → Fine l q) ∧ AOwn w2.heap.size wr vo i (fun i => (P.getD i (0, 0)).2) (fun i k => cval (tx l ((P.getD i (0, 0)).1 + k))) L ∧ Below w2.heap.size w2 wr) (fun _ vi _ => K - (intOf vi).toNat)
    case atStart => exact ⟨0, by omega, rfl, fun j q hj => by omega, AOwn.nil _ _ _ _ _, Below.refl _ _⟩
    case round =>
      obtain ⟨i, hi, rfl, HJ, AO, BR⟩ := hrel
      obtain ⟨av, cv, rfl⟩ := AO.form
      by_cases hlt : i < K
      · have g1 : (i : Int) < (K : Int) := by omega
        have g0 : (0 : Int) ≤ (i : Int) := by omega
        have hlt2 : i < P.length := by rw [HK.out]; exact hlt
        obtain ⟨p, hp⟩ : ∃ p, P[i]? = some p := ⟨_, List.getElem?_eq_getElem hlt2⟩
        have hpg : P.getD i (0, 0) = p := by rw [List.getD_eq_getElem?_getD, hp]; rfl
        have HPG : Hid (P.getD i (0, 0) = p ∧ P[i]? = some p) := ⟨hpg, hp⟩
        obtain ⟨u, hu, so⟩ := HPU.out i p hp
        have hpin : p.1 + p.2 ≤ l.length := partsOf_in (by rw [← HP.out]; exact List.mem_of_getElem? hp)
        have hTp := (so.below BR).tk9 hpin
        have hSp := HSH.out.part hpin
        have hrr := owns_later hru0.out BR
        obtain ⟨gP, cP, hvP⟩ : ∃ g c, (Value.slice ao K co) = .slice (some ⟨g, 0, none⟩) K c := by
          rcases hrr.2 with ⟨_, h0⟩ | ⟨g, c, _, h9, _⟩
          · omega
          · exact ⟨g, c, h9⟩
        cases hvP
        have hcap := (owns_cap hrr).1
        have XU : wr.cell? ⟨gP, i, none⟩ = some u := owns_cell hrr hu
        obtain ⟨au, cu, rfl⟩ := so.form
        clear hpg hp so hu hrr
        go_wp2_with fail
        clear XU
        refine (rwords_at _ (part9 l p) L wr hTp hSp ((ht2.below BR))).mono ?_
        rintro e w3 ⟨hr, b3⟩
        replace AO := AO.below b3
        have hszr := BR.size
        replace BR := BR.trans (b3.mono BR.size)
        clear b3 hTp hSp
        rcases hr with ⟨x, hx, h1, h2, rfl⟩ | ⟨h1, r, rfl, h3⟩
        · rw [part9_len hpin] at hx
          have HX : Hid (x < p.2 ∧ (∀ y, y < x → cerr (tx l (p.1 + y)) = 0) ∧ cerr (tx l (p.1 + x)) ≠ 0) := ⟨hx, fun y hy => by rw [← part9_tx (l := l) (p := p) (by omega)]; exact h1 y hy, by rw [← part9_tx hx]; exact h2⟩
          have hce : (cerr (tx (part9 l p) x) != 0) = true := by simp [h2]
          have HV : Hid (cerr (tx (part9 l p) x) = cerr (tx l (p.1 + x)) ∧ (((part9 l p).getD x noTok).1 = (l.getD (p.1 + x) noTok).1)) := ⟨by rw [part9_tx hx], by rw [part9_get hx]⟩
          clear h1 h2 hx AO
          generalize cerr (tx (part9 l p) x) = ce at *
          generalize ((part9 l p).getD x noTok).1 = pl at *
          go_wp2
          go_ret3
          refine ⟨HOUT.out _ _ (.inl ⟨i, p, x, by rw [← HP.out]; exact HPG.out.2, fun j q hj hq => HJ.out j q hj (by rw [HP.out]; exact hq), HX.out.1, HX.out.2.1, HX.out.2.2, by rw [← HV.out.1, ← HV.out.2]; rfl⟩), BB.trans (BR.mono BB.size)⟩
        · have HF : Hid (Fine l p) := fun x hx => by rw [← part9_tx hx]; exact h1 x (by rw [part9_len hpin]; exact hx)
          have CO : COwn w2.heap.size w3 r p.2 (fun k => cval (tx l (p.1 + k))) L := by
            rw [part9_len hpin] at h3
            exact (h3.congr (fun k hk => by rw [part9_tx hk])).le hszr
          obtain ⟨ar, cr, rfl⟩ := CO.form
          have hAl : Below w3.heap.size w3 (w3.alloc (.cells #[.slice ar p.2 cr] 39)) := (Below.refl _ _).alloc (Nat.le_refl _) _
          have AO2 := AO.below hAl
          have CO2 := CO.below hAl
          have BR2 := BR.trans (hAl.mono BR.size)
          obtain ⟨us2, huo, hup⟩ := AO2.parts
          have hbk := AO2.blocks
          have hsz2 := BR2.size
          clear h1 h3 AO CO hAl
          go_wp2_with (first
            | (at_builtin
               refine wpList_append_pure (Q' := IsLimb) rfl _ _ _ rfl w2.heap.size 39 (.slice none 0 0) 1 24 Tryz.underlying42 info_cells rfl (by omega) (.slice av i cv) rfl i us2 huo hup ⟨w3.heap.size, 0, none⟩ 1 rfl [.slice ar p.2 cr] rfl ?g14 ?g15 ?g16 ?g17 (by omega) (by omega) hsz2 ?_
               case g14 => exact news_block (heap_alloc_new _ _)
               case g15 => simp [Value.oneCell']
               case g16 => simp [limb_slice]
               case g17 => simp [Value.cells, limb_slice]
               intro gN cN w5 ho5 hg5 _ hp5 hk5
               have AO5 : AOwn w2.heap.size w5 (.slice (some ⟨gN, 0, none⟩) (i + 1) cN) (i + 1) (fun i => (P.getD i (0, 0)).2) (fun i k => cval (tx l ((P.getD i (0, 0)).1 + k))) L := AO2.more1 huo (by rw [HPG.out.1]; exact CO2) ho5 hg5 (fun g hg => by cases hg; exact hp5) hk5
               have BR5 : Below w2.heap.size w2 w5 := below_grownB BR2 hg5 hsz2 (fun g hg => (hbk g hg).1)
               clear ho5 hg5 hp5 hk5 huo hup hbk AO2 CO2 BR2))
          go_roundw
          case rel => exact ⟨i + 1, by omega, by go_num, fun j q hj hq => by
            by_cases e : j = i
            · subst e
              have h9 := HPG.out.2
              rw [h9] at hq
              cases hq
              exact HF.out
            · exact HJ.out j q (by omega) hq, AO5, BR5⟩
          case measure => simp [intOf]; omega
      · obtain rfl : i = K := by omega
        have g1 : ¬ (i : Int) < (i : Int) := by omega
        have hszb := BB.size
        go_wp2
        go_ret3
        exact ⟨HOUT.out _ _ (.inr ⟨fun j q hq => HJ.out j q (by rw [← HK.out, HP.out]; exact (List.getElem?_eq_some_iff.1 hq).1) (by rw [HP.out]; exact hq), _, rfl, by rw [← HP.out, HK.out]; exact AO.le hszb⟩), BB.trans (BR.mono BB.size)⟩

def ex1 : ByteArray := { data := #[49, 47, 50, 32, 63, 32, 45, 51] }
def ex2 : ByteArray := { data := #[49, 32, 124, 32, 50] }
theorem ex1_a : wEnd ex1 0 = 3 := wEnd_eq ex1 0 3 (by decide) (fun j a b => by rcases (by omega : j = 0 ∨ j = 1 ∨ j = 2) with rfl | rfl | rfl <;> exact ⟨by decide, by decide⟩) (by decide)
theorem ex1_b : wEnd ex1 4 = 5 := wEnd_eq ex1 4 5 (by decide) (fun j a b => by rcases (by omega : j = 4 ∨ j = 4) with rfl | rfl <;> exact ⟨by decide, by decide⟩) (by decide)
theorem ex1_c : wEnd ex1 6 = 8 := wEnd_eq ex1 6 8 (by decide) (fun j a b => by rcases (by omega : j = 6 ∨ j = 7) with rfl | rfl <;> exact ⟨by decide, by decide⟩) (by decide)
theorem ex1_scan : scan ex1 0 [] = .ok [(0, 3), (4, 5), (6, 8)] := by
  rw [scan_word (by decide) (by decide) (by decide), ex1_a, scan_blank (by decide) (by decide), scan_word (by decide) (by decide) (by decide)]
  show scan ex1 (wEnd ex1 4) ([(0, 3)] ++ [(4, wEnd ex1 4)]) = _
  rw [ex1_b, scan_blank (by decide) (by decide), scan_word (by decide) (by decide) (by decide)]
  show scan ex1 (wEnd ex1 6) ([(0, 3), (4, 5)] ++ [(6, wEnd ex1 6)]) = _
  rw [ex1_c, scan_end (by decide)]
  rfl
theorem ex2_a : wEnd ex2 0 = 1 := wEnd_eq ex2 0 1 (by decide) (fun j a b => by rcases (by omega : j = 0 ∨ j = 0) with rfl | rfl <;> exact ⟨by decide, by decide⟩) (by decide)
theorem ex2_b : wEnd ex2 2 = 3 := wEnd_eq ex2 2 3 (by decide) (fun j a b => by rcases (by omega : j = 2 ∨ j = 2) with rfl | rfl <;> exact ⟨by decide, by decide⟩) (by decide)
theorem ex2_c : wEnd ex2 4 = 5 := wEnd_eq ex2 4 5 (by decide) (fun j a b => by rcases (by omega : j = 4 ∨ j = 4) with rfl | rfl <;> exact ⟨by decide, by decide⟩) (by decide)
theorem ex2_scan : scan ex2 0 [] = .ok [(0, 1), (2, 3), (4, 5)] := by
  rw [scan_word (by decide) (by decide) (by decide), ex2_a, scan_blank (by decide) (by decide), scan_word (by decide) (by decide) (by decide)]
  show scan ex2 (wEnd ex2 2) ([(0, 1)] ++ [(2, wEnd ex2 2)]) = _
  rw [ex2_b, scan_blank (by decide) (by decide), scan_word (by decide) (by decide) (by decide)]
  show scan ex2 (wEnd ex2 4) ([(0, 1), (2, 3)] ++ [(4, wEnd ex2 4)]) = _
  rw [ex2_c, scan_end (by decide)]
  rfl
def ex1_l : List Tok := [(0, 0, { data := #[49, 47, 50] }), (4, 0, { data := #[63] }), (6, 0, { data := #[45, 51] })]
def ex2_l : List Tok := [(0, 0, { data := #[49] }), (2, 0, { data := #[124] }), (4, 0, { data := #[50] })]
theorem ex1_toks : toks ex1 0 0 [(0, 3), (4, 5), (6, 8)] = ex1_l := by decide +kernel
theorem ex2_toks : toks ex2 0 0 [(0, 1), (2, 3), (4, 5)] = ex2_l := by decide +kernel
theorem ex1_err : ∀ i, i < 3 → cerr (tx ex1_l i) = 0 := by decide +kernel
theorem ex2_parts : partsOf ex2_l = [(0, 1), (2, 1)] := by decide +kernel
theorem ex2_err : cerr (tx ex2_l 0) = 0 ∧ cerr (tx ex2_l 2) = 0 := by decide +kernel
theorem qsz_ex (s : ByteArray) (hs : s.size ≤ 9000) : qsz (qval s) ≤ 20000 := by
  have h := pp_nl (pdig s) (by have := pdig_size s; omega)
  unfold qval
  exact nl_num_mkRat _ _ 20000 (by rw [zof_abs]; exact h.1) h.2 (by omega)
theorem ex1_short : ShortS 20000 ex1 := ⟨by decide, fun ws h => by
  rw [ex1_scan] at h
  cases h
  rw [ex1_toks]
  refine ⟨by decide, fun i hi => ?_⟩
  have : (tx ex1_l i).size ≤ 9000 := by
    rcases (by simp [ex1_l] at hi; omega : i = 0 ∨ i = 1 ∨ i = 2) with rfl | rfl | rfl <;> decide +kernel
  exact ⟨this, qsz_ex _ this⟩⟩
theorem ex2_short : ShortS 20000 ex2 := ⟨by decide, fun ws h => by
  rw [ex2_scan] at h
  cases h
  rw [ex2_toks]
  refine ⟨by decide, fun i hi => ?_⟩
  have : (tx ex2_l i).size ≤ 9000 := by
    rcases (by simp [ex2_l] at hi; omega : i = 0 ∨ i = 1 ∨ i = 2) with rfl | rfl | rfl <;> decide +kernel
  exact ⟨this, qsz_ex _ this⟩⟩

set_option maxRecDepth 100000 in
set_option maxHeartbeats 2000000 in
theorem awake9_at (w : World) (ht : Tab w) :
    Calls Tryz.prog 14 #[] w fun e w' => e = .returned (.bool true) ∧ Below w.heap.size w w' := by
  have c1 := rrow_at ex1 20000 w ex1_short ht
  unfold ex1 at c1
  go_enter Tryz.func14, Tryz.ntmps14
  go_wp2_with fail
  refine c1.mono ?_
  rintro e w1 ⟨hr, b1⟩
  clear c1
  have hr : RowRes ex1 20000 w.heap.size e w1 := hr
  unfold RowRes at hr
  rw [ex1_scan] at hr
  have hr : WordsRes (toks ex1 0 0 [(0, 3), (4, 5), (6, 8)]) 20000 w.heap.size e w1 := hr
  rw [ex1_toks] at hr
  rcases hr with ⟨i, hi, _, h2, _⟩ | ⟨_, r, rfl, CO⟩
  · exact absurd (ex1_err i hi) h2
  have ht1 := ht.below b1
  have CR := CO.row
  obtain ⟨b, off, c, p1, a1, n1, c1_, b1_, m1, d1, hvv, hcc, hc63, X0, _⟩ := CR.at (i := 1) (by decide)
  have hm : (cval (tx ex1_l 1)).miss = true := by decide +kernel
  rw [hm] at X0
  have h3 : ex1_l.length = 3 := rfl
  rw [h3] at hvv hcc
  subst hvv
  clear CO CR hm h3
  have c2 := rrows_at ex2 20000 w1 ex2_short ht1
  unfold ex2 at c2
  go_wp2_with fail
  refine c2.mono ?_
  rintro e w2 ⟨hr, b2⟩
  clear c2
  have hr : RowsRes ex2 20000 w1.heap.size e w2 := hr
  unfold RowsRes at hr
  rw [ex2_scan] at hr
  have hr : PartsRes (toks ex2 0 0 [(0, 1), (2, 3), (4, 5)]) 20000 w1.heap.size e w2 := hr
  rw [ex2_toks] at hr
  unfold PartsRes at hr
  rw [ex2_parts] at hr
  rcases hr with ⟨i, p, x, hp, _, hx, _, h2, _⟩ | ⟨_, r, rfl, AO⟩
  · exfalso
    have hi := (List.getElem?_eq_some_iff.1 hp).1
    rcases (by simp at hi; omega : i = 0 ∨ i = 1) with rfl | rfl
    · simp at hp
      subst hp
      obtain rfl : x = 0 := by omega
      exact h2 ex2_err.1
    · simp at hp
      subst hp
      obtain rfl : x = 0 := by omega
      exact h2 ex2_err.2
  have AR := AO.row
  obtain ⟨bb, oo, cc, aa, dd, hvv, hcc2, XA, _⟩ := AR.at (i := 1) (by decide)
  have XA : w2.cell? ⟨bb, oo + 1, none⟩ = some (.slice aa 1 dd) := XA
  have hvv : r = .slice (some ⟨bb, oo, none⟩) 2 cc := hvv
  subst hvv
  have X0b : w2.cell? ⟨b, off + 4, none⟩ = some (.bool true) := (b2.cell (World.block_lt_of_cell? _ _ X0)).trans X0
  have BB := b1.trans (b2.mono b1.size)
  clear AO AR X0 b1 b2
  go_wp2
  go_ret
  exact ⟨rfl, BB⟩

/-- The first word that is no entry. -/
def badW (l : List Tok) : Option Nat := fb (fun i => decide (¬ cerr (tx l i) = 0)) l.length
def wp (l : List Tok) : Int := match badW l with | none => 0 | some i => ((l.getD i noTok).1 : Int)
def we (l : List Tok) : Int := match badW l with | none => 0 | some i => cerr (tx l i)
def wk (l : List Tok) : Nat := match badW l with | none => l.length | some _ => 0
theorem badW_some {l : List Tok} {i : Nat} (hi : i < l.length) (h : ∀ j, j < i → cerr (tx l j) = 0) (hb : ¬ cerr (tx l i) = 0) : badW l = some i :=
  fb_some hi (fun j hj => by simp [h j hj]) (by simp [hb])
theorem badW_none {l : List Tok} (h : ∀ j, j < l.length → cerr (tx l j) = 0) : badW l = none := fb_none (fun j hj => by simp [h j hj])
theorem badW_fine {l : List Tok} (h : badW l = none) : ∀ j, j < l.length → cerr (tx l j) = 0 := fun j hj => by simpa using fb_is h j hj
theorem we_zero {l : List Tok} (h : we l = 0) : badW l = none := by
  unfold we at h
  cases e : badW l with
  | none => rfl
  | some i =>
    rw [e] at h
    have hp : decide (¬ cerr (tx l i) = 0) = true := by
      unfold badW fb at e
      exact List.find?_some (p := fun i => decide (¬ cerr (tx l i) = 0)) e
    simp at hp
    exact absurd h hp
theorem we_none {l : List Tok} (h : badW l = none) : we l = 0 ∧ wp l = 0 ∧ wk l = l.length := by
  unfold we wp wk; rw [h]; exact ⟨rfl, rfl, rfl⟩
theorem words_is {l : List Tok} {L B : Nat} {e : Ending} {w' : World} (h : WordsRes l L B e w') : ∃ a c, e = .returned (.tuple #[.slice a (wk l) c, .int .i64 (wp l), .int .i64 (we l)]) ∧ COwn B w' (.slice a (wk l) c) (wk l) (fun i => cval (tx l i)) L := by
  rcases h with ⟨i, hi, h1, h2, h3⟩ | ⟨h1, r, h3, h4⟩
  · have hb := badW_some hi h1 h2
    refine ⟨none, 0, ?_, ?_⟩
    · rw [h3]; unfold wk wp we; rw [hb]
    · unfold wk; rw [hb]; exact COwn.nil _ _ _ _
  · have hb := badW_none h1
    obtain ⟨a, c, e9⟩ := h4.form
    subst e9
    refine ⟨a, c, ?_, ?_⟩
    · rw [h3]; unfold wk wp we; rw [hb]
    · unfold wk; rw [hb]; exact h4
/-- The first part that is no row. -/
def badP (l : List Tok) : Option Nat := fb (fun i => (badW (part9 l ((partsOf l).getD i (0, 0)))).isSome) (partsOf l).length
def pAt (l : List Tok) (i : Nat) : Nat × Nat := (partsOf l).getD i (0, 0)
def rp (l : List Tok) : Int := match badP l with | none => 0 | some i => wp (part9 l (pAt l i))
def re9 (l : List Tok) : Int := match badP l with | none => 0 | some i => we (part9 l (pAt l i))
def rk (l : List Tok) : Nat := match badP l with | none => (partsOf l).length | some _ => 0
theorem badP_some {l : List Tok} {i : Nat} (hi : i < (partsOf l).length) (h : ∀ j, j < i → badW (part9 l (pAt l j)) = none) (hb : ¬ badW (part9 l (pAt l i)) = none) : badP l = some i :=
  fb_some hi (fun j hj => by have := h j hj; unfold pAt at this; rw [this]; rfl) (by
    unfold pAt at hb
    cases e : badW (part9 l ((partsOf l).getD i (0, 0))) with
    | none => exact absurd e hb
    | some x => rfl)
theorem badP_none {l : List Tok} (h : ∀ j, j < (partsOf l).length → badW (part9 l (pAt l j)) = none) : badP l = none := fb_none (fun j hj => by have := h j hj; unfold pAt at this; rw [this]; rfl)
theorem pAt_get {l : List Tok} {i : Nat} {p : Nat × Nat} (h : (partsOf l)[i]? = some p) : pAt l i = p := by unfold pAt; rw [List.getD_eq_getElem?_getD, h]; rfl
theorem pAt_in {l : List Tok} {i : Nat} (h : i < (partsOf l).length) : (partsOf l)[i]? = some (pAt l i) := by unfold pAt; rw [List.getD_eq_getElem?_getD, List.getElem?_eq_getElem h]; rfl
theorem fine_bad {l : List Tok} {p : Nat × Nat} (hp : p.1 + p.2 ≤ l.length) (h : Fine l p) : badW (part9 l p) = none := badW_none (fun j hj => by
  rw [part9_len hp] at hj
  rw [part9_tx hj]
  exact h j hj)
theorem parts_is {l : List Tok} {L B : Nat} {e : Ending} {w' : World} (h : PartsRes l L B e w') : ∃ a c, e = .returned (.tuple #[.slice a (rk l) c, .int .i64 (rp l), .int .i64 (re9 l)]) ∧ AOwn B w' (.slice a (rk l) c) (rk l) (fun i => (pAt l i).2) (fun i k => cval (tx l ((pAt l i).1 + k))) L := by
  rcases h with ⟨i, p, x, hp, h1, hx, h2, h3, h4⟩ | ⟨h1, r, h3, h4⟩
  · have hpin := partsOf_in (List.mem_of_getElem? hp)
    have hi := (List.getElem?_eq_some_iff.1 hp).1
    have hbx : badW (part9 l p) = some x := badW_some (by rw [part9_len hpin]; exact hx) (fun j hj => by rw [part9_tx (by omega)]; exact h2 j hj) (by rw [part9_tx hx]; exact h3)
    have hb : badP l = some i := badP_some hi (fun j hj => fine_bad (partsOf_in (List.mem_of_getElem? (pAt_in (by omega)))) (h1 j _ hj (pAt_in (by omega)))) (by rw [pAt_get hp, hbx]; simp)
    refine ⟨none, 0, ?_, ?_⟩
    · rw [h4]; unfold rk rp re9 wp we; rw [hb]
      simp only [pAt_get hp, hbx]
      rw [part9_tx hx, part9_get hx]
    · unfold rk; rw [hb]; exact AOwn.nil _ _ _ _ _
  · have hb : badP l = none := badP_none (fun j hj => fine_bad (partsOf_in (List.mem_of_getElem? (pAt_in hj))) (h1 j _ (pAt_in hj)))
    obtain ⟨a, c, e9⟩ := h4.form
    subst e9
    refine ⟨a, c, ?_, ?_⟩
    · rw [h3]; unfold rk rp re9; rw [hb]
    · unfold rk; rw [hb]; exact h4
theorem rp_bad {l : List Tok} {i : Nat} (hi : i < (partsOf l).length) (h : ∀ j, j < i → badW (part9 l (pAt l j)) = none) (hb : ¬ we (part9 l (pAt l i)) = 0) : rk l = 0 ∧ rp l = wp (part9 l (pAt l i)) ∧ re9 l = we (part9 l (pAt l i)) := by
  have h1 := badP_some hi h (fun e => hb (we_none e).1)
  unfold rk rp re9; rw [h1]; exact ⟨rfl, rfl, rfl⟩
theorem rp_fine {l : List Tok} (h : ∀ j, j < (partsOf l).length → badW (part9 l (pAt l j)) = none) : rk l = (partsOf l).length ∧ rp l = 0 ∧ re9 l = 0 := by
  have h1 := badP_none h
  unfold rk rp re9; rw [h1]; exact ⟨rfl, rfl, rfl⟩
/-- What is done stays. -/
theorem spl_pre (τ : Tau) (i : Nat) : ∀ k, (spl τ i).1 <+: (spl τ (i + k)).1
  | 0 => List.prefix_refl _
  | k + 1 => by
    refine (spl_pre τ i k).trans ?_
    show _ <+: (spl τ (i + k + 1)).1
    cases h : bar τ (i + k)
    · rw [spl_no h]; exact List.prefix_refl _
    · rw [spl_bar h]; exact List.prefix_append _ _
theorem pre_get {α : Type} {D P : List α} (h : D <+: P) {j : Nat} (hj : j < D.length) : P[j]? = D[j]? := by
  obtain ⟨t, rfl⟩ := h
  exact List.getElem?_append_left hj
theorem part_now (τ : Tau) {i n : Nat} (hi : i < n) (hb : bar τ i = true) : (partsT τ n)[(spl τ i).1.length]? = some ((spl τ i).2, i - (spl τ i).2) := by
  have h1 := spl_pre τ (i + 1) (n - (i + 1))
  rw [show i + 1 + (n - (i + 1)) = n by omega, spl_bar hb] at h1
  have h2 : (spl τ i).1 ++ [((spl τ i).2, i - (spl τ i).2)] <+: partsT τ n := h1.trans (List.prefix_append _ _)
  rw [pre_get h2 (by simp)]
  simp
theorem part_last (τ : Tau) (n : Nat) : (partsT τ n)[(spl τ n).1.length]? = some ((spl τ n).2, n - (spl τ n).2) ∧ (partsT τ n).length = (spl τ n).1.length + 1 := by
  unfold partsT; simp
theorem toks_tx {t : ByteArray} {ws : List (Nat × Nat)} (i : Nat) : (tx (toks t 0 0 ws) i).size ≤ t.size := by
  unfold tx toks
  rw [List.getD_eq_getElem?_getD, List.getElem?_map]
  cases ws[i]? with
  | none => show (ByteArray.empty).size ≤ _; simp
  | some p => show (t.extract p.1 p.2).size ≤ _; rw [ByteArray.size_extract]; omega
theorem shortS9 {t : ByteArray} (h : t.size ≤ 600) : ShortS 200 t := ⟨by omega, fun ws hw => ⟨by rw [toks_length]; have := scan_len t 0 [] ws (by simp) hw; omega, fun i hi => by
  have := toks_tx (t := t) (ws := ws) i
  exact ⟨by omega, short9 _ (by omega)⟩⟩⟩
/-- Rows, beside a row of words that grows. -/
theorem AOwn.beside {B B' n' : Nat} {w w' : World} {v v' : Value} {k : Nat} {N : Nat → Nat} {T : Nat → Nat → Cl} {L : Nat} {us' : List Value} (h : AOwn B w v k N T L) (ho : w.ownsRow B' 51 3 v' n' us') (hg : w.grownBy w' v'.ownBlock) (hk : KeepQ IsLimb w w') : AOwn B w' v k N T L := by
  obtain ⟨us, h1, h2, h3⟩ := h
  have hne := unlike h1 ho (by decide)
  refine ⟨us, h1.kept hg hne, fun g hgg o u hu => h2 g hgg o u ?_, fun i hi => ?_⟩
  · have hlt := (World.ownsRow.lt h1 g hgg).2
    have hne2 : some g ≠ v'.ownBlock := fun e => by
      rcases hne with a | a
      · rw [hgg] at a; cases a
      · exact a (hgg.trans e)
    rw [← World.cell?_of_block (w := w) (hg.block g hlt hne2)]; exact hu
  · obtain ⟨u, a, b⟩ := h3 i hi
    obtain ⟨cs, c1, _⟩ := id b
    exact ⟨u, a, b.kept hg hk (unlike c1 ho (by decide))⟩

end Go.Proofs.YtianfjidbeineaaGreatDoor
