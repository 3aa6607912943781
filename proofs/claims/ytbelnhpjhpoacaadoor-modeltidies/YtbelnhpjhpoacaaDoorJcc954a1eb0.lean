/-
  Texts of mine.
-/
import Derived.Test.YtbelnhpjhpoacaaDoorJea6269ff18
import Derived.Test.YtbelnhpjhpoacaaDoorJ50ec9d663c
import Derived.Deep.LoopGhost
import Derived.Deep.Cut
import Derived.Test.YtbelnhpjhpoacaaDoorJ2ba676209e
import Derived.Test.YtbelnhpjhpoacaaDoorJ1f15bf5350
namespace Go.Proofs.YtbelnhpjhpoacaaDoor
open Go.RowKit
set_option linter.unusedVariables false
set_option linter.unusedSimpArgs false

/-- The whole parts of the simplest number from n / d to m / e. -/
def shortN : Nat → Nat → Nat → Nat → Nat → List Nat
  | 0, _, _, _, _ => []
  | k + 1, n, d, m, e => if n % d = 0 then [n / d] else if n / d < m / e then [n / d + 1] else n / d :: shortN k e (m % e) d (n % d)
/-- What is left of both. -/
theorem short_next (n d m e : Nat) (hd : 0 < d) (he : 0 < e) (h : n * e ≤ m * d) (h0 : n % d ≠ 0) (hl : ¬ n / d < m / e) : 0 < m % e ∧ e * (n % d) ≤ d * (m % e) := by
  have h1 := Nat.div_add_mod n d
  have h2 := Nat.div_add_mod m e
  have h3 := Nat.mod_lt n hd
  have h4 := Nat.mod_lt m he
  have key : e * (n % d) ≤ d * (m % e) := by
    generalize n / d = A at *
    generalize m / e = C at *
    generalize n % d = r at *
    generalize m % e = s at *
    subst h1 h2
    obtain ⟨k, rfl⟩ : ∃ k, A = C + k := ⟨A - C, by omega⟩
    have e1 : (d * (C + k) + r) * e = d * C * e + d * k * e + r * e := by grind
    have e2 : (e * C + s) * d = d * C * e + s * d := by grind
    rw [e1, e2] at h
    have e3 : r * e = e * r := Nat.mul_comm _ _
    have e4 : s * d = d * s := Nat.mul_comm _ _
    omega
  refine ⟨?_, key⟩
  have : 0 < e * (n % d) := Nat.mul_pos he (by omega)
  rcases Nat.eq_zero_or_pos (m % e) with g | g
  · rw [g] at key; omega
  · exact g
theorem nl_mod (x y L : Nat) (hy : 0 < y) (h : nl W32 y ≤ L) : nl W32 (x % y) ≤ L := Nat.le_trans (nl_mono W32 _ _ (by decide) (Nat.le_of_lt (Nat.mod_lt x hy))) h
theorem nl_quo (x y L : Nat) (h : nl W32 x ≤ L) : nl W32 (x / y) ≤ L := Nat.le_trans (nl_mono W32 _ _ (by decide) (Nat.div_le_self x y)) h
theorem getD_mid (acc rest : List Nat) (x : Nat) : (acc ++ x :: rest).getD acc.length 0 = x := by simp [List.getD]


theorem nl_next (A L : Nat) (h : nl W32 A ≤ L) : nl W32 ((A : Int) + 1).natAbs ≤ L + 1 := by
  rw [show ((A : Int) + 1).natAbs = A + 1 by omega]
  exact Nat.le_trans (nl_succ A) (by omega)
/-- As much fuel as there is. -/
theorem short_fuel : ∀ (k j n d m e : Nat), 0 < d → 0 < e → n * e ≤ d * m → d + e ≤ k → d + e ≤ j → shortN k n d m e = shortN j n d m e := by
  intro k
  induction k with
  | zero => intro j n d m e hd he h h1 h2; omega
  | succ k ih =>
    intro j n d m e hd he h h1 h2
    obtain ⟨j, rfl⟩ : ∃ i, j = i + 1 := ⟨j - 1, by omega⟩
    show (if n % d = 0 then [n / d] else if n / d < m / e then [n / d + 1] else n / d :: shortN k e (m % e) d (n % d)) = (if n % d = 0 then [n / d] else if n / d < m / e then [n / d + 1] else n / d :: shortN j e (m % e) d (n % d))
    by_cases a : n % d = 0
    · rw [if_pos a, if_pos a]
    · rw [if_neg a, if_neg a]
      by_cases b : n / d < m / e
      · rw [if_pos b, if_pos b]
      · rw [if_neg b, if_neg b]
        obtain ⟨s0, sn⟩ := short_next n d m e hd he (by rw [Nat.mul_comm m d]; exact h) a b
        have q1 := Nat.mod_lt n hd
        have q2 := Nat.mod_lt m he
        rw [ih j e (m % e) d (n % d) s0 (by omega) (by rw [Nat.mul_comm (m % e) d]; exact sn) (by omega) (by omega)]

/-- Two cells of a row. -/
def E2 (w : World) (b o : Nat) (x y : Value) : Prop := w.cell? ⟨b, o, none⟩ = some x ∧ w.cell? ⟨b, o + 1, none⟩ = some y
theorem E2.lt {w : World} {b o : Nat} {x y : Value} (h : E2 w b o x y) : b < w.heap.size := World.block_lt_of_cell? _ _ h.1
theorem E2.below {w w' : World} {b o : Nat} {x y : Value} (h : E2 w b o x y) (hb : Below w.heap.size w w') : E2 w' b o x y := ⟨(hb.cell h.lt).trans h.1, (hb.cell h.lt).trans h.2⟩
theorem E2.other {w : World} {R b o : Nat} {x y : Value} (h : E2 w b o x y) (hne : b ≠ R) (x' y' : Value) : E2 ((w.setCell ⟨R, 0, none⟩ x').setCell ⟨R, 1, none⟩ y') b o x y :=
  ⟨set_cell_block (set_cell_block h.1 hne) hne, set_cell_block (set_cell_block h.2 hne) hne⟩
theorem E2.other3 {w : World} {R b o : Nat} {x y : Value} (h : E2 w b o x y) (hne : b ≠ R) (x' y' z' : Value) : E2 (((w.setCell ⟨R, 0, none⟩ x').setCell ⟨R, 1, none⟩ y').setCell ⟨R, 2, none⟩ z') b o x y :=
  ⟨set_cell_block (set_cell_block (set_cell_block h.1 hne) hne) hne, set_cell_block (set_cell_block (set_cell_block h.2 hne) hne) hne⟩
/-- The i-th of a list of whole numbers. -/
theorem IRow.at {w : World} {v : Value} {n : Nat} {z : Nat → Int} {L : Nat} (h : IRow w v n z L) (i : Nat) (hi : i < n) :
    ∃ b off c p ao m d, v = .slice (some ⟨b, off, none⟩) n c ∧ n ≤ c ∧ E2 w b (off + i * 2) (.bool p) (.slice ao m d) ∧ IntAt w (.agg #[.bool p, .slice ao m d]) (z i) L := by
  obtain ⟨el, ⟨a, c, h1, h2, h3, h4⟩, h5⟩ := h
  obtain ⟨b, off, rfl, hc⟩ := h4 (by omega)
  have hz := h5 i hi
  obtain ⟨p, ao, m, d, he⟩ := hz.open
  have he' := he
  simp only [Value.agg.injEq, Array.mk.injEq, List.cons.injEq, and_true] at he'
  have c0 := hc i hi 0 (by omega)
  have c1 := hc i hi 1 (by omega)
  rw [he'.1] at c0
  rw [he'.2] at c1
  rw [he] at hz
  exact ⟨b, off, c, p, ao, m, d, h1, h2, ⟨c0, c1⟩, hz⟩
/-- The parts of the number whose whole parts are told, from the last on. -/
def unfN (Z : Nat → Int) (n : Nat) : Nat → Int × Int
  | 0 => (Z (n - 1), 1)
  | i + 1 => (Z (n - 2 - i) * (unfN Z n i).1 + (unfN Z n i).2, (unfN Z n i).1)
theorem unf_nl (Z : Nat → Int) (n M : Nat) (hZ : ∀ j, j < n → nl W32 (Z j).natAbs ≤ M) : ∀ i, i < n → nl W32 (unfN Z n i).1.natAbs ≤ (M + 1) * (i + 1) ∧ nl W32 (unfN Z n i).2.natAbs ≤ (M + 1) * (i + 1)
  | 0, h => ⟨Nat.le_trans (hZ (n - 1) (by omega)) (by omega), Nat.le_trans nlw_one (by omega)⟩
  | i + 1, h => by
    obtain ⟨h1, h2⟩ := unf_nl Z n M hZ i (by omega)
    have h3 := hZ (n - 2 - i) (by omega)
    have e : (M + 1) * (i + 1 + 1) = (M + 1) * (i + 1) + (M + 1) := Nat.mul_succ _ _
    refine ⟨?_, by show nl W32 (unfN Z n i).1.natAbs ≤ _; omega⟩
    show nl W32 (Z (n - 2 - i) * (unfN Z n i).1 + (unfN Z n i).2).natAbs ≤ _
    exact nlz_add (nlz_mul h3 h1 (Nat.le_refl _)) h2 (by omega) (by omega)


/-- What Unfold answers: the number, where no number on the way is 0, and else nothing. -/
def UnfOut (Z : Nat → Int) (n k : Nat) (w : World) (e : Ending) (w' : World) : Prop :=
  ∃ r er, e = .returned (.tuple #[r, .int .i64 er]) ∧ (k + 1 = n → er = 0 ∧ RepQ w' r (((unfN Z n k).1 : Rat) / ((unfN Z n k).2 : Rat))) ∧ (k + 1 < n → r = .agg #[.bool false, .slice none 0 0, .slice none 0 0] ∧ er = 2) ∧ Below w.heap.size w w'

theorem cmpQ_gt_zero {a : Rat} (h : 0 < a) : cmpQ a 0 = 1 := by
  unfold cmpQ; rw [if_neg (Rat.not_lt.2 (Rat.le_of_lt h)), if_pos h]
theorem cmpQ_not_gt {a b : Rat} (h : a ≤ b) : ¬ cmpQ a b > 0 := by
  unfold cmpQ; split
  · omega
  · rw [if_neg (Rat.not_lt.2 h)]; omega

def aw0 : ByteArray := { data := #[45, 49, 46, 53, 48] }
theorem aw_pneg : pneg aw0 = true := by decide +kernel
theorem aw_pdig : pdig aw0 = { data := #[49, 46, 53, 48] } := by decide +kernel
theorem aw_digits (s : ByteArray) (h0 : 0 < s.size) (h : s.data.toList.all (fun b => decide (48 ≤ b.toNat ∧ b.toNat ≤ 57)) = true) : digitsB s = true := by
  simp only [digitsB, decide_eq_true_eq]
  refine ⟨h0, fun i hi => ?_⟩
  have hl : i < s.data.toList.length := by simpa using hi
  have := List.all_eq_true.1 h (s.data.toList[i]) (List.getElem_mem hl)
  have e : s.data.toList.getD i 0 = s.data.toList[i] := by simp [List.getD, List.getElem?_eq_getElem hl]
  unfold isDig
  rw [e]
  simpa using this
theorem aw_nval1 : digitsB { data := #[49] } = true := aw_digits _ (by decide) (by decide)
theorem aw_nval50 : digitsB { data := #[53, 48] } = true := aw_digits _ (by decide) (by decide)
theorem aw_f47 : firstAt { data := #[49, 46, 53, 48] } 47 = -1 := by decide +kernel
theorem aw_f46 : firstAt { data := #[49, 46, 53, 48] } 46 = 1 := by decide +kernel
theorem aw_e1 : (({ data := #[49, 46, 53, 48] } : ByteArray).extract 0 1) = { data := #[49] } := by decide +kernel
theorem aw_e2 : (({ data := #[49, 46, 53, 48] } : ByteArray).extract 2 4) = { data := #[53, 48] } := by decide +kernel
theorem aw_pp : ppOf (pdig aw0) = (0, 150, 100) := by
  rw [aw_pdig]
  unfold ppOf
  rw [aw_f47, aw_f46, if_neg (by decide), if_pos (by decide)]
  show (twoErr (({ data := #[49, 46, 53, 48] } : ByteArray).extract 0 1) (({ data := #[49, 46, 53, 48] } : ByteArray).extract 2 4), nval (({ data := #[49, 46, 53, 48] } : ByteArray).extract 0 1) * 10 ^ (({ data := #[49, 46, 53, 48] } : ByteArray).extract 2 4).size + nval (({ data := #[49, 46, 53, 48] } : ByteArray).extract 2 4), 10 ^ (({ data := #[49, 46, 53, 48] } : ByteArray).extract 2 4).size) = _
  rw [aw_e1, aw_e2]
  unfold twoErr errN nval
  rw [aw_nval1, aw_nval50]
  decide +kernel
theorem aw_qval : qval aw0 = -3 / 2 := by
  unfold qval
  rw [aw_pp, aw_pneg]
  decide +kernel
theorem aw_t1 (q : Rat) (h : q = -3 / 2) : qtxt q = { data := #[45, 51, 47, 50] } := by
  have hn : q.num = -3 := by rw [h]; decide +kernel
  have hd : q.den = 2 := by rw [h]; decide +kernel
  have e3 : ndec 3 = 1 := by unfold ndec; rw [nl_spec 10 _ 1 (by decide) (by decide)]; decide +kernel
  have e2 : ndec 2 = 1 := by unfold ndec; rw [nl_spec 10 _ 1 (by decide) (by decide)]; decide +kernel
  unfold qtxt; rw [hn, hd, if_neg (by decide)]
  unfold ztxt; rw [if_pos (by decide)]
  show { data := #[45] } ++ txt 3 ++ { data := #[47] } ++ txt 2 = _
  unfold txt; rw [e3, e2]; decide +kernel
theorem aw_t2 (q : Rat) (h : q = 1 / 2) : qtxt q = { data := #[49, 47, 50] } := by
  have hn : q.num = 1 := by rw [h]; decide +kernel
  have hd : q.den = 2 := by rw [h]; decide +kernel
  have e3 : ndec 1 = 1 := by unfold ndec; rw [nl_spec 10 _ 1 (by decide) (by decide)]; decide +kernel
  have e2 : ndec 2 = 1 := by unfold ndec; rw [nl_spec 10 _ 1 (by decide) (by decide)]; decide +kernel
  unfold qtxt; rw [hn, hd, if_neg (by decide)]
  unfold ztxt; rw [if_neg (by decide)]
  show txt 1 ++ { data := #[47] } ++ txt 2 = _
  unfold txt; rw [e3, e2]; decide +kernel
theorem aw_t3 (q : Rat) (h : q = 3) : qtxt q = { data := #[51] } := by
  have hn : q.num = 3 := by rw [h]; decide +kernel
  have hd : q.den = 1 := by rw [h]; decide +kernel
  have e3 : ndec 3 = 1 := by unfold ndec; rw [nl_spec 10 _ 1 (by decide) (by decide)]; decide +kernel
  unfold qtxt; rw [hn, hd, if_pos rfl]
  unfold ztxt; rw [if_neg (by decide)]
  show txt 3 = _
  unfold txt; rw [e3]; decide +kernel
def awa : Rat := (3 : Int) / (10 : Int)
def awb : Rat := (1 : Int) / (2 : Int)
theorem aw_short : shortN (awa.den + awb.den) awa.num.natAbs awa.den awb.num.natAbs awb.den = [0, 2] := by decide +kernel
theorem aw_nz : ∀ i, i + 1 < ([0, 2] : List Nat).length → (unfN (fun i => ((([0, 2] : List Nat).getD i 0 : Nat) : Int)) ([0, 2] : List Nat).length i).1 ≠ 0 := by
  intro i hi
  have hi' : i + 1 < 2 := hi
  obtain rfl : i = 0 := by omega
  decide +kernel
theorem aw_unf : (((unfN (fun i => ((([0, 2] : List Nat).getD i 0 : Nat) : Int)) ([0, 2] : List Nat).length (([0, 2] : List Nat).length - 1)).1 : Rat) / ((unfN (fun i => ((([0, 2] : List Nat).getD i 0 : Nat) : Int)) ([0, 2] : List Nat).length (([0, 2] : List Nat).length - 1)).2 : Rat)) = (1 / 2 : Rat) := by decide +kernel
theorem aw_near : ((((22 : Int) : Rat) / ((7 : Int) : Rat)).floor : Rat) + (((0 : Nat) : Int) : Rat) / (((1 : Nat) : Int) : Rat) = (3 : Rat) := by decide +kernel
theorem qsz_small (q : Rat) (h1 : q.num.natAbs < 4294967296) (h2 : q.den < 4294967296) : qsz q ≤ 1 := by
  unfold qsz; have := nl_small7 _ h1; have := nl_small7 _ h2; omega


end Go.Proofs.YtbelnhpjhpoacaaDoor

namespace Go.Proofs.YtbelnhpjhpoacaaDoor
open Go.ChangeShapes Go.WideShapes Go.ChangeAt Go.RowKit
set_option linter.unusedVariables false

theorem cells_wrat : Tryd.prog.cellsOf 35 = 3 := by kernel_rfl
theorem agg3 {cs : Array Value} (h : cs.size = 3) : ∃ a b c, cs = #[a, b, c] := by
  obtain ⟨l⟩ := cs
  match l, h with
  | [a, b, c], _ => exact ⟨a, b, c, rfl⟩
set_option maxRecDepth 100000 in
theorem open_wrat {H : Type} {enc : TypeId × Value → H} {W : World} {base b0 : Nat} {r : Reach} {v : Value} {d : DataW H} {ps : List MemPlace}
    (hval : Value.okWide Tryd.prog W r b0 35 v) (h : DataW.Trod enc Tryd.prog W base (fun _ => true) true 35 v d ps) :
    ∃ neg ao n c bo m e f g, v = .agg #[.bool neg, .slice ao n c, .slice bo m e] ∧ Raw W (.slice ao n c) n f ∧ Raw W (.slice bo m e) m g := by
  obtain ⟨cs, rfl, hsz⟩ := okWide_struct Tryd.underlying35 hval
  rw [cells_wrat] at hsz
  obtain ⟨c0, c1, c2, rfl⟩ := agg3 hsz
  obtain ⟨fuel, hf⟩ := h
  obtain ⟨y0, y1, m, hx, _, hy0, hy1⟩ := trod_struct2 Tryd.underlying35 hf
  obtain ⟨z0, z1, m2, hx2, _, hz0, hz1⟩ := trod_struct2 Tryd.underlying33 hy0
  obtain ⟨b, e0, _⟩ := DataW.trod_bool Tryd.underlying4 hz0
  obtain ⟨ao, n, c, f, e1, hraw⟩ := open_nat hz1
  obtain ⟨bo, m3, d3, g, e2, hraw2⟩ := open_nat hy1
  simp [Value.cells, cells_bool, cells_nat, cells_wint] at e0 e1 e2
  subst e0 e1 e2
  exact ⟨b, ao, n, c, bo, m3, d3, f, g, rfl, hraw, hraw2⟩
/-- Is the number above 0 digits long? -/
theorem DocQ.len {w : World} {p : Bool} {ao : Option Addr} {n c : Nat} {bo : Option Addr} {m d : Nat} {q : Rat} {L : Nat} (h : DocQ w (.agg #[.bool p, .slice ao n c, .slice bo m d]) q L) : n = 0 ↔ q = 0 := by
  obtain ⟨z, x, h1, rfl⟩ := h
  obtain ⟨hj, _, hx, _⟩ := h1.parts
  rw [mkRat_zero_iff z x hx]
  obtain ⟨ao', c', e, _⟩ := hj
  simp only [Value.agg.injEq, Array.mk.injEq, List.cons.injEq, Value.slice.injEq, and_true] at e
  rw [e.2.2.1, nl_eq_zero 10000 _ (by decide)]
  omega

end Go.Proofs.YtbelnhpjhpoacaaDoor
